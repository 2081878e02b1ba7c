/- The program's TextOf. -/
import Derived.Test.YtaelpjjabkkhcaaGreatDoorYxc
namespace Go.Proofs.YtaelpjjabkkhcaaGreatDoor
open Go.RowKit Go.Deep
set_option linter.unusedVariables false
set_option maxRecDepth 20000

set_option maxHeartbeats 4000000 in
theorem implTe_any (E : En) (a : Option Addr) (cap : Nat) (a' : Option Addr) (cap' : Nat) (w : World) (hs : SmallE E) (h : EngAt w a a' E) (hP : PowAt w) :
    Calls Tryz.prog 7 #[.agg #[.int .i64 E.nx, .int .i64 E.ck, .slice a E.p cap, .slice a' E.q cap']] w (TRs w E) := by
  have HP : Hid (PowAt w) := hP
  have HX : Hid (EngAt w a a' E) := h
  have hmo : Tryz.prog.follows .mixedOrders = true := by kernel_rfl
  have hp0 := hs.p
  have hq0 := hs.q
  have HSm : Hid (SmallE E) := hs
  clear h hP hs
  go_enter Tryz.func7, Tryz.ntmps7
  go_upto_region 1 with fail
  have K0 : Hid (KT w ((w.alloc (.cells #[.int .i64 E.nx, .int .i64 E.ck, .slice a E.p cap, .slice a' E.q cap'] 33)).alloc (.cells #[.int .i64 0, .string ⟨#[]⟩] 28)) E a cap a' cap') := KT.new _ _ _ _ _ _ _ _
  generalize ((w.alloc (.cells #[.int .i64 E.nx, .int .i64 E.ck, .slice a E.p cap, .slice a' E.q cap'] 33)).alloc (.cells #[.int .i64 0, .string ⟨#[]⟩] 28)) = w0 at *
  obtain ⟨y0, y1, y2, y3⟩ := K0.out.2.1
  go_wp2_with fail
  refine (implEf_any E a cap a' cap' w0 HSm.out ⟨HX.out.1.below K0.out.1, HX.out.2.below K0.out.1⟩).mono ?_
  rintro e w1 ⟨rfl, hb1⟩
  have K1 : Hid (KT w w1 E a cap a' cap') := K0.out.below hb1
  clear hb1 K0 y0 y1 y2 y3
  by_cases hc : eF E = 0
  · have HG : Hid (GoodT E) := eT_good hc
    have HE : Hid (eF E = 0 ∧ tE E = eT E) := ⟨hc, tE_ok hc⟩
    rw [hc]
    clear hc
    obtain ⟨nx0, nx1⟩ := HG.out.nx
    obtain ⟨ck0, ck1⟩ := HG.out.ck
    have hp20 := HG.out.p
    have hq32 := HG.out.q
    have hl0 := eT0_size HG.out
    have HL0 : Hid (txt [clkB, dg E.ck.toNat, dg E.nx.toNat] ++ nl = eT0 E) := (by rw [eT0, ← txt_lnT]; rfl : txt [clkB, dg E.ck.toNat, dg E.nx.toNat] ++ nl = eT0 E)
    have hD : (txt [clkB, dg E.ck.toNat, dg E.nx.toNat]).size ≤ 100000000 := by
      have h1 := congrArg ByteArray.size HL0.out
      rw [ByteArray.size_append] at h1
      omega
    go_upto_region 4 with fail
    refine wp_region_E 999 (S := fun u => KT w u E a cap a' cap') hmo K1.out.drewn (fun hS => ?_)
    refine wpAnyE_takeD (L := 999) (i := 0) (v := .pointer (some ⟨w.heap.size, 1, none⟩)) (some 18) rfl rfl (by kernel_rfl) (by kernel_rfl) (by kernel_rfl) (by kernel_rfl) (fun _ _ _ h => h) (Or.inl ⟨by kernel_rfl, by intro u hSu; obtain ⟨-, ⟨p0, p1, p2, p3⟩, -⟩ := hSu; go_simp⟩) hS ?_
    try simp only [Act.put, List.setIfInBounds_toArray, List.set_cons_zero, List.set_cons_succ]
    refine wpAnyE_takeD (L := 999) (i := 1) (v := .int .i64 E.ck) (some 19) rfl rfl (by kernel_rfl) (by kernel_rfl) (by kernel_rfl) (by kernel_rfl) (fun _ _ _ h => h) (Or.inl ⟨by kernel_rfl, by intro u hSu; obtain ⟨-, ⟨p0, p1, p2, p3⟩, -⟩ := hSu; go_simp⟩) hS ?_
    try simp only [Act.put, List.setIfInBounds_toArray, List.set_cons_zero, List.set_cons_succ]
    refine wpAnyE_takeD (L := 999) (i := 3) (v := .pointer (some ⟨w.heap.size, 0, none⟩)) (some 21) rfl rfl (by kernel_rfl) (by kernel_rfl) (by kernel_rfl) (by kernel_rfl) (fun _ _ _ h => h) (Or.inl ⟨by kernel_rfl, by intro u hSu; obtain ⟨-, ⟨p0, p1, p2, p3⟩, -⟩ := hSu; go_simp⟩) hS ?_
    try simp only [Act.put, List.setIfInBounds_toArray, List.set_cons_zero, List.set_cons_succ]
    refine wpAnyE_takeD (L := 999) (i := 4) (v := .int .i64 E.nx) (some 22) rfl rfl (by kernel_rfl) (by kernel_rfl) (by kernel_rfl) (by kernel_rfl) (fun _ _ _ h => h) (Or.inl ⟨by kernel_rfl, by intro u hSu; obtain ⟨-, ⟨p0, p1, p2, p3⟩, -⟩ := hSu; go_simp⟩) hS ?_
    try simp only [Act.put, List.setIfInBounds_toArray, List.set_cons_zero, List.set_cons_succ]
    refine wpAnyE_ready (rs := [2]) (by kernel_rfl) (by simp) ?_
    refine AllReadyE.cons rfl (fun K9 hK => ?_) AllReadyE.nil
    go_simp
    refine (decI_any E.ck (by omega) (by omega) _ (HP.out.below hS.1)).mono ?_
    rintro e w2 ⟨rfl, hb2⟩
    refine hK.out _ _ (hS.below hb2) (fun hS9 => ?_)
    try simp only [Act.put, List.setIfInBounds_toArray, List.set_cons_zero, List.set_cons_succ]
    clear hK K9 hS
    have hS := hS9
    clear hS9
    clear hb2
    refine wpAnyE_ready (rs := [5]) (by kernel_rfl) (by simp) ?_
    refine AllReadyE.cons rfl (fun K9 hK => ?_) AllReadyE.nil
    go_simp
    refine (decI_any E.nx (by omega) (by omega) _ (HP.out.below hS.1)).mono ?_
    rintro e w3 ⟨rfl, hb3⟩
    refine hK.out _ _ (hS.below hb3) (fun hS9 => ?_)
    try simp only [Act.put, List.setIfInBounds_toArray, List.set_cons_zero, List.set_cons_succ]
    clear hK K9 hS
    have hS := hS9
    clear hS9
    clear hb3
    refine wpAnyE_ready (rs := [6]) (by kernel_rfl) (by simp) ?_
    refine AllReadyE.cons rfl (fun K9 hK => ?_) AllReadyE.nil
    go_simp
    refine hK.out _ _ (hS.alloc _) (fun hS9 => ?_)
    try simp only [Act.put, List.setIfInBounds_toArray, List.set_cons_zero, List.set_cons_succ]
    clear hK K9 hS
    have hS := hS9
    clear hS9
    refine wpAnyE_ready (rs := [7]) (by kernel_rfl) (by simp) ?_
    refine AllReadyE.cons rfl (fun K9 hK => ?_) AllReadyE.nil
    go_simp
    refine (lineOf_any [clkB, dg E.ck.toNat, dg E.nx.toNat] w3.heap.size 0 3 _ (by simp) (by simp) (by simp) (lit_cells w3 _ _ _ rfl) (by simp) hD).mono ?_
    rintro e w4 ⟨rfl, hb4⟩
    refine hK.out _ _ (hS.below hb4) (fun hS9 => ?_)
    try simp only [Act.put, List.setIfInBounds_toArray, List.set_cons_zero, List.set_cons_succ]
    clear hK K9 hS
    have hS := hS9
    clear hS9
    clear hb4
    refine wpAnyE_takeD (L := 999) (i := 8) (v := .string (txt [clkB, dg E.ck.toNat, dg E.nx.toNat] ++ nl)) (some 4) rfl rfl (by kernel_rfl) (by kernel_rfl) (by kernel_rfl) (by kernel_rfl) (fun _ _ _ h => h) (Or.inl ⟨by kernel_rfl, by intro u hSu; go_simp⟩) hS ?_
    try simp only [Act.put, List.setIfInBounds_toArray, List.set_cons_zero, List.set_cons_succ]
    have K4 : Hid (KT w w4 E a cap a' cap') := hS
    refine wpAnyE_done (by kernel_rfl) ?_ _
    go_simp
    clear K1 hD
    obtain ⟨y0, y1, y2, y3⟩ := K4.out.2.1
    go_wp2_with fail
    go_loopw [4, 6, 29] (fun v _ i wr => ∃ q : Nat, q ≤ E.p ∧ i = .int .i64 q ∧ Hid (KT w wr E a cap a' cap') ∧ v = .string (TT (eT0 E) E.T q)) (fun _ _ i _ => E.p - (intOf i).toNat)
    case atStart => exact ⟨0, Nat.zero_le _, rfl, K4, by rw [HL0.out]; rfl⟩
    case round =>
      clear K4 y0 y1 y2 y3 HL0
      obtain ⟨q, hq, rfl, HK, rfl⟩ := hrel
      have hts := TTe_size HG.out hq
      by_cases hlt : q < E.p
      · have hlt' : (q : Int) < (E.p : Int) := by omega
        have hqz : (0 : Int) ≤ (q : Int) := by omega
        rcases HX.out.1 with h | ⟨b, off, ha, hbl, hcc⟩
        · omega
        obtain ⟨ai, ci, hct, hcu, hci⟩ := hcc q hlt
        have hin := HG.out.t q hlt
        have hn60 : (E.T q).n ≤ 1048576 := HSm.out.t q hlt
        have HNX : Hid (TT (eT0 E) E.T (q + 1) = TT (eT0 E) E.T q ++ (lnT txnB (txL (E.T q)) ++ nl)) := rfl
        have hxs := txT_size hin
        obtain ⟨b0, b1, b2, b3, b4⟩ := hct
        replace b0 := cell_below b0 HK.out.1
        replace b1 := cell_below b1 HK.out.1
        replace b2 := cell_below b2 HK.out.1
        replace b3 := cell_below b3 HK.out.1
        replace b4 := cell_below b4 HK.out.1
        subst ha
        clear hcc hcu
        generalize E.T q = tx at *
        obtain ⟨d0, d1, d2, d3, dn, dU⟩ := tx
        simp only at b0 b1 b2 b3 b4 hci hn60
        have i0 := hin d0 (by simp [txL])
        have i1 := hin d1 (by simp [txL])
        have i2 := hin d2 (by simp [txL])
        have i3 := hin d3 (by simp [txL])
        have i4 := hin (dn : Int) (by simp [txL])
        obtain ⟨i00, i01⟩ := i0
        obtain ⟨i10, i11⟩ := i1
        obtain ⟨i20, i21⟩ := i2
        obtain ⟨i30, i31⟩ := i3
        obtain ⟨i40, i41⟩ := i4
        have HLN : Hid (txt [txnB, dg d0.toNat, dg d1.toNat, dg d2.toNat, dg d3.toNat, dg dn] = lnT txnB (txL ⟨d0, d1, d2, d3, dn, dU⟩)) := (by rw [← txt_lnT]; rfl : txt [txnB, dg d0.toNat, dg d1.toNat, dg d2.toNat, dg d3.toNat, dg dn] = lnT txnB (txL ⟨d0, d1, d2, d3, dn, dU⟩))
        have hD : (txt [txnB, dg d0.toNat, dg d1.toNat, dg d2.toNat, dg d3.toNat, dg dn]).size ≤ 100000000 := by
          rw [HLN.out]
          simp only [txT, ByteArray.size_append] at hxs
          omega
        have hadd : ∀ u : World, (Op.stringOp .add (TT (eT0 E) E.T q) (txt [txnB, dg d0.toNat, dg d1.toNat, dg d2.toNat, dg d3.toNat, dg dn] ++ nl)).run Tryz.prog u = .ok (.string (TT (eT0 E) E.T q ++ (txt [txnB, dg d0.toNat, dg d1.toNat, dg d2.toNat, dg d3.toNat, dg dn] ++ nl))) u := fun u => run_string_add_sum u _ _ (by rw [HLN.out]; simp only [txT] at hxs; omega)
        clear hin hxs
        generalize TT (eT0 E) E.T q = TQ at *
        go_upto_region 8 with fail
        have K5 := HK.out.alloc (.cells #[.int .i64 d0, .int .i64 d1, .int .i64 d2, .int .i64 d3, .slice ai dn ci] 45)
        have X5 := Box5.new wr (.int .i64 d0) (.int .i64 d1) (.int .i64 d2) (.int .i64 d3) (.slice ai dn ci) 45
        generalize (wr.alloc (.cells #[.int .i64 d0, .int .i64 d1, .int .i64 d2, .int .i64 d3, .slice ai dn ci] 45)) = w5 at *
        generalize wr.heap.size = B at *
        clear b0 b1 b2 b3 b4
        refine wp_region_E 999 (S := fun u => KT w u E (some ⟨b, off, none⟩) cap a' cap' ∧ Box5 u B (.int .i64 d0) (.int .i64 d1) (.int .i64 d2) (.int .i64 d3) (.slice ai dn ci)) hmo ⟨K5.drewn, X5⟩ (fun hS => ?_)
        refine wpAnyE_takeD (L := 999) (i := 0) (v := .string TQ) (some 33) rfl rfl (by kernel_rfl) (by kernel_rfl) (by kernel_rfl) (by kernel_rfl) (fun _ _ _ h => h) (Or.inl ⟨by kernel_rfl, by intro u hSu; go_simp⟩) hS ?_
        try simp only [Act.put, List.setIfInBounds_toArray, List.set_cons_zero, List.set_cons_succ]
        refine wpAnyE_takeD (L := 999) (i := 1) (v := .pointer (some ⟨B, 0, none⟩)) (some 34) rfl rfl (by kernel_rfl) (by kernel_rfl) (by kernel_rfl) (by kernel_rfl) (fun _ _ _ h => h) (Or.inl ⟨by kernel_rfl, by intro u hSu; obtain ⟨-, p0, p1, p2, p3, p4⟩ := hSu; go_simp⟩) hS ?_
        try simp only [Act.put, List.setIfInBounds_toArray, List.set_cons_zero, List.set_cons_succ]
        refine wpAnyE_takeD (L := 999) (i := 2) (v := .int .i64 d0) (some 35) rfl rfl (by kernel_rfl) (by kernel_rfl) (by kernel_rfl) (by kernel_rfl) (fun _ _ _ h => h) (Or.inl ⟨by kernel_rfl, by intro u hSu; obtain ⟨-, p0, p1, p2, p3, p4⟩ := hSu; go_simp⟩) hS ?_
        try simp only [Act.put, List.setIfInBounds_toArray, List.set_cons_zero, List.set_cons_succ]
        refine wpAnyE_takeD (L := 999) (i := 4) (v := .pointer (some ⟨B, 1, none⟩)) (some 37) rfl rfl (by kernel_rfl) (by kernel_rfl) (by kernel_rfl) (by kernel_rfl) (fun _ _ _ h => h) (Or.inl ⟨by kernel_rfl, by intro u hSu; obtain ⟨-, p0, p1, p2, p3, p4⟩ := hSu; go_simp⟩) hS ?_
        try simp only [Act.put, List.setIfInBounds_toArray, List.set_cons_zero, List.set_cons_succ]
        refine wpAnyE_takeD (L := 999) (i := 5) (v := .int .i64 d1) (some 38) rfl rfl (by kernel_rfl) (by kernel_rfl) (by kernel_rfl) (by kernel_rfl) (fun _ _ _ h => h) (Or.inl ⟨by kernel_rfl, by intro u hSu; obtain ⟨-, p0, p1, p2, p3, p4⟩ := hSu; go_simp⟩) hS ?_
        try simp only [Act.put, List.setIfInBounds_toArray, List.set_cons_zero, List.set_cons_succ]
        refine wpAnyE_takeD (L := 999) (i := 7) (v := .pointer (some ⟨B, 2, none⟩)) (some 40) rfl rfl (by kernel_rfl) (by kernel_rfl) (by kernel_rfl) (by kernel_rfl) (fun _ _ _ h => h) (Or.inl ⟨by kernel_rfl, by intro u hSu; obtain ⟨-, p0, p1, p2, p3, p4⟩ := hSu; go_simp⟩) hS ?_
        try simp only [Act.put, List.setIfInBounds_toArray, List.set_cons_zero, List.set_cons_succ]
        refine wpAnyE_takeD (L := 999) (i := 8) (v := .int .i64 d2) (some 41) rfl rfl (by kernel_rfl) (by kernel_rfl) (by kernel_rfl) (by kernel_rfl) (fun _ _ _ h => h) (Or.inl ⟨by kernel_rfl, by intro u hSu; obtain ⟨-, p0, p1, p2, p3, p4⟩ := hSu; go_simp⟩) hS ?_
        try simp only [Act.put, List.setIfInBounds_toArray, List.set_cons_zero, List.set_cons_succ]
        refine wpAnyE_takeD (L := 999) (i := 10) (v := .pointer (some ⟨B, 3, none⟩)) (some 43) rfl rfl (by kernel_rfl) (by kernel_rfl) (by kernel_rfl) (by kernel_rfl) (fun _ _ _ h => h) (Or.inl ⟨by kernel_rfl, by intro u hSu; obtain ⟨-, p0, p1, p2, p3, p4⟩ := hSu; go_simp⟩) hS ?_
        try simp only [Act.put, List.setIfInBounds_toArray, List.set_cons_zero, List.set_cons_succ]
        refine wpAnyE_takeD (L := 999) (i := 11) (v := .int .i64 d3) (some 44) rfl rfl (by kernel_rfl) (by kernel_rfl) (by kernel_rfl) (by kernel_rfl) (fun _ _ _ h => h) (Or.inl ⟨by kernel_rfl, by intro u hSu; obtain ⟨-, p0, p1, p2, p3, p4⟩ := hSu; go_simp⟩) hS ?_
        try simp only [Act.put, List.setIfInBounds_toArray, List.set_cons_zero, List.set_cons_succ]
        refine wpAnyE_takeD (L := 999) (i := 13) (v := .pointer (some ⟨B, 4, none⟩)) (some 46) rfl rfl (by kernel_rfl) (by kernel_rfl) (by kernel_rfl) (by kernel_rfl) (fun _ _ _ h => h) (Or.inl ⟨by kernel_rfl, by intro u hSu; obtain ⟨-, p0, p1, p2, p3, p4⟩ := hSu; go_simp⟩) hS ?_
        try simp only [Act.put, List.setIfInBounds_toArray, List.set_cons_zero, List.set_cons_succ]
        refine wpAnyE_takeD (L := 999) (i := 14) (v := .slice ai dn ci) (some 47) rfl rfl (by kernel_rfl) (by kernel_rfl) (by kernel_rfl) (by kernel_rfl) (fun _ _ _ h => h) (Or.inl ⟨by kernel_rfl, by intro u hSu; obtain ⟨-, p0, p1, p2, p3, p4⟩ := hSu; go_simp⟩) hS ?_
        try simp only [Act.put, List.setIfInBounds_toArray, List.set_cons_zero, List.set_cons_succ]
        refine wpAnyE_takeD (L := 999) (i := 15) (v := .int .i64 (dn : Int)) (some 48) rfl rfl (by kernel_rfl) (by kernel_rfl) (by kernel_rfl) (by kernel_rfl) (fun _ _ _ h => h) (Or.inl ⟨by kernel_rfl, by intro u hSu; obtain ⟨-, p0, p1, p2, p3, p4⟩ := hSu; go_simp⟩) hS ?_
        try simp only [Act.put, List.setIfInBounds_toArray, List.set_cons_zero, List.set_cons_succ]
        refine wpAnyE_ready (rs := [3]) (by kernel_rfl) (by simp) ?_
        refine AllReadyE.cons rfl (fun K9 hK => ?_) AllReadyE.nil
        go_simp
        refine (decI_any d0 (by omega) (by omega) _ (HP.out.below hS.1.1)).mono ?_
        rintro e v0 ⟨rfl, hb0⟩
        refine hK.out _ _ (⟨hS.1.below hb0, hS.2.below hb0⟩) (fun hS9 => ?_)
        try simp only [Act.put, List.setIfInBounds_toArray, List.set_cons_zero, List.set_cons_succ]
        clear hK K9 hS
        have hS := hS9
        clear hS9
        clear hb0
        refine wpAnyE_ready (rs := [6]) (by kernel_rfl) (by simp) ?_
        refine AllReadyE.cons rfl (fun K9 hK => ?_) AllReadyE.nil
        go_simp
        refine (decI_any d1 (by omega) (by omega) _ (HP.out.below hS.1.1)).mono ?_
        rintro e v1 ⟨rfl, hb1⟩
        refine hK.out _ _ (⟨hS.1.below hb1, hS.2.below hb1⟩) (fun hS9 => ?_)
        try simp only [Act.put, List.setIfInBounds_toArray, List.set_cons_zero, List.set_cons_succ]
        clear hK K9 hS
        have hS := hS9
        clear hS9
        clear hb1
        refine wpAnyE_ready (rs := [9]) (by kernel_rfl) (by simp) ?_
        refine AllReadyE.cons rfl (fun K9 hK => ?_) AllReadyE.nil
        go_simp
        refine (decI_any d2 (by omega) (by omega) _ (HP.out.below hS.1.1)).mono ?_
        rintro e v2 ⟨rfl, hb2⟩
        refine hK.out _ _ (⟨hS.1.below hb2, hS.2.below hb2⟩) (fun hS9 => ?_)
        try simp only [Act.put, List.setIfInBounds_toArray, List.set_cons_zero, List.set_cons_succ]
        clear hK K9 hS
        have hS := hS9
        clear hS9
        clear hb2
        refine wpAnyE_ready (rs := [12]) (by kernel_rfl) (by simp) ?_
        refine AllReadyE.cons rfl (fun K9 hK => ?_) AllReadyE.nil
        go_simp
        refine (decI_any d3 (by omega) (by omega) _ (HP.out.below hS.1.1)).mono ?_
        rintro e v3 ⟨rfl, hb3⟩
        refine hK.out _ _ (⟨hS.1.below hb3, hS.2.below hb3⟩) (fun hS9 => ?_)
        try simp only [Act.put, List.setIfInBounds_toArray, List.set_cons_zero, List.set_cons_succ]
        clear hK K9 hS
        have hS := hS9
        clear hS9
        clear hb3
        refine wpAnyE_ready (rs := [16]) (by kernel_rfl) (by simp) ?_
        refine AllReadyE.cons rfl (fun K9 hK => ?_) AllReadyE.nil
        go_simp
        refine (decimal_any dn (by omega) _ (HP.out.below hS.1.1)).mono ?_
        rintro e v4 ⟨rfl, hb4⟩
        refine hK.out _ _ (⟨hS.1.below hb4, hS.2.below hb4⟩) (fun hS9 => ?_)
        try simp only [Act.put, List.setIfInBounds_toArray, List.set_cons_zero, List.set_cons_succ]
        clear hK K9 hS
        have hS := hS9
        clear hS9
        clear hb4
        refine wpAnyE_ready (rs := [17]) (by kernel_rfl) (by simp) ?_
        refine AllReadyE.cons rfl (fun K9 hK => ?_) AllReadyE.nil
        go_simp
        refine hK.out _ _ (⟨hS.1.alloc _, hS.2.alloc _⟩) (fun hS9 => ?_)
        try simp only [Act.put, List.setIfInBounds_toArray, List.set_cons_zero, List.set_cons_succ]
        clear hK K9 hS
        have hS := hS9
        clear hS9
        refine wpAnyE_ready (rs := [18]) (by kernel_rfl) (by simp) ?_
        refine AllReadyE.cons rfl (fun K9 hK => ?_) AllReadyE.nil
        go_simp
        refine (lineOf_any [txnB, dg d0.toNat, dg d1.toNat, dg d2.toNat, dg d3.toNat, dg dn] v4.heap.size 0 6 _ (by simp) (by simp) (by simp) (lit_cells v4 _ _ _ rfl) (by simp) hD).mono ?_
        rintro e v5 ⟨rfl, hb5⟩
        refine hK.out _ _ (⟨hS.1.below hb5, hS.2.below hb5⟩) (fun hS9 => ?_)
        try simp only [Act.put, List.setIfInBounds_toArray, List.set_cons_zero, List.set_cons_succ]
        clear hK K9 hS
        have hS := hS9
        clear hS9
        clear hb5
        refine wpAnyE_takeD (L := 999) (i := 19) (v := .string (TQ ++ (txt [txnB, dg d0.toNat, dg d1.toNat, dg d2.toNat, dg d3.toNat, dg dn] ++ nl))) (some 52) rfl rfl (by kernel_rfl) (by kernel_rfl) (by kernel_rfl) (by kernel_rfl) (fun _ _ _ h => h) (Or.inl ⟨by kernel_rfl, by intro u hSu; go_simp⟩) hS ?_
        try simp only [Act.put, List.setIfInBounds_toArray, List.set_cons_zero, List.set_cons_succ]
        refine wpAnyE_takeD (L := 999) (i := 20) (v := .string (TQ ++ (txt [txnB, dg d0.toNat, dg d1.toNat, dg d2.toNat, dg d3.toNat, dg dn] ++ nl))) (some 4) rfl rfl (by kernel_rfl) (by kernel_rfl) (by kernel_rfl) (by kernel_rfl) (fun _ _ _ h => h) (Or.inl ⟨by kernel_rfl, by intro u hSu; go_simp⟩) hS ?_
        try simp only [Act.put, List.setIfInBounds_toArray, List.set_cons_zero, List.set_cons_succ]
        have K6 : Hid (KT w v5 E (some ⟨b, off, none⟩) cap a' cap') := hS.1
        clear K5 X5
        refine wpAnyE_done (by kernel_rfl) ?_ _
        go_simp
        go_wp2_with fail
        go_roundw
        case rel => exact ⟨q + 1, hlt, by go_num, K6, by rw [HNX.out, ← HLN.out]⟩
        case measure => simp [intOf]; omega
      · have hqn : q = E.p := by omega
        subst hqn
        have hge : ¬ ((E.p : Nat) : Int) < ((E.p : Nat) : Int) := by omega
        obtain ⟨y0, y1, y2, y3⟩ := HK.out.2.1
        have HR0 : Hid (TT (eT0 E) E.T E.p = RT (TT (eT0 E) E.T E.p) E.R 0) := rfl
        go_wp2_with fail
        go_loopw [4, 8, 9, 11, 57, 66, 67, 68] (fun v _ _ _ i _ _ _ wr => ∃ q : Nat, q ≤ E.q ∧ i = .int .i64 q ∧ Hid (KT w wr E a cap a' cap') ∧ v = .string (RT (TT (eT0 E) E.T E.p) E.R q)) (fun _ _ _ _ i _ _ _ _ => E.q - (intOf i).toNat)
        case atStart => exact ⟨0, Nat.zero_le _, rfl, HK, rfl⟩
        case round =>
          clear HK y0 y1 y2 y3 HR0 hge hlt hts
          obtain ⟨q, hq, rfl, HK, rfl⟩ := hrel
          have hts := RTe_size HG.out hq
          by_cases hlt : q < E.q
          · have hlt' : (q : Int) < (E.q : Int) := by omega
            have hqz : (0 : Int) ≤ (q : Int) := by omega
            rcases HX.out.2 with h | ⟨b, off, ha, hbl, hcc⟩
            · omega
            obtain ⟨ai, ci, hct, hcu, hci⟩ := hcc q hlt
            obtain ⟨hkey, hn12, hvers⟩ := HG.out.r q hlt
            have HV : Hid (VersAt w ai (E.R q).n (E.R q).U) := hcu
            have HVR : Hid (∀ j, j < (E.R q).n → vR ((E.R q).U j) = true) := hvers
            have hxs := rwT_size hkey hn12 hvers
            have HNX : Hid (RT (TT (eT0 E) E.T E.p) E.R (q + 1) = RT (TT (eT0 E) E.T E.p) E.R q ++ rwT (E.R q)) := rfl
            have HRW : Hid (txt (rws (E.R q).key (E.R q).U (E.R q).n) ++ nl = rwT (E.R q)) := (by rw [rws_txt]; rfl : txt (rws (E.R q).key (E.R q).U (E.R q).n) ++ nl = rwT (E.R q))
            obtain ⟨b0, b1⟩ := hct
            replace b0 := cell_below b0 HK.out.1
            replace b1 := cell_below b1 HK.out.1
            subst ha
            clear hcc hcu hvers
            generalize RT (TT (eT0 E) E.T E.p) E.R q = TQ at *
            generalize E.R q = rw0 at *
            obtain ⟨ky, n, U⟩ := rw0
            simp only at b0 b1 hci hkey hn12
            obtain ⟨hk0, hk31⟩ := hkey
            go_upto_region 13 with fail
            have K5 : Hid (KT w (wr.alloc (.cells #[.int .i64 ky, .slice ai n ci] 49)) E a cap (some ⟨b, off, none⟩) cap') := HK.out.alloc _
            have X5 := Box2.new wr (.int .i64 ky) (.slice ai n ci) 49
            generalize (wr.alloc (.cells #[.int .i64 ky, .slice ai n ci] 49)) = w5 at *
            generalize wr.heap.size = B at *
            clear b0 b1
            obtain ⟨x0, x1⟩ := X5
            go_wp2_with fail
            refine (decI_any ky (by omega) (by omega) _ (HP.out.below K5.out.1)).mono ?_
            rintro e w6 ⟨rfl, hb6⟩
            have K6 : Hid (KT w w6 E a cap (some ⟨b, off, none⟩) cap') := K5.out.below hb6
            replace x1 := cell_below x1 hb6
            clear hb6 x0 K5
            have x2 : ∀ o, (w6.alloc o).cell? ⟨B, 1, none⟩ = some (.slice ai n ci) := fun o => cell_alloc x1 o
            have HO0 : Hid ((w6.alloc (.cells #[.string rowB, .string (dg ky.toNat)] 9)).ownsRow w6.heap.size 9 1 (.slice (some ⟨w6.heap.size, 0, none⟩) 2 2) (rws ky U 0).length (svl (rws ky U 0))) := World.ownsRow_lit w6 #[.string rowB, .string (dg ky.toNat)] (e := 9) (size := 1) (base := w6.heap.size) 2 (by simp) (by unfold maxLen; omega) rfl
            have K7 : Hid (KT w (w6.alloc (.cells #[.string rowB, .string (dg ky.toNat)] 9)) E a cap (some ⟨b, off, none⟩) cap') := K6.out.alloc _
            have hM0 : w.heap.size + 2 ≤ w6.heap.size := K6.out.2.2.2.2
            have hM1 : w6.heap.size < (w6.alloc (.cells #[.string rowB, .string (dg ky.toNat)] 9)).heap.size := by simp
            go_upto_region 14 with fail
            rw [show (⟨#[114, 111, 119]⟩ : ByteArray) = rowB from rfl]
            have x3 := x2 (.cells #[.string rowB, .string (dg ky.toNat)] 9)
            generalize (w6.alloc (.cells #[.string rowB, .string (dg ky.toNat)] 9)) = w7 at *
            generalize w6.heap.size = M at *
            clear x1 x2 K6
            go_wp2_with fail
            go_loopw [9, 11, 68] (fun v _ i wr => ∃ j : Nat, j ≤ n ∧ i = .int .i64 j ∧ Hid (KT w wr E a cap (some ⟨b, off, none⟩) cap') ∧ Hid (wr.ownsRow M 9 1 v (rws ky U j).length (svl (rws ky U j))) ∧ Hid (M < wr.heap.size)) (fun _ _ i _ => n - (intOf i).toNat)
            case atStart => exact ⟨0, Nat.zero_le _, rfl, K7, HO0, hM1⟩
            case round =>
              clear K7 HO0 hM1 x3 hxs
              obtain ⟨j, hj, rfl, HK7, HO, HM⟩ := hrel
              by_cases hjl : j < n
              · have hjl' : (j : Int) < (n : Int) := by omega
                have hjz : (0 : Int) ≤ (j : Int) := by omega
                rcases HV.out with h | ⟨vb, vo, hva, hvl, hvc⟩
                · omega
                have hv4 := hvc j hjl
                have hvr := HVR.out j hjl
                have HWS : Hid (rws ky U (j + 1) = rws ky U j ++ [vt (U j)]) := rws_succ ky U j
                subst hva
                clear hvc
                generalize U j = vv at *
                obtain ⟨vt0, va0, vg0, vv0⟩ := vv
                obtain ⟨e0, e1, e2, e3⟩ := hv4
                replace e0 := cell_below e0 HK7.out.1
                replace e1 := cell_below e1 HK7.out.1
                replace e2 := cell_below e2 HK7.out.1
                replace e3 := cell_below e3 HK7.out.1
                simp only at e0 e1 e2 e3
                have hMs := HM.out
                go_wp2_with fail
                refine (versionWord_any vt0 va0 vg0 vv0 _ hvr (HP.out.below (HK7.out.alloc _).1)).mono ?_
                rintro e w8 ⟨rfl, hb8⟩
                have HK8 : Hid (KT w w8 E a cap (some ⟨b, off, none⟩) cap') := (HK7.out.alloc _).below hb8
                have HO8 : Hid (w8.ownsRow M 9 1 u9 (rws ky U j).length (svl (rws ky U j))) := own_belowS (HO.out.alloc _) hb8
                have HM8 : Hid (M < w8.heap.size) := by have h := hb8.size; simp at h; show M < w8.heap.size; omega
                have hMs8 := HM8.out
                have hwl : (rws ky U j).length ≤ 2000000 := by rw [rws_len]; omega
                clear hb8 HK7 HO HM hMs e0 e1 e2 e3
                go_wp2_with (at_builtin; refine wpList_appS _ rfl (.tmp 72) (.tmp 75) rfl M _ (rws ky U j) rfl (HO8.out.alloc _) w8.heap.size (vt ⟨vt0, va0, vg0, vv0⟩) rfl (cell_lit _ _ _) hwl (by simp; omega) ?_)
                intro v1 w9 ho9 hg9 _
                have HK9 : Hid (KT w w9 E a cap (some ⟨b, off, none⟩) cap') := (HK8.out.alloc _).grow hg9 (fun q hq => by have := (HO8.out.lt q hq).1; omega)
                have HO9 : Hid (w9.ownsRow M 9 1 v1 (rws ky U (j + 1)).length (svl (rws ky U (j + 1)))) := by rw [HWS.out, List.length_append]; exact ho9
                have HM9 : Hid (M < w9.heap.size) := by have h := hg9.size; simp at h; show M < w9.heap.size; omega
                clear ho9 hg9
                go_wp2_with fail
                go_roundw
                case rel => exact ⟨j + 1, hjl, by go_num, HK9, HO9, HM9⟩
                case measure => simp [intOf]; omega
              · have hjn : j = n := by omega
                subst hjn
                obtain ⟨va, vc, rfl, hvc, hat⟩ := strs_of_own HO.out
                rcases hat with h | ⟨pb, po, rfl, hpb, hcell⟩
                · rw [rws_len] at h; omega
                have hxs2 : (txt (rws ky U j) ++ nl).size ≤ 900 := by
                  rw [HRW.out]
                  exact rwT_size ⟨hk0, hk31⟩ hn12 HVR.out
                have hxs3 : (txt (rws ky U j)).size ≤ 100000000 := by rw [ByteArray.size_append] at hxs2; omega
                have hlr : (rws ky U j).length ≤ 100 := by rw [rws_len]; omega
                have hl1 : 1 ≤ (rws ky U j).length := by rw [rws_len]; omega
                have hcl : ∀ (i : Nat) x, (rws ky U j)[i]? = some x → wr.cell? ⟨pb, po + i, none⟩ = some (.string x) := fun i x hi => by
                  have hil : i < (rws ky U j).length := (List.getElem?_eq_some_iff.1 hi).1
                  rw [hcell i hil]
                  simp only [sg, List.getD, hi, Option.getD_some]
                have HLL : Hid (Calls Tryz.prog 18 #[.slice (some ⟨pb, po, none⟩) (rws ky U j).length vc] wr fun e w' => e = .returned (.string (txt (rws ky U j) ++ nl)) ∧ Below wr.heap.size wr w') := lineOf_any _ pb po vc wr hl1 hvc hpb hcl (by omega) hxs3
                have hadd : ∀ u : World, (Op.stringOp .add TQ (txt (rws ky U j) ++ nl)).run Tryz.prog u = .ok (.string (TQ ++ (txt (rws ky U j) ++ nl))) u := fun u => run_string_add_sum u _ _ (by omega)
                clear hcell hcl
                generalize txt (rws ky U j) ++ nl = LN at *
                generalize hRL : (rws ky U j).length = rl at *
                clear hRL
                have hge : ¬ (j : Int) < (j : Int) := by omega
                go_wp2_with fail
                refine HLL.out.mono ?_
                rintro e w9 ⟨rfl, hb9⟩
                have HK9 : Hid (KT w w9 E a cap (some ⟨b, off, none⟩) cap') := HK7.out.below hb9
                clear hb9
                go_wp2_with fail
                go_roundw
                case rel => exact ⟨q + 1, hlt, by go_num, HK9, by rw [HNX.out, ← HRW.out]⟩
                case measure => simp [intOf]; omega
          · have hqn : q = E.q := by omega
            subst hqn
            have hge : ¬ ((E.q : Nat) : Int) < ((E.q : Nat) : Int) := by omega
            have HET : Hid (RT (TT (eT0 E) E.T E.p) E.R E.q = tE E) := (HE.out.2.symm : eT E = tE E)
            generalize RT (TT (eT0 E) E.T E.p) E.R E.q = TQ at *
            obtain ⟨hB9, -, ⟨z0, z1⟩, zf, -⟩ := HK.out
            have HB9 : Hid (Below w.heap.size w wr) := hB9
            clear hB9
            go_wp2_with fail
            refine bodyPost_ret (v := .agg #[.int .i64 0, .string TQ]) (by simp [results, Tryz.results7, go_sem, z0, z1]) rfl ?_
            refine ⟨by rw [HE.out.1, HET.out], ?_⟩
            repeat (first | with_reducible exact HB9.out | with_reducible refine Below.setCell ?_ (by first | omega | (simp <;> omega)) _)
  · have htt := tE_no hc
    have HE : Hid (tE E = ByteArray.empty) := htt
    obtain ⟨hB9, -, ⟨z0, z1⟩, zf, -⟩ := K1.out
    have HB9 : Hid (Below w.heap.size w w1) := hB9
    have hcb : (eF E != 0) = true := by simp [hc]
    clear hc htt hB9
    generalize hce : eF E = c at *
    have HCE : Hid (eF E = c) := hce
    clear hce
    go_wp2_with fail
    refine bodyPost_ret (v := .agg #[.int .i64 c, .string ⟨#[]⟩]) (by simp [results, Tryz.results7, go_sem, z0, z1]) rfl ?_
    refine ⟨by rw [HE.out, HCE.out]; rfl, ?_⟩
    repeat (first | with_reducible exact HB9.out | with_reducible refine Below.setCell ?_ (by first | omega | (simp <;> omega)) _)
end Go.Proofs.YtaelpjjabkkhcaaGreatDoor
