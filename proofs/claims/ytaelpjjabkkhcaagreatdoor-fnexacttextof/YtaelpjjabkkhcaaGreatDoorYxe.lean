/- The model's TextOf. -/
import Derived.Test.YtaelpjjabkkhcaaGreatDoorYxc
import Derived.Test.YtaelpjjabkkhcaaGreatDoorFf
namespace Go.Proofs.YtaelpjjabkkhcaaGreatDoor
open Go.RowKit Go.Deep
set_option linter.unusedVariables false
set_option maxRecDepth 20000

theorem vt_gone (o : ByteArray) (t a y : Int) : o ++ (blk ++ vt ⟨t, a, true, y⟩) = ((((o ++ blk) ++ dg t.toNat) ++ cln) ++ dg a.toNat) ++ mns := by
  simp only [vt, if_true, ByteArray.append_assoc]
theorem vt_held (o : ByteArray) (t a y : Int) : o ++ (blk ++ vt ⟨t, a, false, y⟩) = (((((o ++ blk) ++ dg t.toNat) ++ cln) ++ dg a.toNat) ++ eqs) ++ dg y.toNat := by
  simp only [vt, Bool.false_eq_true, if_false, ByteArray.append_assoc]
set_option maxHeartbeats 4000000 in
theorem specTe_any (E : En) (a : Option Addr) (cap : Nat) (a' : Option Addr) (cap' : Nat) (w : World) (hs : SmallE E) (h : EngAt w a a' E) :
    Calls Tryz.prog 5 #[.agg #[.int .i64 E.nx, .int .i64 E.ck, .slice a E.p cap, .slice a' E.q cap']] w (TRs w E) := by
  have HX : Hid (EngAt w a a' E) := h
  have hmo : Tryz.prog.follows .mixedOrders = true := by kernel_rfl
  have hp0 := hs.p
  have hq0 := hs.q
  have HSm : Hid (SmallE E) := hs
  clear h hs
  go_enter Tryz.func5, Tryz.ntmps5
  go_upto_region 1 with fail
  have K0 : Hid (KT w ((w.alloc (.cells #[.int .i64 E.nx, .int .i64 E.ck, .slice a E.p cap, .slice a' E.q cap'] 33)).alloc (.cells #[.int .i64 0, .string ⟨#[]⟩] 28)) E a cap a' cap') := KT.new _ _ _ _ _ _ _ _
  generalize ((w.alloc (.cells #[.int .i64 E.nx, .int .i64 E.ck, .slice a E.p cap, .slice a' E.q cap'] 33)).alloc (.cells #[.int .i64 0, .string ⟨#[]⟩] 28)) = w0 at *
  go_wp2_with fail
  refine (l6Fault_any E w.heap.size a cap a' cap' w0 HSm.out ⟨K0.out.2.1, HX.out.1.below K0.out.1, HX.out.2.below K0.out.1⟩).mono ?_
  rintro e w1 ⟨rfl, hb1⟩
  have K1 : Hid (KT w w1 E a cap a' cap') := K0.out.below hb1
  clear hb1 K0
  by_cases hc : eF E = 0
  · have HG : Hid (GoodT E) := eT_good hc
    have HE : Hid (eF E = 0 ∧ tE E = eT E) := ⟨hc, tE_ok hc⟩
    rw [hc]
    clear hc
    obtain ⟨nx0, nx1⟩ := HG.out.nx
    obtain ⟨ck0, ck1⟩ := HG.out.ck
    have hp20 := HG.out.p
    have hq32 := HG.out.q
    obtain ⟨y0, y1, y2, y3⟩ := K1.out.2.1
    go_wp2_with fail
    refine (l7Line_any clkB [E.ck, E.nx] w1.heap.size 2 _ (by simp) (lit_ints w1 _ _ _ rfl) (fun x hx => by simp only [List.mem_cons, List.not_mem_nil, or_false] at hx; rcases hx with rfl | rfl <;> omega) (by simp) (by simp) (by decide)).mono ?_
    rintro e w2 ⟨rfl, hb2⟩
    have K4 : Hid (KT w w2 E a cap a' cap') := (K1.out.alloc _).below hb2
    clear hb2 K1 y0 y1 y2 y3
    go_wp2_with fail
    go_loopw [4, 5, 6] (fun v i _ wr => ∃ q : Nat, q ≤ E.p ∧ i = .int .i64 q ∧ Hid (KT w wr E a cap a' cap') ∧ v = .string (TT (eT0 E) E.T q)) (fun _ i _ _ => E.p - (intOf i).toNat)
    case atStart => exact ⟨0, Nat.zero_le _, rfl, K4, rfl⟩
    case round =>
      clear K4
      obtain ⟨q, hq, rfl, HK, rfl⟩ := hrel
      have hts := TTe_size HG.out hq
      obtain ⟨y0, y1, y2, y3⟩ := HK.out.2.1
      by_cases hlt : q < E.p
      · have hlt' : (q : Int) < (E.p : Int) := by omega
        have hqz : (0 : Int) ≤ (q : Int) := by omega
        rcases HX.out.1 with h | ⟨b, off, ha, hbl, hcc⟩
        · omega
        obtain ⟨ai, ci, hct, hcu, hci⟩ := hcc q hlt
        have hin := HG.out.t q hlt
        have hn60 : (E.T q).n ≤ 1048576 := HSm.out.t q hlt
        have HNX : Hid (TT (eT0 E) E.T (q + 1) = TT (eT0 E) E.T q ++ (lnT txnB (txL (E.T q)) ++ nl)) := rfl
        have hxs := txT_size hin
        obtain ⟨b0, b1, b2, b3, b4⟩ := hct
        replace b0 := cell_below b0 HK.out.1
        replace b1 := cell_below b1 HK.out.1
        replace b2 := cell_below b2 HK.out.1
        replace b3 := cell_below b3 HK.out.1
        replace b4 := cell_below b4 HK.out.1
        subst ha
        clear hcc hcu
        generalize E.T q = tx at *
        obtain ⟨d0, d1, d2, d3, dn, dU⟩ := tx
        simp only at b0 b1 b2 b3 b4 hci hn60
        have HIN : Hid (∀ x ∈ txL ⟨d0, d1, d2, d3, dn, dU⟩, 0 ≤ x ∧ x ≤ 1000000000) := hin
        have hadd : ∀ u : World, (Op.stringOp .add (TT (eT0 E) E.T q) (lnT txnB (txL ⟨d0, d1, d2, d3, dn, dU⟩) ++ nl)).run Tryz.prog u = .ok (.string (TT (eT0 E) E.T q ++ (lnT txnB (txL ⟨d0, d1, d2, d3, dn, dU⟩) ++ nl))) u := fun u => run_string_add_sum u _ _ (by simp only [txT] at hxs; omega)
        clear hin hxs
        generalize TT (eT0 E) E.T q = TQ at *
        go_upto_region 9 with fail
        have K5 : Hid (KT w (wr.alloc (.cells #[.int .i64 d0, .int .i64 d1, .int .i64 d2, .int .i64 d3, .slice ai dn ci] 45)) E (some ⟨b, off, none⟩) cap a' cap') := HK.out.alloc _
        have X5 := Box5.new wr (.int .i64 d0) (.int .i64 d1) (.int .i64 d2) (.int .i64 d3) (.slice ai dn ci) 45
        generalize (wr.alloc (.cells #[.int .i64 d0, .int .i64 d1, .int .i64 d2, .int .i64 d3, .slice ai dn ci] 45)) = w5 at *
        generalize wr.heap.size = B at *
        clear b0 b1 b2 b3 b4 y0 y1 y2 y3
        obtain ⟨p0, p1, p2, p3, p4⟩ := X5
        have HLN : Hid (Calls Tryz.prog 13 #[.string txnB, .slice (some ⟨w5.heap.size, 0, none⟩) 5 5] (w5.alloc (.cells #[.int .i64 d0, .int .i64 d1, .int .i64 d2, .int .i64 d3, .int .i64 (dn : Int)] 2)) fun e w' => e = .returned (.string (lnT txnB (txL ⟨d0, d1, d2, d3, dn, dU⟩) ++ nl)) ∧ Below (w5.alloc (.cells #[.int .i64 d0, .int .i64 d1, .int .i64 d2, .int .i64 d3, .int .i64 (dn : Int)] 2)).heap.size (w5.alloc (.cells #[.int .i64 d0, .int .i64 d1, .int .i64 d2, .int .i64 d3, .int .i64 (dn : Int)] 2)) w') :=
          l7Line_any txnB (txL ⟨d0, d1, d2, d3, dn, dU⟩) w5.heap.size 5 _ (by simp) (lit_ints w5 _ _ _ rfl) HIN.out (by show 5 ≤ 100; omega) (by show 5 ≤ 5; omega) (by decide)
        generalize lnT txnB (txL ⟨d0, d1, d2, d3, dn, dU⟩) ++ nl = LN at *
        go_wp2_with fail
        refine HLN.out.mono ?_
        rintro e w6 ⟨rfl, hb6⟩
        have K6 : Hid (KT w w6 E (some ⟨b, off, none⟩) cap a' cap') := (K5.out.alloc _).below hb6
        clear hb6 p0 p1 p2 p3 p4 HLN K5
        go_wp2_with fail
        go_roundw
        case rel => exact ⟨q + 1, hlt, by go_num, K6, by rw [HNX.out]⟩
        case measure => simp [intOf]; omega
      · have hqn : q = E.p := by omega
        subst hqn
        have hge : ¬ ((E.p : Nat) : Int) < ((E.p : Nat) : Int) := by omega
        go_wp2_with fail
        go_loopw [4, 7, 8, 9] (fun v i _ _ wr => ∃ q : Nat, q ≤ E.q ∧ i = .int .i64 q ∧ Hid (KT w wr E a cap a' cap') ∧ v = .string (RT (TT (eT0 E) E.T E.p) E.R q)) (fun _ i _ _ _ => E.q - (intOf i).toNat)
        case atStart => exact ⟨0, Nat.zero_le _, rfl, HK, rfl⟩
        case round =>
          clear HK y0 y1 y2 y3 hge hlt hts
          obtain ⟨q, hq, rfl, HK, rfl⟩ := hrel
          have hts := RTe_size HG.out hq
          obtain ⟨y0, y1, y2, y3⟩ := HK.out.2.1
          by_cases hlt : q < E.q
          · have hlt' : (q : Int) < (E.q : Int) := by omega
            have hqz : (0 : Int) ≤ (q : Int) := by omega
            rcases HX.out.2 with h | ⟨b, off, ha, hbl, hcc⟩
            · omega
            obtain ⟨ai, ci, hct, hcu, hci⟩ := hcc q hlt
            obtain ⟨hkey, hn12, hvers⟩ := HG.out.r q hlt
            have HV : Hid (VersAt w ai (E.R q).n (E.R q).U) := hcu
            have HVR : Hid (∀ j, j < (E.R q).n → vR ((E.R q).U j) = true) := hvers
            have HNX : Hid (RT (TT (eT0 E) E.T E.p) E.R (q + 1) = RT (TT (eT0 E) E.T E.p) E.R q ++ rwT (E.R q)) := rfl
            have HRW : Hid (∀ X : ByteArray, (((X ++ rowS) ++ dg (E.R q).key.toNat) ++ VT (E.R q).U (E.R q).n) ++ nl = X ++ rwT (E.R q)) := fun X => by simp only [rwT, rowS_eq, ByteArray.append_assoc]
            obtain ⟨b0, b1⟩ := hct
            have HB1 : Hid (∀ u, Below w.heap.size w u → u.cell? ⟨b, off + q * 2 + 1, none⟩ = some (.slice ai (E.R q).n ci)) := fun u hu => cell_below b1 hu
            replace b0 := cell_below b0 HK.out.1
            subst ha
            clear hcc hcu hvers b1
            generalize RT (TT (eT0 E) E.T E.p) E.R q = TQ at *
            generalize E.R q = rw0 at *
            obtain ⟨ky, n, U⟩ := rw0
            simp only at b0 hci hkey hn12
            obtain ⟨hk0, hk31⟩ := hkey
            have hds := dg_size ky.toNat (by omega)
            have ha1 : ∀ u : World, (Op.stringOp .add TQ ⟨#[114, 111, 119, 32]⟩).run Tryz.prog u = .ok (.string (TQ ++ rowS)) u := fun u => run_string_add_sum u _ rowS (by have : rowS.size = 4 := rfl; omega)
            have ha2 : ∀ u : World, (Op.stringOp .add (TQ ++ rowS) (dg ky.toNat)).run Tryz.prog u = .ok (.string ((TQ ++ rowS) ++ dg ky.toNat)) u := fun u => run_string_add_sum u _ _ (by have : rowS.size = 4 := rfl; rw [ByteArray.size_append]; omega)
            have hX0 : ((TQ ++ rowS) ++ dg ky.toNat).size ≤ 50000 := by have : rowS.size = 4 := rfl; simp only [ByteArray.size_append]; omega
            go_wp2_with fail
            refine (digI_any ky (by omega) (by omega) _).mono ?_
            rintro e w5 ⟨rfl, hb5⟩
            have K5 : Hid (KT w w5 E a cap (some ⟨b, off, none⟩) cap') := HK.out.below hb5
            clear hb5 b0 y0 y1 y2 y3 HK
            go_wp2_with fail
            have HRX : Hid ((((TQ ++ rowS) ++ dg ky.toNat) ++ VT U n) ++ nl = TQ ++ rwT ⟨ky, n, U⟩) := HRW.out TQ
            have HX1 : Hid ((TQ ++ rowS) ++ dg ky.toNat = ((TQ ++ rowS) ++ dg ky.toNat) ++ VT U 0) := (by simp only [VT, ByteArray.append_empty] : (TQ ++ rowS) ++ dg ky.toNat = ((TQ ++ rowS) ++ dg ky.toNat) ++ VT U 0)
            clear ha1 ha2 HRW
            generalize (TQ ++ rowS) ++ dg ky.toNat = XQ at *
            go_loopw [4, 8, 9] (fun v i _ wr => ∃ j : Nat, j ≤ n ∧ i = .int .i64 j ∧ Hid (KT w wr E a cap (some ⟨b, off, none⟩) cap') ∧ v = .string (XQ ++ VT U j)) (fun _ i _ _ => n - (intOf i).toNat)
            case atStart => exact ⟨0, Nat.zero_le _, rfl, K5, by rw [← HX1.out]⟩
            case round =>
              clear K5 HX1
              obtain ⟨j, hj, rfl, HK7, rfl⟩ := hrel
              obtain ⟨y0, y1, y2, y3⟩ := HK7.out.2.1
              have b1 := HB1.out _ HK7.out.1
              have hvs : (XQ ++ VT U j).size ≤ 60000 := by
                have h := VT_size (R := U) (m := j) (fun i hi => HVR.out i (by show i < n; omega))
                rw [ByteArray.size_append]
                omega
              by_cases hjl : j < n
              · have hjl' : (j : Int) < (n : Int) := by omega
                have hjz : (0 : Int) ≤ (j : Int) := by omega
                rcases HV.out with h | ⟨vb, vo, hva, hvl, hvc⟩
                · have h2 : n = 0 := h
                  omega
                have hv4 := hvc j hjl
                have hvr := HVR.out j hjl
                have HVT : Hid (XQ ++ VT U (j + 1) = (XQ ++ VT U j) ++ (blk ++ vt (U j))) := (by simp only [VT, ByteArray.append_assoc] : XQ ++ VT U (j + 1) = (XQ ++ VT U j) ++ (blk ++ vt (U j)))
                change C4 w vb (vo + j * 4) (U j) at hv4
                change vR (U j) = true at hvr
                subst hva
                clear hvc
                generalize U j = vv at *
                obtain ⟨t, r, g, y⟩ := vv
                obtain ⟨e0, e1, e2, e3⟩ := hv4
                replace e0 := cell_below e0 HK7.out.1
                replace e1 := cell_below e1 HK7.out.1
                replace e2 := cell_below e2 HK7.out.1
                replace e3 := cell_below e3 HK7.out.1
                simp only at e0 e1 e2 e3
                generalize XQ ++ VT U j = OQ at *
                obtain ⟨⟨ht0, ht1⟩, ⟨hr0, hr1⟩, hy0, hy1⟩ := vR_nat hvr
                simp only at ht0 ht1 hr0 hr1 hy0 hy1
                clear hvr
                have hds1 := dg_size t.toNat (by omega)
                have hds2 := dg_size r.toNat (by omega)
                have hds3 := dg_size y.toNat (by omega)
                have s1 : blk.size = 1 := rfl
                have s2 : cln.size = 1 := rfl
                have g1 : ∀ u : World, (Op.stringOp .add OQ ⟨#[32]⟩).run Tryz.prog u = .ok (.string (OQ ++ blk)) u := fun u => run_string_add_sum u _ blk (by omega)
                have g2 : ∀ u : World, (Op.stringOp .add (OQ ++ blk) (dg t.toNat)).run Tryz.prog u = .ok (.string ((OQ ++ blk) ++ dg t.toNat)) u := fun u => run_string_add_sum u _ _ (by simp only [ByteArray.size_append]; omega)
                have g3 : ∀ u : World, (Op.stringOp .add ((OQ ++ blk) ++ dg t.toNat) ⟨#[58]⟩).run Tryz.prog u = .ok (.string (((OQ ++ blk) ++ dg t.toNat) ++ cln)) u := fun u => run_string_add_sum u _ cln (by simp only [ByteArray.size_append]; omega)
                have g4 : ∀ u : World, (Op.stringOp .add (((OQ ++ blk) ++ dg t.toNat) ++ cln) (dg r.toNat)).run Tryz.prog u = .ok (.string ((((OQ ++ blk) ++ dg t.toNat) ++ cln) ++ dg r.toNat)) u := fun u => run_string_add_sum u _ _ (by simp only [ByteArray.size_append]; omega)
                have hws : ((((OQ ++ blk) ++ dg t.toNat) ++ cln) ++ dg r.toNat).size ≤ 70000 := by simp only [ByteArray.size_append]; omega
                have HVG : Hid (OQ ++ (blk ++ vt ⟨t, r, true, y⟩) = ((((OQ ++ blk) ++ dg t.toNat) ++ cln) ++ dg r.toNat) ++ mns) := vt_gone _ _ _ _
                have HVH : Hid (OQ ++ (blk ++ vt ⟨t, r, false, y⟩) = (((((OQ ++ blk) ++ dg t.toNat) ++ cln) ++ dg r.toNat) ++ eqs) ++ dg y.toNat) := vt_held _ _ _ _
                go_upto_region 18 with fail
                have K8 := HK7.out.alloc (.cells #[.int .i64 t, .int .i64 r, .bool g, .int .i64 y] 51)
                have X8 := Box4.new wr (.int .i64 t) (.int .i64 r) (.bool g) (.int .i64 y) 51
                generalize (wr.alloc (.cells #[.int .i64 t, .int .i64 r, .bool g, .int .i64 y] 51)) = w8 at *
                generalize wr.heap.size = B at *
                clear e0 e1 e2 e3 b1 y0 y1 y2 y3
                refine wp_region_E 999 (S := fun u => KT w u E a cap (some ⟨b, off, none⟩) cap' ∧ Box4 u B (.int .i64 t) (.int .i64 r) (.bool g) (.int .i64 y)) hmo ⟨K8.drewn, X8⟩ (fun hS => ?_)
                refine wpAnyE_takeD (L := 999) (i := 0) (v := .string OQ) (some 85) rfl rfl (by kernel_rfl) (by kernel_rfl) (by kernel_rfl) (by kernel_rfl) (fun _ _ _ h => h) (Or.inl ⟨by kernel_rfl, by intro u hSu; go_simp⟩) hS ?_
                try simp only [Act.put, List.setIfInBounds_toArray, List.set_cons_zero, List.set_cons_succ]
                refine wpAnyE_takeD (L := 999) (i := 1) (v := .string (OQ ++ blk)) (some 86) rfl rfl (by kernel_rfl) (by kernel_rfl) (by kernel_rfl) (by kernel_rfl) (fun _ _ _ h => h) (Or.inl ⟨by kernel_rfl, by intro u hSu; go_simp⟩) hS ?_
                try simp only [Act.put, List.setIfInBounds_toArray, List.set_cons_zero, List.set_cons_succ]
                refine wpAnyE_takeD (L := 999) (i := 2) (v := .pointer (some ⟨B, 0, none⟩)) (some 87) rfl rfl (by kernel_rfl) (by kernel_rfl) (by kernel_rfl) (by kernel_rfl) (fun _ _ _ h => h) (Or.inl ⟨by kernel_rfl, by intro u hSu; obtain ⟨-, p0, p1, p2, p3⟩ := hSu; go_simp⟩) hS ?_
                try simp only [Act.put, List.setIfInBounds_toArray, List.set_cons_zero, List.set_cons_succ]
                refine wpAnyE_takeD (L := 999) (i := 3) (v := .int .i64 t) (some 88) rfl rfl (by kernel_rfl) (by kernel_rfl) (by kernel_rfl) (by kernel_rfl) (fun _ _ _ h => h) (Or.inl ⟨by kernel_rfl, by intro u hSu; obtain ⟨-, p0, p1, p2, p3⟩ := hSu; go_simp⟩) hS ?_
                try simp only [Act.put, List.setIfInBounds_toArray, List.set_cons_zero, List.set_cons_succ]
                refine wpAnyE_takeD (L := 999) (i := 7) (v := .pointer (some ⟨B, 1, none⟩)) (some 92) rfl rfl (by kernel_rfl) (by kernel_rfl) (by kernel_rfl) (by kernel_rfl) (fun _ _ _ h => h) (Or.inl ⟨by kernel_rfl, by intro u hSu; obtain ⟨-, p0, p1, p2, p3⟩ := hSu; go_simp⟩) hS ?_
                try simp only [Act.put, List.setIfInBounds_toArray, List.set_cons_zero, List.set_cons_succ]
                refine wpAnyE_takeD (L := 999) (i := 8) (v := .int .i64 r) (some 93) rfl rfl (by kernel_rfl) (by kernel_rfl) (by kernel_rfl) (by kernel_rfl) (fun _ _ _ h => h) (Or.inl ⟨by kernel_rfl, by intro u hSu; obtain ⟨-, p0, p1, p2, p3⟩ := hSu; go_simp⟩) hS ?_
                try simp only [Act.put, List.setIfInBounds_toArray, List.set_cons_zero, List.set_cons_succ]
                refine wpAnyE_ready (rs := [4]) (by kernel_rfl) (by simp) ?_
                refine AllReadyE.cons rfl (fun K9 hK => ?_) AllReadyE.nil
                go_simp
                refine (digI_any t (by omega) (by omega) _).mono ?_
                rintro e w9 ⟨rfl, hb9⟩
                refine hK.out _ _ (⟨hS.1.below hb9, hS.2.below hb9⟩) (fun hS9 => ?_)
                try simp only [Act.put, List.setIfInBounds_toArray, List.set_cons_zero, List.set_cons_succ]
                clear hK K9 hS
                have hS := hS9
                clear hS9
                clear hb9
                refine wpAnyE_takeD (L := 999) (i := 5) (v := .string ((OQ ++ blk) ++ dg t.toNat)) (some 90) rfl rfl (by kernel_rfl) (by kernel_rfl) (by kernel_rfl) (by kernel_rfl) (fun _ _ _ h => h) (Or.inl ⟨by kernel_rfl, by intro u hSu; go_simp⟩) hS ?_
                try simp only [Act.put, List.setIfInBounds_toArray, List.set_cons_zero, List.set_cons_succ]
                refine wpAnyE_takeD (L := 999) (i := 6) (v := .string (((OQ ++ blk) ++ dg t.toNat) ++ cln)) (some 91) rfl rfl (by kernel_rfl) (by kernel_rfl) (by kernel_rfl) (by kernel_rfl) (fun _ _ _ h => h) (Or.inl ⟨by kernel_rfl, by intro u hSu; go_simp⟩) hS ?_
                try simp only [Act.put, List.setIfInBounds_toArray, List.set_cons_zero, List.set_cons_succ]
                refine wpAnyE_ready (rs := [9]) (by kernel_rfl) (by simp) ?_
                refine AllReadyE.cons rfl (fun K9 hK => ?_) AllReadyE.nil
                go_simp
                refine (digI_any r (by omega) (by omega) _).mono ?_
                rintro e wa ⟨rfl, hba⟩
                refine hK.out _ _ (⟨hS.1.below hba, hS.2.below hba⟩) (fun hS9 => ?_)
                try simp only [Act.put, List.setIfInBounds_toArray, List.set_cons_zero, List.set_cons_succ]
                clear hK K9 hS
                have hS := hS9
                clear hS9
                clear hba
                refine wpAnyE_takeD (L := 999) (i := 10) (v := .string ((((OQ ++ blk) ++ dg t.toNat) ++ cln) ++ dg r.toNat)) (some 95) rfl rfl (by kernel_rfl) (by kernel_rfl) (by kernel_rfl) (by kernel_rfl) (fun _ _ _ h => h) (Or.inl ⟨by kernel_rfl, by intro u hSu; go_simp⟩) hS ?_
                try simp only [Act.put, List.setIfInBounds_toArray, List.set_cons_zero, List.set_cons_succ]
                refine wpAnyE_takeD (L := 999) (i := 11) (v := .string ((((OQ ++ blk) ++ dg t.toNat) ++ cln) ++ dg r.toNat)) (some 4) rfl rfl (by kernel_rfl) (by kernel_rfl) (by kernel_rfl) (by kernel_rfl) (fun _ _ _ h => h) (Or.inl ⟨by kernel_rfl, by intro u hSu; go_simp⟩) hS ?_
                try simp only [Act.put, List.setIfInBounds_toArray, List.set_cons_zero, List.set_cons_succ]
                have K9 : Hid (KT w wa E a cap (some ⟨b, off, none⟩) cap') := hS.1
                have X9 := hS.2
                clear K8 X8
                refine wpAnyE_done (by kernel_rfl) ?_ _
                go_simp
                clear g1 g2 g3 g4
                generalize ((((OQ ++ blk) ++ dg t.toNat) ++ cln) ++ dg r.toNat) = WQ at *
                obtain ⟨p0, p1, p2, p3⟩ := X9
                cases g with
                | true =>
                  have ha1 : ∀ u : World, (Op.stringOp .add WQ ⟨#[45]⟩).run Tryz.prog u = .ok (.string (WQ ++ mns)) u := fun u => run_string_add_sum u _ mns (by have : mns.size = 1 := rfl; omega)
                  go_wp2_with fail
                  go_roundw
                  case rel => exact ⟨j + 1, hjl, by go_num, K9, by rw [HVT.out, HVG.out]⟩
                  case measure => simp [intOf]; omega
                | false =>
                  have ha1 : ∀ u : World, (Op.stringOp .add WQ ⟨#[61]⟩).run Tryz.prog u = .ok (.string (WQ ++ eqs)) u := fun u => run_string_add_sum u _ eqs (by have : eqs.size = 1 := rfl; omega)
                  have ha2 : ∀ u : World, (Op.stringOp .add (WQ ++ eqs) (dg y.toNat)).run Tryz.prog u = .ok (.string ((WQ ++ eqs) ++ dg y.toNat)) u := fun u => run_string_add_sum u _ _ (by have : eqs.size = 1 := rfl; rw [ByteArray.size_append]; omega)
                  go_wp2_with fail
                  refine (digI_any y (by omega) (by omega) _).mono ?_
                  rintro e wb ⟨rfl, hbb⟩
                  have KB : Hid (KT w wb E a cap (some ⟨b, off, none⟩) cap') := K9.out.below hbb
                  clear hbb p0 p1 p2 p3
                  go_wp2_with fail
                  go_roundw
                  case rel => exact ⟨j + 1, hjl, by go_num, KB, by rw [HVT.out, HVH.out]⟩
                  case measure => simp [intOf]; omega
              · have hjn : j = n := by omega
                subst hjn
                have hge : ¬ (j : Int) < (j : Int) := by omega
                generalize XQ ++ VT U j = OQ at *
                have ha1 : ∀ u : World, (Op.stringOp .add OQ ⟨#[10]⟩).run Tryz.prog u = .ok (.string (OQ ++ nl)) u := fun u => run_string_add_sum u _ nl (by have : nl.size = 1 := rfl; omega)
                go_wp2_with fail
                go_roundw
                case rel => exact ⟨q + 1, hlt, by go_num, HK7, by rw [HNX.out, ← HRX.out]⟩
                case measure => simp [intOf]; omega
          · have hqn : q = E.q := by omega
            subst hqn
            have hge : ¬ ((E.q : Nat) : Int) < ((E.q : Nat) : Int) := by omega
            have HET : Hid (RT (TT (eT0 E) E.T E.p) E.R E.q = tE E) := (HE.out.2.symm : eT E = tE E)
            generalize RT (TT (eT0 E) E.T E.p) E.R E.q = TQ at *
            obtain ⟨hB9, -, ⟨z0, z1⟩, zf, -⟩ := HK.out
            have HB9 : Hid (Below w.heap.size w wr) := hB9
            clear hB9
            go_wp2_with fail
            refine bodyPost_ret (v := .agg #[.int .i64 0, .string TQ]) (by simp [results, Tryz.results5, go_sem, z0, z1]) rfl ?_
            refine ⟨by rw [HE.out.1, HET.out], ?_⟩
            repeat (first | with_reducible exact HB9.out | with_reducible refine Below.setCell ?_ (by first | omega | (simp <;> omega)) _)
  · have htt := tE_no hc
    have HE : Hid (tE E = ByteArray.empty) := htt
    obtain ⟨hB9, -, ⟨z0, z1⟩, zf, -⟩ := K1.out
    have HB9 : Hid (Below w.heap.size w w1) := hB9
    have hcb : (eF E != 0) = true := by simp [hc]
    clear hc htt hB9
    generalize hce : eF E = c at *
    have HCE : Hid (eF E = c) := hce
    clear hce
    go_wp2_with fail
    refine bodyPost_ret (v := .agg #[.int .i64 c, .string ⟨#[]⟩]) (by simp [results, Tryz.results5, go_sem, z0, z1]) rfl ?_
    refine ⟨by rw [HE.out, HCE.out]; rfl, ?_⟩
    repeat (first | with_reducible exact HB9.out | with_reducible refine Below.setCell ?_ (by first | omega | (simp <;> omega)) _)
end Go.Proofs.YtaelpjjabkkhcaaGreatDoor
