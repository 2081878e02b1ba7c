/- FnPurges: the walk. -/
import Derived.Test.YtiabblmjgfkijaaVse
import Derived.Test.YtiabblmjgfkijaaDvb
import Derived.Test.YtiabblmjgfkijaaWae
namespace Go.Proofs.Ytiabblmjgfkijaa
open Go.RowKit Go.Deep
set_option linter.unusedVariables false
set_option linter.unusedSimpArgs false
set_option maxRecDepth 20000

theorem lwBig_any (a : Option Addr) (k cap : Nat) (w : World) : Calls Try.prog 5 #[.slice a k cap] w fun e w' => e = .returned (.bool (decide ((1048576 : Int) < (k : Int)))) ∧ w' = w := by
  go_enter Try.func5, Try.ntmps5
  go_wp2
  go_ret
  exact ⟨rfl, rfl⟩
set_option maxHeartbeats 16000000 in
theorem fnPurges_small (kk : Nat) (z : Nat → Int) (a : Option Addr) (cap : Nat) (w : World) (hbig : kk ≤ 1048576) (hz : Byt kk z) (HA0 : BytesAt w a kk z) :
    Calls Try.prog 3 #[.slice a kk cap] w fun e w' => e = .returned (.bool true) ∧ Below w.heap.size w w' := by
  have HD : Hid (Calls Try.prog 6 #[.slice a kk cap] w _) := drawPu_any a kk cap z w hbig hz HA0
  have hbg : decide ((1048576 : Int) < (kk : Int)) = false := by simp; omega
  clear hz HA0
  go_enter Try.func3, Try.ntmps3
  go_wp2_with (go_at_call 5; refine (lwBig_any _ _ _ _).mono ?_; rintro e w' ⟨rfl, hw⟩; have hw1 := hw.symm; clear hw; subst hw1; rw [hbg])
  refine Calls.mono HD.out ?_
  rintro e w1 ⟨g, n, c, R, f, rfl, hn13, hnc, hf, hv, hb1⟩
  have HB1 : Hid (Below w.heap.size w w1) := hb1
  have HV1 : Hid (VersAt w1 (some ⟨g, 0, none⟩) n R) := hv
  have HNC : Hid (n ≤ 13 ∧ n ≤ c ∧ -1 ≤ f ∧ f ≤ 1000001) := ⟨hn13, hnc, hf⟩
  clear hb1 hv HD hbg hnc hn13 hf hbig
  go_wp2_with fail
  refine (implPuD_any n R g 0 c HNC.out.2.1 f w1 (by have := HNC.out.1; omega) HV1.out).mono ?_
  rintro e w2 ⟨ra, rc, rfl, hsh, hb2, ho⟩
  have HSH : Hid (ShA ra (puM n R f) rc) := hsh
  have HO2 : Hid (VersAt w2 ra (puM n R f) R) := ho.at
  have HB2 : Hid (Below w.heap.size w w2) := below_then HB1.out hb2
  have HV2 : Hid (VersAt w2 (some ⟨g, 0, none⟩) n R) := HV1.out.below hb2
  have HSPC : Hid (∀ u, VersAt u (some ⟨g, 0, none⟩) n R → Calls Try.prog 8 #[.slice (some ⟨g, 0, none⟩) n c, .int .i64 f] u (CRes (puC n R f) (puM n R f) R u)) := fun u h => specPuC_any n R g 0 c HNC.out.2.1 f u (by have := HNC.out.1; omega) h
  have HPD : Hid ((puC n R f = if chF n R = 0 then (if inB f 0 1000000 = true then 0 else 3) else chF n R) ∧ (puM n R f = if puC n R f = 0 then puN n R f else 0)) := ⟨rfl, rfl⟩
  clear hsh hb2 ho HB1 HV1
  generalize puC n R f = C at *
  generalize puM n R f = M at *
  go_upto_region 5 with fail
  obtain ⟨W3, hW3⟩ : ∃ y, y = w2.alloc (.cells #[.int .i64 C, .slice ra M rc] 28) := ⟨_, rfl⟩
  have A0 : W3.cell? ⟨w2.heap.size, 0, none⟩ = some (.int .i64 C) := by rw [hW3]; simp [go_sem]
  have A1 : W3.cell? ⟨w2.heap.size, 1, none⟩ = some (.slice ra M rc) := by rw [hW3]; simp [go_sem]
  have hb3 : Below w2.heap.size w2 W3 := by rw [hW3]; exact below_new _ _
  have HB3 : Hid (Below w.heap.size w W3) := below_then HB2.out hb3
  have HV3 : Hid (VersAt W3 (some ⟨g, 0, none⟩) n R) := HV2.out.below hb3
  have HO3 : Hid (VersAt W3 ra M R) := HO2.out.below hb3
  try rw [← hW3]
  generalize w2.heap.size = B at *
  clear hW3 hb3 HB2 HV2 HO2
  by_cases hC : C = 0
  · subst hC
    have hcf : chF n R = 0 ∧ inB f 0 1000000 = true := by
      have h := HPD.out.1
      by_cases h1 : chF n R = 0
      · rw [if_pos h1] at h
        by_cases h2 : inB f 0 1000000 = true
        · exact ⟨h1, h2⟩
        · rw [if_neg h2] at h; omega
      · rw [if_neg h1] at h; exact absurd h.symm h1
    have hM : M = puN n R f := by rw [HPD.out.2, if_pos rfl]
    have hMn0 := puN_le n R f
    rw [← hM] at hMn0
    have HCM : Hid (chF M R = 0) := chF_less hcf.1 hMn0
    have HM12 : Hid (M ≤ 12) := (chF_good HCM.out).1
    have hMn : ¬ ((n : Int) < (M : Int)) := by omega
    have HCHF : Hid (∀ u, VersAt u ra M R → Calls Try.prog 9 #[.slice ra M rc] u fun e w' => e = .returned (.int .i64 0) ∧ Below u.heap.size u w') := fun u h => by
      have h9 := implChF_any M R ra rc u (by have := HM12.out; omega) h
      rw [HCM.out] at h9
      exact h9
    have HALL : Hid (∀ (x : Int) (p : Nat), f ≤ x → ∃ c1 v1 m1 : Int,
        Hid (∀ u, VersAt u ra M R → Calls Try.prog 10 #[.slice ra M rc, .agg #[.int .i64 x, .int .i64 (p : Int)]] u fun e w' => e = .returned (.agg #[.int .i64 c1, .int .i64 v1]) ∧ Below u.heap.size u w') ∧
        Hid (∀ u, VersAt u (some ⟨g, 0, none⟩) n R → Calls Try.prog 10 #[.slice (some ⟨g, 0, none⟩) n c, .agg #[.int .i64 x, .int .i64 (p : Int)]] u fun e w' => e = .returned (.agg #[.int .i64 c1, .int .i64 v1]) ∧ Below u.heap.size u w') ∧
        Hid (∀ u, VersAt u ra M R → Calls Try.prog 11 #[.slice ra M rc, .agg #[.int .i64 x, .int .i64 (p : Int)]] u fun e w' => e = .returned (.int .i64 m1) ∧ Below u.heap.size u w') ∧
        Hid (∀ u, VersAt u (some ⟨g, 0, none⟩) n R → Calls Try.prog 11 #[.slice (some ⟨g, 0, none⟩) n c, .agg #[.int .i64 x, .int .i64 (p : Int)]] u fun e w' => e = .returned (.int .i64 m1) ∧ Below u.heap.size u w')) := fun x p hx => by
      refine ⟨seC n R x p, seV n R x p, mwC n R x p, fun u h => ?_, fun u h => implSe_any n R _ c x p u (by have := HNC.out.1; omega) h, fun u h => ?_, fun u h => implMw_any n R _ c x p u (by have := HNC.out.1; omega) h⟩
      · have h9 := implSe_any M R ra rc x p u (by have := HM12.out; omega) h
        rw [hM, pu_seC _ hcf.1 hx, pu_seV _ hcf.1 hx, ← hM] at h9
        exact h9
      · have h9 := implMw_any M R ra rc x p u (by have := HM12.out; omega) h
        rw [hM, pu_mwC _ hcf.1 hx, ← hM] at h9
        exact h9
    have HAG : Hid (∀ u, VersAt u ra M R → Calls Try.prog 7 #[.slice ra M rc, .int .i64 f] u (CResC 0 M R u)) := fun u h => by
      have hsh := HSH.out
      have e1 : puC M R f = 0 := by unfold puC; rw [if_pos HCM.out, if_pos hcf.2]
      have e2 : puM M R f = M := by
        unfold puM
        rw [if_pos e1, hM]
        exact pu_again hcf.1
      rcases hsh.2 with ⟨rfl, h0, h1⟩ | ⟨b, off, rfl⟩
      · rw [h0, h1]
        exact implPu0_any R f u hcf.2
      · have h9 := implPuD_any M R b off rc hsh.1 f u (by have := HM12.out; omega) h
        rw [e1, e2] at h9
        exact h9
    have hf01 : 0 ≤ f ∧ f ≤ 1000000 := inB_iff.1 hcf.2
    clear HPD hcf hM hMn0 HCM HSH
    go_upto_region 7 with fail
    refine wp_region_E 999 (S := fun u => Below W3.heap.size W3 u) (by kernel_rfl) ((Below.refl _ _).drew) (fun hS => ?_)
    obtain ⟨u0, hu0⟩ : ∃ y, y = W3.drew := ⟨_, rfl⟩
    rw [← hu0] at hS ⊢
    clear hu0
    refine wpAnyE_takeD (L := 999) (i := 0) (v := .pointer (some ⟨B, 1, none⟩)) (some 31) rfl rfl (by kernel_rfl) (by kernel_rfl) (by kernel_rfl) (by kernel_rfl) (fun _ _ _ h => h) (Or.inl ⟨by kernel_rfl, by intro u hSu; go_simp⟩) hS ?_
    try simp only [Act.put, List.setIfInBounds_toArray, List.set_cons_zero, List.set_cons_succ]
    refine wpAnyE_takeD (L := 999) (i := 1) (v := .slice ra M rc) (some 32) rfl rfl (by kernel_rfl) (by kernel_rfl) (by kernel_rfl) (by kernel_rfl) (fun _ _ _ h => h) (Or.inl ⟨by kernel_rfl, by intro u hSu; have h0 := cell_below A1 hSu; go_simp⟩) hS ?_
    try simp only [Act.put, List.setIfInBounds_toArray, List.set_cons_zero, List.set_cons_succ]
    refine wpAnyE_ready (rs := [2]) (by kernel_rfl) (by simp) ?_
    refine AllReadyE.cons rfl (fun K hK => ?_) AllReadyE.nil
    go_simp
    refine (HCHF.out _ (HO3.out.below hS)).mono ?_
    rintro e u1 ⟨rfl, hbu⟩
    refine hK.out _ _ (below_then hS hbu) (fun hS9 => ?_)
    try simp only [Act.put, List.setIfInBounds_toArray, List.set_cons_zero, List.set_cons_succ]
    clear hK K hS hbu
    have hS := hS9
    clear hS9
    refine wpAnyE_takeD (L := 999) (i := 3) (v := .bool false) (some 34) rfl rfl (by kernel_rfl) (by kernel_rfl) (by kernel_rfl) (by kernel_rfl) (fun _ _ _ h => h) (Or.inl ⟨by kernel_rfl, by intro u hSu; go_simp⟩) hS ?_
    try simp only [Act.put, List.setIfInBounds_toArray, List.set_cons_zero, List.set_cons_succ]
    refine wpAnyE_takeD (L := 999) (i := 4) (v := .bool false) (some 35) rfl rfl (by kernel_rfl) (by kernel_rfl) (by kernel_rfl) (by kernel_rfl) (fun _ _ _ h => h) (Or.inl ⟨by kernel_rfl, by intro u hSu; go_simp⟩) hS ?_
    try simp only [Act.put, List.setIfInBounds_toArray, List.set_cons_zero, List.set_cons_succ]
    refine wpAnyE_takeD (L := 999) (i := 5) (v := .pointer (some ⟨B, 1, none⟩)) (some 36) rfl rfl (by kernel_rfl) (by kernel_rfl) (by kernel_rfl) (by kernel_rfl) (fun _ _ _ h => h) (Or.inl ⟨by kernel_rfl, by intro u hSu; go_simp⟩) hS ?_
    try simp only [Act.put, List.setIfInBounds_toArray, List.set_cons_zero, List.set_cons_succ]
    refine wpAnyE_takeD (L := 999) (i := 6) (v := .slice ra M rc) (some 37) rfl rfl (by kernel_rfl) (by kernel_rfl) (by kernel_rfl) (by kernel_rfl) (fun _ _ _ h => h) (Or.inl ⟨by kernel_rfl, by intro u hSu; have h0 := cell_below A1 hSu; go_simp⟩) hS ?_
    try simp only [Act.put, List.setIfInBounds_toArray, List.set_cons_zero, List.set_cons_succ]
    refine wpAnyE_takeD (L := 999) (i := 7) (v := .int .i64 (M : Int)) (some 38) rfl rfl (by kernel_rfl) (by kernel_rfl) (by kernel_rfl) (by kernel_rfl) (fun _ _ _ h => h) (Or.inl ⟨by kernel_rfl, by intro u hSu; go_simp⟩) hS ?_
    try simp only [Act.put, List.setIfInBounds_toArray, List.set_cons_zero, List.set_cons_succ]
    refine wpAnyE_takeD (L := 999) (i := 8) (v := .slice (some ⟨g, 0, none⟩) n c) (some 39) rfl rfl (by kernel_rfl) (by kernel_rfl) (by kernel_rfl) (by kernel_rfl) (fun _ _ _ h => h) (Or.inl ⟨by kernel_rfl, by intro u hSu; go_simp⟩) hS ?_
    try simp only [Act.put, List.setIfInBounds_toArray, List.set_cons_zero, List.set_cons_succ]
    refine wpAnyE_takeD (L := 999) (i := 9) (v := .int .i64 (n : Int)) (some 40) rfl rfl (by kernel_rfl) (by kernel_rfl) (by kernel_rfl) (by kernel_rfl) (fun _ _ _ h => h) (Or.inl ⟨by kernel_rfl, by intro u hSu; go_simp⟩) hS ?_
    try simp only [Act.put, List.setIfInBounds_toArray, List.set_cons_zero, List.set_cons_succ]
    refine wpAnyE_takeD (L := 999) (i := 10) (v := .bool false) (some 41) rfl rfl (by kernel_rfl) (by kernel_rfl) (by kernel_rfl) (by kernel_rfl) (fun _ _ _ h => h) (Or.inl ⟨by kernel_rfl, by intro u hSu; go_simp⟩) hS ?_
    try simp only [Act.put, List.setIfInBounds_toArray, List.set_cons_zero, List.set_cons_succ]
    refine wpAnyE_takeD (L := 999) (i := 11) (v := .bool false) (some 42) rfl rfl (by kernel_rfl) (by kernel_rfl) (by kernel_rfl) (by kernel_rfl) (fun _ _ _ h => h) (Or.inl ⟨by kernel_rfl, by intro u hSu; go_simp⟩) hS ?_
    try simp only [Act.put, List.setIfInBounds_toArray, List.set_cons_zero, List.set_cons_succ]
    refine wpAnyE_takeD (L := 999) (i := 12) (v := .bool false) (some 43) rfl rfl (by kernel_rfl) (by kernel_rfl) (by kernel_rfl) (by kernel_rfl) (fun _ _ _ h => h) (Or.inl ⟨by kernel_rfl, by intro u hSu; go_simp⟩) hS ?_
    try simp only [Act.put, List.setIfInBounds_toArray, List.set_cons_zero, List.set_cons_succ]
    refine wpAnyE_takeD (L := 999) (i := 13) (v := .pointer (some ⟨B, 1, none⟩)) (some 44) rfl rfl (by kernel_rfl) (by kernel_rfl) (by kernel_rfl) (by kernel_rfl) (fun _ _ _ h => h) (Or.inl ⟨by kernel_rfl, by intro u hSu; go_simp⟩) hS ?_
    try simp only [Act.put, List.setIfInBounds_toArray, List.set_cons_zero, List.set_cons_succ]
    refine wpAnyE_takeD (L := 999) (i := 14) (v := .slice ra M rc) (some 45) rfl rfl (by kernel_rfl) (by kernel_rfl) (by kernel_rfl) (by kernel_rfl) (fun _ _ _ h => h) (Or.inl ⟨by kernel_rfl, by intro u hSu; have h0 := cell_below A1 hSu; go_simp⟩) hS ?_
    try simp only [Act.put, List.setIfInBounds_toArray, List.set_cons_zero, List.set_cons_succ]
    refine wpAnyE_takeD (L := 999) (i := 15) (v := .int .i64 (M : Int)) (some 46) rfl rfl (by kernel_rfl) (by kernel_rfl) (by kernel_rfl) (by kernel_rfl) (fun _ _ _ h => h) (Or.inl ⟨by kernel_rfl, by intro u hSu; go_simp⟩) hS ?_
    try simp only [Act.put, List.setIfInBounds_toArray, List.set_cons_zero, List.set_cons_succ]
    refine wpAnyE_takeD (L := 999) (i := 16) (v := .slice (some ⟨g, 0, none⟩) n c) (some 47) rfl rfl (by kernel_rfl) (by kernel_rfl) (by kernel_rfl) (by kernel_rfl) (fun _ _ _ h => h) (Or.inl ⟨by kernel_rfl, by intro u hSu; go_simp⟩) hS ?_
    try simp only [Act.put, List.setIfInBounds_toArray, List.set_cons_zero, List.set_cons_succ]
    refine wpAnyE_takeD (L := 999) (i := 17) (v := .int .i64 f) (some 48) rfl rfl (by kernel_rfl) (by kernel_rfl) (by kernel_rfl) (by kernel_rfl) (fun _ _ _ h => h) (Or.inl ⟨by kernel_rfl, by intro u hSu; go_simp⟩) hS ?_
    try simp only [Act.put, List.setIfInBounds_toArray, List.set_cons_zero, List.set_cons_succ]
    refine wpAnyE_ready (rs := [18]) (by kernel_rfl) (by simp) ?_
    refine AllReadyE.cons rfl (fun K hK => ?_) AllReadyE.nil
    rw [if_pos (by kernel_rfl)]
    go_simp
    refine (HSPC.out _ (HV3.out.below hS)).mono ?_
    rintro e u1 ⟨sa, sc, rfl, hbu, -⟩
    refine hK.out _ _ (below_then hS hbu) (fun hS9 => ?_)
    try simp only [Act.put, List.setIfInBounds_toArray, List.set_cons_zero, List.set_cons_succ]
    clear hK K hS hbu
    have hS := hS9
    clear hS9
    refine wpAnyE_takeD (L := 999) (i := 19) (v := .slice sa M sc) (some 50) rfl rfl (by kernel_rfl) (by kernel_rfl) (by kernel_rfl) (by kernel_rfl) (fun _ _ _ h => h) (Or.inl ⟨by kernel_rfl, by intro u hSu; have hf : (Instr.field 28 (.agg #[.int .i64 0, .slice sa M sc]) 1).run Try.prog u = .ok (.slice sa M sc) u := (by kernel_rfl); go_simp⟩) hS ?_
    try simp only [Act.put, List.setIfInBounds_toArray, List.set_cons_zero, List.set_cons_succ]
    refine wpAnyE_takeD (L := 999) (i := 20) (v := .int .i64 (M : Int)) (some 51) rfl rfl (by kernel_rfl) (by kernel_rfl) (by kernel_rfl) (by kernel_rfl) (fun _ _ _ h => h) (Or.inl ⟨by kernel_rfl, by intro u hSu; go_simp⟩) hS ?_
    try simp only [Act.put, List.setIfInBounds_toArray, List.set_cons_zero, List.set_cons_succ]
    refine wpAnyE_takeD (L := 999) (i := 21) (v := .bool false) (some 52) rfl rfl (by kernel_rfl) (by kernel_rfl) (by kernel_rfl) (by kernel_rfl) (fun _ _ _ h => h) (Or.inl ⟨by kernel_rfl, by intro u hSu; go_simp⟩) hS ?_
    try simp only [Act.put, List.setIfInBounds_toArray, List.set_cons_zero, List.set_cons_succ]
    refine wpAnyE_takeD (L := 999) (i := 22) (v := .bool false) (some 53) rfl rfl (by kernel_rfl) (by kernel_rfl) (by kernel_rfl) (by kernel_rfl) (fun _ _ _ h => h) (Or.inl ⟨by kernel_rfl, by intro u hSu; go_simp⟩) hS ?_
    try simp only [Act.put, List.setIfInBounds_toArray, List.set_cons_zero, List.set_cons_succ]
    refine wpAnyE_done (by kernel_rfl) ?_ _
    go_simp
    go_wp2_with fail
    clear HSPC HCHF
    go_loopw [6, 7, 8, 9] (fun k _ _ _ wr1 => ∃ q : Nat, q ≤ 40 ∧ k = .int .i64 q ∧ Hid (Below W3.heap.size W3 wr1)) (fun k _ _ _ _ => 40 - (intOf k).toNat)
    case atStart => exact ⟨0, by omega, rfl, hS⟩
    case round =>
      clear hS
      obtain ⟨q, hq, rfl, HBr⟩ := hrel
      by_cases hq4 : q < 40
      · have hq4' : (q : Int) < 40 := by omega
        have hw1 : IntKind.i64.wrap (f + (q : Int)) = f + (q : Int) := by rw [IntKind.wrap_i64]; omega
        have hw2 : IntKind.i64.wrap (60 + (q : Int)) = 60 + (q : Int) := by rw [IntKind.wrap_i64]; omega
        by_cases h30 : 30 < (q : Int)
        · by_cases h9 : f < 900
          · skip
            have hx : ¬ (1000000 < 60 + (q : Int)) := by omega
            by_cases hx2 : 60 + (q : Int) < f
            · skip
              go_wp2_with fail
              go_roundw
              case rel => exact ⟨q + 1, by omega, by go_num, HBr⟩
              case measure => simp [intOf]; omega
            · go_upto_region 16 with fail
              generalize 60 + (q : Int) = x at *
              have HX : Hid (f ≤ x ∧ x ≤ 1000000) := ⟨by omega, by omega⟩
              clear hw1 hw2 hx hx2
              go_wp2_with fail
              go_loopw [8, 9] (fun own _ wr2 => ∃ p : Nat, p ≤ 4 ∧ own = .int .i64 p ∧ Hid (Below W3.heap.size W3 wr2)) (fun own _ _ => 4 - (intOf own).toNat)
              case atStart => exact ⟨0, by omega, rfl, HBr⟩
              case round =>
                clear HBr
                obtain ⟨p, hp, rfl, HBr⟩ := hrel
                by_cases hp4 : p < 4
                · have hp4' : (p : Int) < 4 := by omega
                  go_upto_region 20 with fail
                  obtain ⟨W4, hW4⟩ : ∃ y, y = wr.alloc (.cells #[.int .i64 x, .int .i64 (p : Int)] 32) := ⟨_, rfl⟩
                  have D0 : W4.cell? ⟨wr.heap.size, 0, none⟩ = some (.int .i64 x) := by rw [hW4]; simp [go_sem]
                  have D1 : W4.cell? ⟨wr.heap.size, 1, none⟩ = some (.int .i64 (p : Int)) := by rw [hW4]; simp [go_sem]
                  have hb4 : Below W3.heap.size W3 W4 := by rw [hW4]; exact below_then HBr.out (below_new _ _)
                  have E1 := cell_below A1 hb4
                  have HO4 : Hid (VersAt W4 ra M R) := HO3.out.below hb4
                  have HV4 : Hid (VersAt W4 (some ⟨g, 0, none⟩) n R) := HV3.out.below hb4
                  have HB4 : Hid (Below W3.heap.size W3 W4) := hb4
                  obtain ⟨c1, v1, m1, HS1, HS2, HM1, HM2⟩ := HALL.out x p HX.out.1
                  try rw [← hW4]
                  generalize wr.heap.size = V at *
                  clear hW4 hb4 HBr
                  refine wp_region_E 999 (S := fun u => Below W4.heap.size W4 u) (by kernel_rfl) ((Below.refl _ _).drew) (fun hS => ?_)
                  obtain ⟨u0, hu0⟩ : ∃ y, y = W4.drew := ⟨_, rfl⟩
                  rw [← hu0] at hS ⊢
                  clear hu0
                  refine wpAnyE_takeD (L := 999) (i := 0) (v := .pointer (some ⟨B, 1, none⟩)) (some 83) rfl rfl (by kernel_rfl) (by kernel_rfl) (by kernel_rfl) (by kernel_rfl) (fun _ _ _ h => h) (Or.inl ⟨by kernel_rfl, by intro u hSu; go_simp⟩) hS ?_
                  try simp only [Act.put, List.setIfInBounds_toArray, List.set_cons_zero, List.set_cons_succ]
                  refine wpAnyE_takeD (L := 999) (i := 1) (v := .slice ra M rc) (some 84) rfl rfl (by kernel_rfl) (by kernel_rfl) (by kernel_rfl) (by kernel_rfl) (fun _ _ _ h => h) (Or.inl ⟨by kernel_rfl, by intro u hSu; have h0 := cell_below E1 hSu; go_simp⟩) hS ?_
                  try simp only [Act.put, List.setIfInBounds_toArray, List.set_cons_zero, List.set_cons_succ]
                  refine wpAnyE_takeD (L := 999) (i := 2) (v := .agg #[.int .i64 x, .int .i64 (p : Int)]) (some 85) rfl rfl (by kernel_rfl) (by kernel_rfl) (by kernel_rfl) (by kernel_rfl) (fun _ _ _ h => h) (Or.inl ⟨by kernel_rfl, by intro u hSu; have h0 := cell_below D0 hSu; have h1 := cell_below D1 hSu; go_simp⟩) hS ?_
                  try simp only [Act.put, List.setIfInBounds_toArray, List.set_cons_zero, List.set_cons_succ]
                  refine wpAnyE_takeD (L := 999) (i := 4) (v := .slice (some ⟨g, 0, none⟩) n c) (some 87) rfl rfl (by kernel_rfl) (by kernel_rfl) (by kernel_rfl) (by kernel_rfl) (fun _ _ _ h => h) (Or.inl ⟨by kernel_rfl, by intro u hSu; go_simp⟩) hS ?_
                  try simp only [Act.put, List.setIfInBounds_toArray, List.set_cons_zero, List.set_cons_succ]
                  refine wpAnyE_takeD (L := 999) (i := 5) (v := .agg #[.int .i64 x, .int .i64 (p : Int)]) (some 88) rfl rfl (by kernel_rfl) (by kernel_rfl) (by kernel_rfl) (by kernel_rfl) (fun _ _ _ h => h) (Or.inl ⟨by kernel_rfl, by intro u hSu; have h0 := cell_below D0 hSu; have h1 := cell_below D1 hSu; go_simp⟩) hS ?_
                  try simp only [Act.put, List.setIfInBounds_toArray, List.set_cons_zero, List.set_cons_succ]
                  refine wpAnyE_ready (rs := [3]) (by kernel_rfl) (by simp) ?_
                  refine AllReadyE.cons rfl (fun K hK => ?_) AllReadyE.nil
                  go_simp
                  refine (HS1.out _ (HO4.out.below hS)).mono ?_
                  rintro e u1 ⟨rfl, hbu⟩
                  refine hK.out _ _ (below_then hS hbu) (fun hS9 => ?_)
                  try simp only [Act.put, List.setIfInBounds_toArray, List.set_cons_zero, List.set_cons_succ]
                  clear hK K hS hbu
                  have hS := hS9
                  clear hS9
                  refine wpAnyE_ready (rs := [6]) (by kernel_rfl) (by simp) ?_
                  refine AllReadyE.cons rfl (fun K hK => ?_) AllReadyE.nil
                  go_simp
                  refine (HS2.out _ (HV4.out.below hS)).mono ?_
                  rintro e u1 ⟨rfl, hbu⟩
                  refine hK.out _ _ (below_then hS hbu) (fun hS9 => ?_)
                  try simp only [Act.put, List.setIfInBounds_toArray, List.set_cons_zero, List.set_cons_succ]
                  clear hK K hS hbu
                  have hS := hS9
                  clear hS9
                  refine wpAnyE_takeD (L := 999) (i := 7) (v := .bool false) (some 90) rfl rfl (by kernel_rfl) (by kernel_rfl) (by kernel_rfl) (by kernel_rfl) (fun _ _ _ h => h) (Or.inl ⟨by kernel_rfl, by intro u hSu; go_simp⟩) hS ?_
                  try simp only [Act.put, List.setIfInBounds_toArray, List.set_cons_zero, List.set_cons_succ]
                  refine wpAnyE_takeD (L := 999) (i := 8) (v := .bool false) (some 91) rfl rfl (by kernel_rfl) (by kernel_rfl) (by kernel_rfl) (by kernel_rfl) (fun _ _ _ h => h) (Or.inl ⟨by kernel_rfl, by intro u hSu; go_simp⟩) hS ?_
                  try simp only [Act.put, List.setIfInBounds_toArray, List.set_cons_zero, List.set_cons_succ]
                  refine wpAnyE_takeD (L := 999) (i := 9) (v := .pointer (some ⟨B, 1, none⟩)) (some 92) rfl rfl (by kernel_rfl) (by kernel_rfl) (by kernel_rfl) (by kernel_rfl) (fun _ _ _ h => h) (Or.inl ⟨by kernel_rfl, by intro u hSu; go_simp⟩) hS ?_
                  try simp only [Act.put, List.setIfInBounds_toArray, List.set_cons_zero, List.set_cons_succ]
                  refine wpAnyE_takeD (L := 999) (i := 10) (v := .slice ra M rc) (some 93) rfl rfl (by kernel_rfl) (by kernel_rfl) (by kernel_rfl) (by kernel_rfl) (fun _ _ _ h => h) (Or.inl ⟨by kernel_rfl, by intro u hSu; have h0 := cell_below E1 hSu; go_simp⟩) hS ?_
                  try simp only [Act.put, List.setIfInBounds_toArray, List.set_cons_zero, List.set_cons_succ]
                  refine wpAnyE_takeD (L := 999) (i := 11) (v := .agg #[.int .i64 x, .int .i64 (p : Int)]) (some 94) rfl rfl (by kernel_rfl) (by kernel_rfl) (by kernel_rfl) (by kernel_rfl) (fun _ _ _ h => h) (Or.inl ⟨by kernel_rfl, by intro u hSu; have h0 := cell_below D0 hSu; have h1 := cell_below D1 hSu; go_simp⟩) hS ?_
                  try simp only [Act.put, List.setIfInBounds_toArray, List.set_cons_zero, List.set_cons_succ]
                  refine wpAnyE_takeD (L := 999) (i := 13) (v := .slice (some ⟨g, 0, none⟩) n c) (some 96) rfl rfl (by kernel_rfl) (by kernel_rfl) (by kernel_rfl) (by kernel_rfl) (fun _ _ _ h => h) (Or.inl ⟨by kernel_rfl, by intro u hSu; go_simp⟩) hS ?_
                  try simp only [Act.put, List.setIfInBounds_toArray, List.set_cons_zero, List.set_cons_succ]
                  refine wpAnyE_takeD (L := 999) (i := 14) (v := .agg #[.int .i64 x, .int .i64 (p : Int)]) (some 97) rfl rfl (by kernel_rfl) (by kernel_rfl) (by kernel_rfl) (by kernel_rfl) (fun _ _ _ h => h) (Or.inl ⟨by kernel_rfl, by intro u hSu; have h0 := cell_below D0 hSu; have h1 := cell_below D1 hSu; go_simp⟩) hS ?_
                  try simp only [Act.put, List.setIfInBounds_toArray, List.set_cons_zero, List.set_cons_succ]
                  refine wpAnyE_ready (rs := [12]) (by kernel_rfl) (by simp) ?_
                  refine AllReadyE.cons rfl (fun K hK => ?_) AllReadyE.nil
                  rw [if_pos (by kernel_rfl)]
                  go_simp
                  refine (HM1.out _ (HO4.out.below hS)).mono ?_
                  rintro e u1 ⟨rfl, hbu⟩
                  refine hK.out _ _ (below_then hS hbu) (fun hS9 => ?_)
                  try simp only [Act.put, List.setIfInBounds_toArray, List.set_cons_zero, List.set_cons_succ]
                  clear hK K hS hbu
                  have hS := hS9
                  clear hS9
                  refine wpAnyE_ready (rs := [15]) (by kernel_rfl) (by simp) ?_
                  refine AllReadyE.cons rfl (fun K hK => ?_) AllReadyE.nil
                  rw [if_pos (by kernel_rfl)]
                  go_simp
                  refine (HM2.out _ (HV4.out.below hS)).mono ?_
                  rintro e u1 ⟨rfl, hbu⟩
                  refine hK.out _ _ (below_then hS hbu) (fun hS9 => ?_)
                  try simp only [Act.put, List.setIfInBounds_toArray, List.set_cons_zero, List.set_cons_succ]
                  clear hK K hS hbu
                  have hS := hS9
                  clear hS9
                  refine wpAnyE_takeD (L := 999) (i := 16) (v := .bool false) (some 99) rfl rfl (by kernel_rfl) (by kernel_rfl) (by kernel_rfl) (by kernel_rfl) (fun _ _ _ h => h) (Or.inl ⟨by kernel_rfl, by intro u hSu; go_simp⟩) hS ?_
                  try simp only [Act.put, List.setIfInBounds_toArray, List.set_cons_zero, List.set_cons_succ]
                  refine wpAnyE_takeD (L := 999) (i := 17) (v := .bool false) (some 100) rfl rfl (by kernel_rfl) (by kernel_rfl) (by kernel_rfl) (by kernel_rfl) (fun _ _ _ h => h) (Or.inl ⟨by kernel_rfl, by intro u hSu; go_simp⟩) hS ?_
                  try simp only [Act.put, List.setIfInBounds_toArray, List.set_cons_zero, List.set_cons_succ]
                  refine wpAnyE_done (by kernel_rfl) ?_ _
                  go_simp
                  go_wp2_with fail
                  go_roundw
                  case rel => exact ⟨p + 1, by omega, by go_num, below_then HB4.out hS⟩
                  case measure => simp [intOf]; omega
                · have hp4' : ¬ ((p : Int) < 4) := by omega
                  go_wp2_with fail
                  go_roundw
                  case rel => exact ⟨q + 1, by omega, by go_num, HBr⟩
                  case measure => simp [intOf]; omega
          · skip
            by_cases hx : 1000000 < f + (q : Int)
            · have hx1 : decide (1000000 < f + (q : Int)) = true := by simp; omega
              go_wp2_with fail
              go_roundw
              case rel => exact ⟨q + 1, by omega, by go_num, HBr⟩
              case measure => simp [intOf]; omega
            · have HX0 : Hid (f ≤ f + (q : Int)) := by show f ≤ f + (q : Int); omega
              have hx2 : ¬ (f + (q : Int) < f) := by omega
              go_upto_region 16 with fail
              generalize f + (q : Int) = x at *
              have HX : Hid (f ≤ x ∧ x ≤ 1000000) := ⟨HX0.out, by omega⟩
              clear HX0 hw1 hw2 hx hx2
              go_wp2_with fail
              go_loopw [8, 9] (fun own _ wr2 => ∃ p : Nat, p ≤ 4 ∧ own = .int .i64 p ∧ Hid (Below W3.heap.size W3 wr2)) (fun own _ _ => 4 - (intOf own).toNat)
              case atStart => exact ⟨0, by omega, rfl, HBr⟩
              case round =>
                clear HBr
                obtain ⟨p, hp, rfl, HBr⟩ := hrel
                by_cases hp4 : p < 4
                · have hp4' : (p : Int) < 4 := by omega
                  go_upto_region 20 with fail
                  obtain ⟨W4, hW4⟩ : ∃ y, y = wr.alloc (.cells #[.int .i64 x, .int .i64 (p : Int)] 32) := ⟨_, rfl⟩
                  have D0 : W4.cell? ⟨wr.heap.size, 0, none⟩ = some (.int .i64 x) := by rw [hW4]; simp [go_sem]
                  have D1 : W4.cell? ⟨wr.heap.size, 1, none⟩ = some (.int .i64 (p : Int)) := by rw [hW4]; simp [go_sem]
                  have hb4 : Below W3.heap.size W3 W4 := by rw [hW4]; exact below_then HBr.out (below_new _ _)
                  have E1 := cell_below A1 hb4
                  have HO4 : Hid (VersAt W4 ra M R) := HO3.out.below hb4
                  have HV4 : Hid (VersAt W4 (some ⟨g, 0, none⟩) n R) := HV3.out.below hb4
                  have HB4 : Hid (Below W3.heap.size W3 W4) := hb4
                  obtain ⟨c1, v1, m1, HS1, HS2, HM1, HM2⟩ := HALL.out x p HX.out.1
                  try rw [← hW4]
                  generalize wr.heap.size = V at *
                  clear hW4 hb4 HBr
                  refine wp_region_E 999 (S := fun u => Below W4.heap.size W4 u) (by kernel_rfl) ((Below.refl _ _).drew) (fun hS => ?_)
                  obtain ⟨u0, hu0⟩ : ∃ y, y = W4.drew := ⟨_, rfl⟩
                  rw [← hu0] at hS ⊢
                  clear hu0
                  refine wpAnyE_takeD (L := 999) (i := 0) (v := .pointer (some ⟨B, 1, none⟩)) (some 83) rfl rfl (by kernel_rfl) (by kernel_rfl) (by kernel_rfl) (by kernel_rfl) (fun _ _ _ h => h) (Or.inl ⟨by kernel_rfl, by intro u hSu; go_simp⟩) hS ?_
                  try simp only [Act.put, List.setIfInBounds_toArray, List.set_cons_zero, List.set_cons_succ]
                  refine wpAnyE_takeD (L := 999) (i := 1) (v := .slice ra M rc) (some 84) rfl rfl (by kernel_rfl) (by kernel_rfl) (by kernel_rfl) (by kernel_rfl) (fun _ _ _ h => h) (Or.inl ⟨by kernel_rfl, by intro u hSu; have h0 := cell_below E1 hSu; go_simp⟩) hS ?_
                  try simp only [Act.put, List.setIfInBounds_toArray, List.set_cons_zero, List.set_cons_succ]
                  refine wpAnyE_takeD (L := 999) (i := 2) (v := .agg #[.int .i64 x, .int .i64 (p : Int)]) (some 85) rfl rfl (by kernel_rfl) (by kernel_rfl) (by kernel_rfl) (by kernel_rfl) (fun _ _ _ h => h) (Or.inl ⟨by kernel_rfl, by intro u hSu; have h0 := cell_below D0 hSu; have h1 := cell_below D1 hSu; go_simp⟩) hS ?_
                  try simp only [Act.put, List.setIfInBounds_toArray, List.set_cons_zero, List.set_cons_succ]
                  refine wpAnyE_takeD (L := 999) (i := 4) (v := .slice (some ⟨g, 0, none⟩) n c) (some 87) rfl rfl (by kernel_rfl) (by kernel_rfl) (by kernel_rfl) (by kernel_rfl) (fun _ _ _ h => h) (Or.inl ⟨by kernel_rfl, by intro u hSu; go_simp⟩) hS ?_
                  try simp only [Act.put, List.setIfInBounds_toArray, List.set_cons_zero, List.set_cons_succ]
                  refine wpAnyE_takeD (L := 999) (i := 5) (v := .agg #[.int .i64 x, .int .i64 (p : Int)]) (some 88) rfl rfl (by kernel_rfl) (by kernel_rfl) (by kernel_rfl) (by kernel_rfl) (fun _ _ _ h => h) (Or.inl ⟨by kernel_rfl, by intro u hSu; have h0 := cell_below D0 hSu; have h1 := cell_below D1 hSu; go_simp⟩) hS ?_
                  try simp only [Act.put, List.setIfInBounds_toArray, List.set_cons_zero, List.set_cons_succ]
                  refine wpAnyE_ready (rs := [3]) (by kernel_rfl) (by simp) ?_
                  refine AllReadyE.cons rfl (fun K hK => ?_) AllReadyE.nil
                  go_simp
                  refine (HS1.out _ (HO4.out.below hS)).mono ?_
                  rintro e u1 ⟨rfl, hbu⟩
                  refine hK.out _ _ (below_then hS hbu) (fun hS9 => ?_)
                  try simp only [Act.put, List.setIfInBounds_toArray, List.set_cons_zero, List.set_cons_succ]
                  clear hK K hS hbu
                  have hS := hS9
                  clear hS9
                  refine wpAnyE_ready (rs := [6]) (by kernel_rfl) (by simp) ?_
                  refine AllReadyE.cons rfl (fun K hK => ?_) AllReadyE.nil
                  go_simp
                  refine (HS2.out _ (HV4.out.below hS)).mono ?_
                  rintro e u1 ⟨rfl, hbu⟩
                  refine hK.out _ _ (below_then hS hbu) (fun hS9 => ?_)
                  try simp only [Act.put, List.setIfInBounds_toArray, List.set_cons_zero, List.set_cons_succ]
                  clear hK K hS hbu
                  have hS := hS9
                  clear hS9
                  refine wpAnyE_takeD (L := 999) (i := 7) (v := .bool false) (some 90) rfl rfl (by kernel_rfl) (by kernel_rfl) (by kernel_rfl) (by kernel_rfl) (fun _ _ _ h => h) (Or.inl ⟨by kernel_rfl, by intro u hSu; go_simp⟩) hS ?_
                  try simp only [Act.put, List.setIfInBounds_toArray, List.set_cons_zero, List.set_cons_succ]
                  refine wpAnyE_takeD (L := 999) (i := 8) (v := .bool false) (some 91) rfl rfl (by kernel_rfl) (by kernel_rfl) (by kernel_rfl) (by kernel_rfl) (fun _ _ _ h => h) (Or.inl ⟨by kernel_rfl, by intro u hSu; go_simp⟩) hS ?_
                  try simp only [Act.put, List.setIfInBounds_toArray, List.set_cons_zero, List.set_cons_succ]
                  refine wpAnyE_takeD (L := 999) (i := 9) (v := .pointer (some ⟨B, 1, none⟩)) (some 92) rfl rfl (by kernel_rfl) (by kernel_rfl) (by kernel_rfl) (by kernel_rfl) (fun _ _ _ h => h) (Or.inl ⟨by kernel_rfl, by intro u hSu; go_simp⟩) hS ?_
                  try simp only [Act.put, List.setIfInBounds_toArray, List.set_cons_zero, List.set_cons_succ]
                  refine wpAnyE_takeD (L := 999) (i := 10) (v := .slice ra M rc) (some 93) rfl rfl (by kernel_rfl) (by kernel_rfl) (by kernel_rfl) (by kernel_rfl) (fun _ _ _ h => h) (Or.inl ⟨by kernel_rfl, by intro u hSu; have h0 := cell_below E1 hSu; go_simp⟩) hS ?_
                  try simp only [Act.put, List.setIfInBounds_toArray, List.set_cons_zero, List.set_cons_succ]
                  refine wpAnyE_takeD (L := 999) (i := 11) (v := .agg #[.int .i64 x, .int .i64 (p : Int)]) (some 94) rfl rfl (by kernel_rfl) (by kernel_rfl) (by kernel_rfl) (by kernel_rfl) (fun _ _ _ h => h) (Or.inl ⟨by kernel_rfl, by intro u hSu; have h0 := cell_below D0 hSu; have h1 := cell_below D1 hSu; go_simp⟩) hS ?_
                  try simp only [Act.put, List.setIfInBounds_toArray, List.set_cons_zero, List.set_cons_succ]
                  refine wpAnyE_takeD (L := 999) (i := 13) (v := .slice (some ⟨g, 0, none⟩) n c) (some 96) rfl rfl (by kernel_rfl) (by kernel_rfl) (by kernel_rfl) (by kernel_rfl) (fun _ _ _ h => h) (Or.inl ⟨by kernel_rfl, by intro u hSu; go_simp⟩) hS ?_
                  try simp only [Act.put, List.setIfInBounds_toArray, List.set_cons_zero, List.set_cons_succ]
                  refine wpAnyE_takeD (L := 999) (i := 14) (v := .agg #[.int .i64 x, .int .i64 (p : Int)]) (some 97) rfl rfl (by kernel_rfl) (by kernel_rfl) (by kernel_rfl) (by kernel_rfl) (fun _ _ _ h => h) (Or.inl ⟨by kernel_rfl, by intro u hSu; have h0 := cell_below D0 hSu; have h1 := cell_below D1 hSu; go_simp⟩) hS ?_
                  try simp only [Act.put, List.setIfInBounds_toArray, List.set_cons_zero, List.set_cons_succ]
                  refine wpAnyE_ready (rs := [12]) (by kernel_rfl) (by simp) ?_
                  refine AllReadyE.cons rfl (fun K hK => ?_) AllReadyE.nil
                  rw [if_pos (by kernel_rfl)]
                  go_simp
                  refine (HM1.out _ (HO4.out.below hS)).mono ?_
                  rintro e u1 ⟨rfl, hbu⟩
                  refine hK.out _ _ (below_then hS hbu) (fun hS9 => ?_)
                  try simp only [Act.put, List.setIfInBounds_toArray, List.set_cons_zero, List.set_cons_succ]
                  clear hK K hS hbu
                  have hS := hS9
                  clear hS9
                  refine wpAnyE_ready (rs := [15]) (by kernel_rfl) (by simp) ?_
                  refine AllReadyE.cons rfl (fun K hK => ?_) AllReadyE.nil
                  rw [if_pos (by kernel_rfl)]
                  go_simp
                  refine (HM2.out _ (HV4.out.below hS)).mono ?_
                  rintro e u1 ⟨rfl, hbu⟩
                  refine hK.out _ _ (below_then hS hbu) (fun hS9 => ?_)
                  try simp only [Act.put, List.setIfInBounds_toArray, List.set_cons_zero, List.set_cons_succ]
                  clear hK K hS hbu
                  have hS := hS9
                  clear hS9
                  refine wpAnyE_takeD (L := 999) (i := 16) (v := .bool false) (some 99) rfl rfl (by kernel_rfl) (by kernel_rfl) (by kernel_rfl) (by kernel_rfl) (fun _ _ _ h => h) (Or.inl ⟨by kernel_rfl, by intro u hSu; go_simp⟩) hS ?_
                  try simp only [Act.put, List.setIfInBounds_toArray, List.set_cons_zero, List.set_cons_succ]
                  refine wpAnyE_takeD (L := 999) (i := 17) (v := .bool false) (some 100) rfl rfl (by kernel_rfl) (by kernel_rfl) (by kernel_rfl) (by kernel_rfl) (fun _ _ _ h => h) (Or.inl ⟨by kernel_rfl, by intro u hSu; go_simp⟩) hS ?_
                  try simp only [Act.put, List.setIfInBounds_toArray, List.set_cons_zero, List.set_cons_succ]
                  refine wpAnyE_done (by kernel_rfl) ?_ _
                  go_simp
                  go_wp2_with fail
                  go_roundw
                  case rel => exact ⟨p + 1, by omega, by go_num, below_then HB4.out hS⟩
                  case measure => simp [intOf]; omega
                · have hp4' : ¬ ((p : Int) < 4) := by omega
                  go_wp2_with fail
                  go_roundw
                  case rel => exact ⟨q + 1, by omega, by go_num, HBr⟩
                  case measure => simp [intOf]; omega
        · skip
          by_cases hx : 1000000 < f + (q : Int)
          · have hx1 : decide (1000000 < f + (q : Int)) = true := by simp; omega
            go_wp2_with fail
            go_roundw
            case rel => exact ⟨q + 1, by omega, by go_num, HBr⟩
            case measure => simp [intOf]; omega
          · have HX0 : Hid (f ≤ f + (q : Int)) := by show f ≤ f + (q : Int); omega
            have hx2 : ¬ (f + (q : Int) < f) := by omega
            go_upto_region 16 with fail
            generalize f + (q : Int) = x at *
            have HX : Hid (f ≤ x ∧ x ≤ 1000000) := ⟨HX0.out, by omega⟩
            clear HX0 hw1 hw2 hx hx2
            go_wp2_with fail
            go_loopw [8, 9] (fun own _ wr2 => ∃ p : Nat, p ≤ 4 ∧ own = .int .i64 p ∧ Hid (Below W3.heap.size W3 wr2)) (fun own _ _ => 4 - (intOf own).toNat)
            case atStart => exact ⟨0, by omega, rfl, HBr⟩
            case round =>
              clear HBr
              obtain ⟨p, hp, rfl, HBr⟩ := hrel
              by_cases hp4 : p < 4
              · have hp4' : (p : Int) < 4 := by omega
                go_upto_region 20 with fail
                obtain ⟨W4, hW4⟩ : ∃ y, y = wr.alloc (.cells #[.int .i64 x, .int .i64 (p : Int)] 32) := ⟨_, rfl⟩
                have D0 : W4.cell? ⟨wr.heap.size, 0, none⟩ = some (.int .i64 x) := by rw [hW4]; simp [go_sem]
                have D1 : W4.cell? ⟨wr.heap.size, 1, none⟩ = some (.int .i64 (p : Int)) := by rw [hW4]; simp [go_sem]
                have hb4 : Below W3.heap.size W3 W4 := by rw [hW4]; exact below_then HBr.out (below_new _ _)
                have E1 := cell_below A1 hb4
                have HO4 : Hid (VersAt W4 ra M R) := HO3.out.below hb4
                have HV4 : Hid (VersAt W4 (some ⟨g, 0, none⟩) n R) := HV3.out.below hb4
                have HB4 : Hid (Below W3.heap.size W3 W4) := hb4
                obtain ⟨c1, v1, m1, HS1, HS2, HM1, HM2⟩ := HALL.out x p HX.out.1
                try rw [← hW4]
                generalize wr.heap.size = V at *
                clear hW4 hb4 HBr
                refine wp_region_E 999 (S := fun u => Below W4.heap.size W4 u) (by kernel_rfl) ((Below.refl _ _).drew) (fun hS => ?_)
                obtain ⟨u0, hu0⟩ : ∃ y, y = W4.drew := ⟨_, rfl⟩
                rw [← hu0] at hS ⊢
                clear hu0
                refine wpAnyE_takeD (L := 999) (i := 0) (v := .pointer (some ⟨B, 1, none⟩)) (some 83) rfl rfl (by kernel_rfl) (by kernel_rfl) (by kernel_rfl) (by kernel_rfl) (fun _ _ _ h => h) (Or.inl ⟨by kernel_rfl, by intro u hSu; go_simp⟩) hS ?_
                try simp only [Act.put, List.setIfInBounds_toArray, List.set_cons_zero, List.set_cons_succ]
                refine wpAnyE_takeD (L := 999) (i := 1) (v := .slice ra M rc) (some 84) rfl rfl (by kernel_rfl) (by kernel_rfl) (by kernel_rfl) (by kernel_rfl) (fun _ _ _ h => h) (Or.inl ⟨by kernel_rfl, by intro u hSu; have h0 := cell_below E1 hSu; go_simp⟩) hS ?_
                try simp only [Act.put, List.setIfInBounds_toArray, List.set_cons_zero, List.set_cons_succ]
                refine wpAnyE_takeD (L := 999) (i := 2) (v := .agg #[.int .i64 x, .int .i64 (p : Int)]) (some 85) rfl rfl (by kernel_rfl) (by kernel_rfl) (by kernel_rfl) (by kernel_rfl) (fun _ _ _ h => h) (Or.inl ⟨by kernel_rfl, by intro u hSu; have h0 := cell_below D0 hSu; have h1 := cell_below D1 hSu; go_simp⟩) hS ?_
                try simp only [Act.put, List.setIfInBounds_toArray, List.set_cons_zero, List.set_cons_succ]
                refine wpAnyE_takeD (L := 999) (i := 4) (v := .slice (some ⟨g, 0, none⟩) n c) (some 87) rfl rfl (by kernel_rfl) (by kernel_rfl) (by kernel_rfl) (by kernel_rfl) (fun _ _ _ h => h) (Or.inl ⟨by kernel_rfl, by intro u hSu; go_simp⟩) hS ?_
                try simp only [Act.put, List.setIfInBounds_toArray, List.set_cons_zero, List.set_cons_succ]
                refine wpAnyE_takeD (L := 999) (i := 5) (v := .agg #[.int .i64 x, .int .i64 (p : Int)]) (some 88) rfl rfl (by kernel_rfl) (by kernel_rfl) (by kernel_rfl) (by kernel_rfl) (fun _ _ _ h => h) (Or.inl ⟨by kernel_rfl, by intro u hSu; have h0 := cell_below D0 hSu; have h1 := cell_below D1 hSu; go_simp⟩) hS ?_
                try simp only [Act.put, List.setIfInBounds_toArray, List.set_cons_zero, List.set_cons_succ]
                refine wpAnyE_ready (rs := [3]) (by kernel_rfl) (by simp) ?_
                refine AllReadyE.cons rfl (fun K hK => ?_) AllReadyE.nil
                go_simp
                refine (HS1.out _ (HO4.out.below hS)).mono ?_
                rintro e u1 ⟨rfl, hbu⟩
                refine hK.out _ _ (below_then hS hbu) (fun hS9 => ?_)
                try simp only [Act.put, List.setIfInBounds_toArray, List.set_cons_zero, List.set_cons_succ]
                clear hK K hS hbu
                have hS := hS9
                clear hS9
                refine wpAnyE_ready (rs := [6]) (by kernel_rfl) (by simp) ?_
                refine AllReadyE.cons rfl (fun K hK => ?_) AllReadyE.nil
                go_simp
                refine (HS2.out _ (HV4.out.below hS)).mono ?_
                rintro e u1 ⟨rfl, hbu⟩
                refine hK.out _ _ (below_then hS hbu) (fun hS9 => ?_)
                try simp only [Act.put, List.setIfInBounds_toArray, List.set_cons_zero, List.set_cons_succ]
                clear hK K hS hbu
                have hS := hS9
                clear hS9
                refine wpAnyE_takeD (L := 999) (i := 7) (v := .bool false) (some 90) rfl rfl (by kernel_rfl) (by kernel_rfl) (by kernel_rfl) (by kernel_rfl) (fun _ _ _ h => h) (Or.inl ⟨by kernel_rfl, by intro u hSu; go_simp⟩) hS ?_
                try simp only [Act.put, List.setIfInBounds_toArray, List.set_cons_zero, List.set_cons_succ]
                refine wpAnyE_takeD (L := 999) (i := 8) (v := .bool false) (some 91) rfl rfl (by kernel_rfl) (by kernel_rfl) (by kernel_rfl) (by kernel_rfl) (fun _ _ _ h => h) (Or.inl ⟨by kernel_rfl, by intro u hSu; go_simp⟩) hS ?_
                try simp only [Act.put, List.setIfInBounds_toArray, List.set_cons_zero, List.set_cons_succ]
                refine wpAnyE_takeD (L := 999) (i := 9) (v := .pointer (some ⟨B, 1, none⟩)) (some 92) rfl rfl (by kernel_rfl) (by kernel_rfl) (by kernel_rfl) (by kernel_rfl) (fun _ _ _ h => h) (Or.inl ⟨by kernel_rfl, by intro u hSu; go_simp⟩) hS ?_
                try simp only [Act.put, List.setIfInBounds_toArray, List.set_cons_zero, List.set_cons_succ]
                refine wpAnyE_takeD (L := 999) (i := 10) (v := .slice ra M rc) (some 93) rfl rfl (by kernel_rfl) (by kernel_rfl) (by kernel_rfl) (by kernel_rfl) (fun _ _ _ h => h) (Or.inl ⟨by kernel_rfl, by intro u hSu; have h0 := cell_below E1 hSu; go_simp⟩) hS ?_
                try simp only [Act.put, List.setIfInBounds_toArray, List.set_cons_zero, List.set_cons_succ]
                refine wpAnyE_takeD (L := 999) (i := 11) (v := .agg #[.int .i64 x, .int .i64 (p : Int)]) (some 94) rfl rfl (by kernel_rfl) (by kernel_rfl) (by kernel_rfl) (by kernel_rfl) (fun _ _ _ h => h) (Or.inl ⟨by kernel_rfl, by intro u hSu; have h0 := cell_below D0 hSu; have h1 := cell_below D1 hSu; go_simp⟩) hS ?_
                try simp only [Act.put, List.setIfInBounds_toArray, List.set_cons_zero, List.set_cons_succ]
                refine wpAnyE_takeD (L := 999) (i := 13) (v := .slice (some ⟨g, 0, none⟩) n c) (some 96) rfl rfl (by kernel_rfl) (by kernel_rfl) (by kernel_rfl) (by kernel_rfl) (fun _ _ _ h => h) (Or.inl ⟨by kernel_rfl, by intro u hSu; go_simp⟩) hS ?_
                try simp only [Act.put, List.setIfInBounds_toArray, List.set_cons_zero, List.set_cons_succ]
                refine wpAnyE_takeD (L := 999) (i := 14) (v := .agg #[.int .i64 x, .int .i64 (p : Int)]) (some 97) rfl rfl (by kernel_rfl) (by kernel_rfl) (by kernel_rfl) (by kernel_rfl) (fun _ _ _ h => h) (Or.inl ⟨by kernel_rfl, by intro u hSu; have h0 := cell_below D0 hSu; have h1 := cell_below D1 hSu; go_simp⟩) hS ?_
                try simp only [Act.put, List.setIfInBounds_toArray, List.set_cons_zero, List.set_cons_succ]
                refine wpAnyE_ready (rs := [12]) (by kernel_rfl) (by simp) ?_
                refine AllReadyE.cons rfl (fun K hK => ?_) AllReadyE.nil
                rw [if_pos (by kernel_rfl)]
                go_simp
                refine (HM1.out _ (HO4.out.below hS)).mono ?_
                rintro e u1 ⟨rfl, hbu⟩
                refine hK.out _ _ (below_then hS hbu) (fun hS9 => ?_)
                try simp only [Act.put, List.setIfInBounds_toArray, List.set_cons_zero, List.set_cons_succ]
                clear hK K hS hbu
                have hS := hS9
                clear hS9
                refine wpAnyE_ready (rs := [15]) (by kernel_rfl) (by simp) ?_
                refine AllReadyE.cons rfl (fun K hK => ?_) AllReadyE.nil
                rw [if_pos (by kernel_rfl)]
                go_simp
                refine (HM2.out _ (HV4.out.below hS)).mono ?_
                rintro e u1 ⟨rfl, hbu⟩
                refine hK.out _ _ (below_then hS hbu) (fun hS9 => ?_)
                try simp only [Act.put, List.setIfInBounds_toArray, List.set_cons_zero, List.set_cons_succ]
                clear hK K hS hbu
                have hS := hS9
                clear hS9
                refine wpAnyE_takeD (L := 999) (i := 16) (v := .bool false) (some 99) rfl rfl (by kernel_rfl) (by kernel_rfl) (by kernel_rfl) (by kernel_rfl) (fun _ _ _ h => h) (Or.inl ⟨by kernel_rfl, by intro u hSu; go_simp⟩) hS ?_
                try simp only [Act.put, List.setIfInBounds_toArray, List.set_cons_zero, List.set_cons_succ]
                refine wpAnyE_takeD (L := 999) (i := 17) (v := .bool false) (some 100) rfl rfl (by kernel_rfl) (by kernel_rfl) (by kernel_rfl) (by kernel_rfl) (fun _ _ _ h => h) (Or.inl ⟨by kernel_rfl, by intro u hSu; go_simp⟩) hS ?_
                try simp only [Act.put, List.setIfInBounds_toArray, List.set_cons_zero, List.set_cons_succ]
                refine wpAnyE_done (by kernel_rfl) ?_ _
                go_simp
                go_wp2_with fail
                go_roundw
                case rel => exact ⟨p + 1, by omega, by go_num, below_then HB4.out hS⟩
                case measure => simp [intOf]; omega
              · have hp4' : ¬ ((p : Int) < 4) := by omega
                go_wp2_with fail
                go_roundw
                case rel => exact ⟨q + 1, by omega, by go_num, HBr⟩
                case measure => simp [intOf]; omega
      · have hq4' : ¬ ((q : Int) < 40) := by omega
        have E1 := cell_below A1 HBr.out
        go_wp2_with fail
        refine (HAG.out wr (HO3.out.below HBr.out)).mono ?_
        rintro e w9 ⟨ra9, rc9, rfl, -, hb9, -⟩
        have F1 := cell_below E1 hb9
        have F2 := fun o : Obj => cell_alloc F1 o
        have HB9 : Hid (∀ o : Obj, Below w.heap.size w (w9.alloc o)) := fun o => below_then (below_then (below_then HB3.out HBr.out) hb9) (below_new _ _)
        clear hb9 E1 F1
        go_wp2_with fail
        go_ret
        exact ⟨ret_bool (by simp), HB9.out _⟩
  · have hc1 : (C != 0) = true := by simp [hC]
    go_upto_region 6 with fail
    refine wp_region_E 999 (S := fun u => Below W3.heap.size W3 u) (by kernel_rfl) ((Below.refl _ _).drew) (fun hS => ?_)
    obtain ⟨u0, hu0⟩ : ∃ y, y = W3.drew := ⟨_, rfl⟩
    rw [← hu0] at hS ⊢
    clear hu0
    refine wpAnyE_takeD (L := 999) (i := 0) (v := .slice (some ⟨g, 0, none⟩) n c) (some 24) rfl rfl (by kernel_rfl) (by kernel_rfl) (by kernel_rfl) (by kernel_rfl) (fun _ _ _ h => h) (Or.inl ⟨by kernel_rfl, by intro u hSu; go_simp⟩) hS ?_
    try simp only [Act.put, List.setIfInBounds_toArray, List.set_cons_zero, List.set_cons_succ]
    refine wpAnyE_takeD (L := 999) (i := 1) (v := .int .i64 f) (some 25) rfl rfl (by kernel_rfl) (by kernel_rfl) (by kernel_rfl) (by kernel_rfl) (fun _ _ _ h => h) (Or.inl ⟨by kernel_rfl, by intro u hSu; go_simp⟩) hS ?_
    try simp only [Act.put, List.setIfInBounds_toArray, List.set_cons_zero, List.set_cons_succ]
    refine wpAnyE_takeD (L := 999) (i := 4) (v := .pointer (some ⟨B, 0, none⟩)) (some 28) rfl rfl (by kernel_rfl) (by kernel_rfl) (by kernel_rfl) (by kernel_rfl) (fun _ _ _ h => h) (Or.inl ⟨by kernel_rfl, by intro u hSu; go_simp⟩) hS ?_
    try simp only [Act.put, List.setIfInBounds_toArray, List.set_cons_zero, List.set_cons_succ]
    refine wpAnyE_takeD (L := 999) (i := 5) (v := .int .i64 C) (some 29) rfl rfl (by kernel_rfl) (by kernel_rfl) (by kernel_rfl) (by kernel_rfl) (fun _ _ _ h => h) (Or.inl ⟨by kernel_rfl, by intro u hSu; have h0 := cell_below A0 hSu; go_simp⟩) hS ?_
    try simp only [Act.put, List.setIfInBounds_toArray, List.set_cons_zero, List.set_cons_succ]
    refine wpAnyE_ready (rs := [2]) (by kernel_rfl) (by simp) ?_
    refine AllReadyE.cons rfl (fun K hK => ?_) AllReadyE.nil
    go_simp
    refine (HSPC.out _ (HV3.out.below hS)).mono ?_
    rintro e u1 ⟨sa, sc, rfl, hbu, -⟩
    refine hK.out _ _ (below_then hS hbu) (fun hS9 => ?_)
    try simp only [Act.put, List.setIfInBounds_toArray, List.set_cons_zero, List.set_cons_succ]
    clear hK K hS hbu
    have hS := hS9
    clear hS9
    refine wpAnyE_takeD (L := 999) (i := 3) (v := .int .i64 C) (some 27) rfl rfl (by kernel_rfl) (by kernel_rfl) (by kernel_rfl) (by kernel_rfl) (fun _ _ _ h => h) (Or.inl ⟨by kernel_rfl, by intro u hSu; have hf : (Instr.field 28 (.agg #[.int .i64 C, .slice sa M sc]) 0).run Try.prog u = .ok (.int .i64 C) u := (by kernel_rfl); go_simp⟩) hS ?_
    try simp only [Act.put, List.setIfInBounds_toArray, List.set_cons_zero, List.set_cons_succ]
    refine wpAnyE_takeD (L := 999) (i := 6) (v := .bool (C == C)) (some 30) rfl rfl (by kernel_rfl) (by kernel_rfl) (by kernel_rfl) (by kernel_rfl) (fun _ _ _ h => h) (Or.inl ⟨by kernel_rfl, by intro u hSu; go_simp⟩) hS ?_
    try simp only [Act.put, List.setIfInBounds_toArray, List.set_cons_zero, List.set_cons_succ]
    refine wpAnyE_takeD (L := 999) (i := 7) (v := .bool (C == C)) (some 2) rfl rfl (by kernel_rfl) (by kernel_rfl) (by kernel_rfl) (by kernel_rfl) (fun _ _ _ h => h) (Or.inl ⟨by kernel_rfl, by intro u hSu; go_simp⟩) hS ?_
    try simp only [Act.put, List.setIfInBounds_toArray, List.set_cons_zero, List.set_cons_succ]
    refine wpAnyE_done (by kernel_rfl) ?_ _
    go_simp
    go_wp2_with fail
    go_ret
    exact ⟨ret_bool (by simp), below_then HB3.out hS⟩
end Go.Proofs.Ytiabblmjgfkijaa
