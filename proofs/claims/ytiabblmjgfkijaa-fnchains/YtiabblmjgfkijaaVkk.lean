/- FnChains: the walk. -/
import Derived.Test.YtiabblmjgfkijaaVkb
import Derived.Test.YtiabblmjgfkijaaVkc
import Derived.Test.YtiabblmjgfkijaaVkd
import Derived.Test.YtiabblmjgfkijaaDvd
namespace Go.Proofs.Ytiabblmjgfkijaa
open Go.RowKit Go.Deep
set_option linter.unusedVariables false
set_option linter.unusedSimpArgs false
set_option maxRecDepth 20000

theorem lwBig_any (a : Option Addr) (k cap : Nat) (w : World) : Calls Try.prog 5 #[.slice a k cap] w fun e w' => e = .returned (.bool (decide ((1048576 : Int) < (k : Int)))) ∧ w' = w := by
  go_enter Try.func5, Try.ntmps5
  go_wp2
  go_ret
  exact ⟨rfl, rfl⟩
set_option maxHeartbeats 32000000 in
theorem fnChains_small (kk : Nat) (z : Nat → Int) (a : Option Addr) (cap : Nat) (w : World) (hbig : kk ≤ 1048576) (hz : Byt kk z) (HA0 : BytesAt w a kk z) :
    Calls Try.prog 4 #[.slice a kk cap] w fun e w' => e = .returned (.bool true) ∧ Below w.heap.size w w' := by
  have HD : Hid (Calls Try.prog 12 #[.slice a kk cap] w (DrawPvA w)) := drawPv_any a kk cap z w hbig hz HA0
  have hbg : decide ((1048576 : Int) < (kk : Int)) = false := by simp; omega
  clear hz HA0
  go_enter Try.func4, Try.ntmps4
  go_wp2_with (go_at_call 5; refine (lwBig_any _ _ _ _).mono ?_; rintro e w' ⟨rfl, hw⟩; have hw1 := hw.symm; clear hw; subst hw1; rw [hbg])
  refine Calls.mono HD.out ?_
  rintro e w1 ⟨g, n, c, R, x, o, gn, v, rfl, hn13, hnc, hv, hb1⟩
  have HB : Hid (Below w.heap.size w w1) := hb1
  have HV : Hid (VersAt w1 (some ⟨g, 0, none⟩) n R) := hv
  have HNC : Hid (n ≤ 13 ∧ n ≤ c) := ⟨hn13, hnc⟩
  clear hb1 hv HD hbg hnc hn13 hbig
  go_upto_region 4 with fail
  obtain ⟨W1, hW⟩ : ∃ y, y = w1.alloc (.cells #[.int .i64 x, .int .i64 o] 32) := ⟨_, rfl⟩
  have hb : Below w1.heap.size w1 W1 := by rw [hW]; exact below_new _ _
  replace HV : Hid (VersAt W1 (some ⟨g, 0, none⟩) n R) := HV.out.below hb
  replace HB : Hid (Below w.heap.size w W1) := below_then HB.out hb
  have D0 : W1.cell? ⟨w1.heap.size, 0, none⟩ = some (.int .i64 x) := by rw [hW]; simp [go_sem]
  have D1 : W1.cell? ⟨w1.heap.size, 1, none⟩ = some (.int .i64 o) := by rw [hW]; simp [go_sem]
  try rw [← hW]
  clear hW hb
  generalize w1.heap.size = V at *
  have hcall := implPvC_any n R (some ⟨g, 0, none⟩) c HNC.out.2 x o gn v W1 (by have := HNC.out.1; omega) HV.out
  by_cases hC : pvC n R x o gn v = 0
  · obtain ⟨m, Q, hP⟩ := pushed hC
    rw [hC, hP.hN] at hcall
    have HPD : Hid (Pushed n R x o gn v m Q) := hP
    obtain ⟨Sx, hSx⟩ : ∃ y, y = pvS n R o gn v := ⟨_, rfl⟩
    have HSX : Hid (pvS n R o gn v = Sx) := hSx.symm
    rw [← hSx] at hcall
    have HM : Hid (m + 1 ≤ 12) := hP.h12
    have hxb := hP.xb
    have hob := hP.ob
    have HCALL : Hid (Calls Try.prog 13 #[.slice (some ⟨g, 0, none⟩) n c, .agg #[.int .i64 x, .int .i64 o], .bool gn, .int .i64 v] W1 (CResC 0 (m + 1) Sx W1)) := hcall
    clear hcall hC hP hSx
    go_wp2_with fail
    refine Calls.mono HCALL.out ?_
    rintro e w2 ⟨ra, rc, rfl, hsh, hb, ho⟩
    have HRC : Hid (m + 1 ≤ rc) := hsh.1
    have HO : Hid (VersAt w2 ra (m + 1) Sx) := ho.at
    replace D0 := cell_below D0 hb
    replace D1 := cell_below D1 hb
    replace HV : Hid (VersAt w2 (some ⟨g, 0, none⟩) n R) := HV.out.below hb
    replace HB : Hid (Below w.heap.size w w2) := below_then HB.out hb
    clear hsh ho hb HCALL
    go_upto_region 5 with fail
    obtain ⟨W3, hW⟩ : ∃ y, y = w2.alloc (.cells #[.int .i64 0, .slice ra (m + 1) rc] 28) := ⟨_, rfl⟩
    have hb : Below w2.heap.size w2 W3 := by rw [hW]; exact below_new _ _
    replace D0 := cell_below D0 hb
    replace D1 := cell_below D1 hb
    replace HV : Hid (VersAt W3 (some ⟨g, 0, none⟩) n R) := HV.out.below hb
    replace HO : Hid (VersAt W3 ra (m + 1) Sx) := HO.out.below hb
    replace HB : Hid (Below w.heap.size w W3) := below_then HB.out hb
    have A0 : W3.cell? ⟨w2.heap.size, 0, none⟩ = some (.int .i64 0) := by rw [hW]; simp [go_sem]
    have A1 : W3.cell? ⟨w2.heap.size, 1, none⟩ = some (.slice ra (m + 1) rc) := by rw [hW]; simp [go_sem]
    try rw [← hW]
    clear hW hb
    generalize w2.heap.size = B at *
    obtain ⟨k9, hk9, hre1, hre2⟩ : ∃ k9 : Int, (0 ≤ k9 ∧ k9 < 900 ∧ k9 + 1 ≠ o) ∧ o.tmod 900 = k9 ∧ o % 900 = k9 := ⟨o % 900, by omega, Int.tmod_eq_emod_of_nonneg (by omega), rfl⟩
    have HO2 : Hid (1 ≤ k9 + 1 ∧ k9 + 1 ≤ 900 ∧ k9 + 1 ≠ o) := ⟨by omega, by omega, hk9.2.2⟩
    have hwk : IntKind.i64.wrap k9 = k9 := by rw [IntKind.wrap_i64]; omega
    have hwk1 : IntKind.i64.wrap (k9 + 1) = k9 + 1 := by rw [IntKind.wrap_i64]; omega
    have hwx : IntKind.i64.wrap (x + 1) = x + 1 := by rw [IntKind.wrap_i64]; omega
    have HK2 : Hid (∀ u, VersAt u ra (m + 1) Sx → Calls Try.prog 15 #[.slice ra (m + 1) rc] u fun e w' => ∃ wc, e = .returned (.agg #[.int .i64 wc, .int .i64 o]) ∧ Below u.heap.size u w') := fun u h => by
      have h9 := implWo_any (m + 1) Sx ra rc u (by have := HM.out; omega) h
      have h8 := HPD.out.writer
      rw [HSX.out] at h8
      rw [h8] at h9
      exact Calls.mono h9 fun e w' ⟨h1, h2⟩ => ⟨_, h1, h2⟩
    have HK3 : Hid (∀ u, VersAt u ra (m + 1) Sx → Calls Try.prog 9 #[.slice ra (m + 1) rc] u fun e w' => e = .returned (.int .i64 0) ∧ Below u.heap.size u w') := fun u h => by
      have h9 := implChF_any (m + 1) Sx ra rc u (by have := HM.out; omega) h
      have h8 := HPD.out.fault
      rw [HSX.out] at h8
      rw [h8] at h9
      exact h9
    have HK8 : Hid (∀ u, VersAt u ra (m + 1) Sx → Calls Try.prog 18 #[.slice ra (m + 1) rc, .int .i64 o] u (CRes 0 m (fun i => Sx (i + 1)) u)) := fun u h => by
      have h9 := implRoC_any (m + 1) Sx ra rc HRC.out o u (by have := HM.out; omega) h
      have h8 := HPD.out.roll
      rw [HSX.out] at h8
      rw [h8.1, h8.2] at h9
      exact h9
    have HOT : Hid (∀ o2, 1 ≤ o2 → o2 ≤ 900 → o2 ≠ o → ∃ c2 v2, Hid (seC n R x o2 = c2 ∧ seV n R x o2 = v2) ∧ Hid (∀ u, VersAt u ra (m + 1) Sx → Calls Try.prog 11 #[.slice ra (m + 1) rc, .agg #[.int .i64 x, .int .i64 o2]] u fun e w' => e = .returned (.int .i64 9) ∧ Below u.heap.size u w') ∧ Hid (∀ u, VersAt u ra (m + 1) Sx → Calls Try.prog 10 #[.slice ra (m + 1) rc, .agg #[.int .i64 x, .int .i64 o2]] u fun e w' => e = .returned (.agg #[.int .i64 c2, .int .i64 v2]) ∧ Below u.heap.size u w') ∧ Hid (∀ u, VersAt u (some ⟨g, 0, none⟩) n R → Calls Try.prog 10 #[.slice (some ⟨g, 0, none⟩) n c, .agg #[.int .i64 x, .int .i64 o2]] u fun e w' => e = .returned (.agg #[.int .i64 c2, .int .i64 v2]) ∧ Below u.heap.size u w') ∧ Hid (∀ (ba : Option Addr) (bc : Nat), Hid (∀ u, VersAt u ba m (fun i => Sx (i + 1)) → Calls Try.prog 10 #[.slice ba m bc, .agg #[.int .i64 x, .int .i64 o2]] u fun e w' => e = .returned (.agg #[.int .i64 c2, .int .i64 v2]) ∧ Below u.heap.size u w'))) := fun o2 h1 h2 h3 => by
      have e1 := HPD.out.may (o2 := o2) h1 (by omega) h3
      have e2 := HPD.out.other h3
      have e3 := HPD.out.same o2 h3
      have e4 := HPD.out.s1
      rw [HSX.out] at e1 e2 e4
      have hm := HM.out
      have hn := HNC.out
      refine ⟨seC n R x o2, seV n R x o2, ⟨rfl, rfl⟩, fun u h => ?_, fun u h => ?_, fun u h => implSe_any n R _ c x o2 u (by omega) h, fun ba bc u h => ?_⟩
      · have h9 := implMw_any (m + 1) Sx ra rc x o2 u (by omega) h
        rw [e1] at h9
        exact h9
      · have h9 := implSe_any (m + 1) Sx ra rc x o2 u (by omega) h
        rw [e2.1, e2.2] at h9
        exact h9
      · have h9 := implSe_any m (fun i => Sx (i + 1)) ba bc x o2 u (by omega) h
        rw [e4, ← e3.1, ← e3.2] at h9
        exact h9
    clear hob hxb
    cases gn with
    | true =>
      have HK1 : Hid (∀ u, VersAt u ra (m + 1) Sx → Calls Try.prog 10 #[.slice ra (m + 1) rc, .agg #[.int .i64 x, .int .i64 o]] u fun e w' => e = .returned (.agg #[.int .i64 4, .int .i64 0]) ∧ Below u.heap.size u w') := fun u h => by
        have h9 := implSe_any (m + 1) Sx ra rc x o u (by have := HM.out; omega) h
        have h8 := HPD.out.own
        rw [HSX.out] at h8
        rw [h8.1, h8.2] at h9
        exact h9
      go_wp2_with fail
      refine (HK1.out _ HO.out).mono ?_
      rintro e w4 ⟨rfl, hb⟩
      replace D0 := cell_below D0 hb
      replace D1 := cell_below D1 hb
      replace A0 := cell_below A0 hb
      replace A1 := cell_below A1 hb
      replace HV : Hid (VersAt w4 (some ⟨g, 0, none⟩) n R) := HV.out.below hb
      replace HO : Hid (VersAt w4 ra (m + 1) Sx) := HO.out.below hb
      replace HB : Hid (Below w.heap.size w w4) := below_then HB.out hb
      clear hb
      go_upto_region 8 with fail
      obtain ⟨W4, hW⟩ : ∃ y, y = w4.alloc (.cells #[.int .i64 4, .int .i64 0] 34) := ⟨_, rfl⟩
      have hb : Below w4.heap.size w4 W4 := by rw [hW]; exact below_new _ _
      replace D0 := cell_below D0 hb
      replace D1 := cell_below D1 hb
      replace A0 := cell_below A0 hb
      replace A1 := cell_below A1 hb
      replace HV : Hid (VersAt W4 (some ⟨g, 0, none⟩) n R) := HV.out.below hb
      replace HO : Hid (VersAt W4 ra (m + 1) Sx) := HO.out.below hb
      replace HB : Hid (Below w.heap.size w W4) := below_then HB.out hb
      have E0 : W4.cell? ⟨w4.heap.size, 0, none⟩ = some (.int .i64 4) := by rw [hW]; simp [go_sem]
      have E1 : W4.cell? ⟨w4.heap.size, 1, none⟩ = some (.int .i64 0) := by rw [hW]; simp [go_sem]
      try rw [← hW]
      clear hW hb
      generalize w4.heap.size = B8 at *
      go_wp2_with fail
      refine (HK2.out _ HO.out).mono ?_
      rintro e w5 ⟨wc, rfl, hb⟩
      replace D0 := cell_below D0 hb
      replace D1 := cell_below D1 hb
      replace A0 := cell_below A0 hb
      replace A1 := cell_below A1 hb
      replace E0 := cell_below E0 hb
      replace E1 := cell_below E1 hb
      replace HV : Hid (VersAt w5 (some ⟨g, 0, none⟩) n R) := HV.out.below hb
      replace HO : Hid (VersAt w5 ra (m + 1) Sx) := HO.out.below hb
      replace HB : Hid (Below w.heap.size w w5) := below_then HB.out hb
      clear hb
      go_upto_region 9 with fail
      obtain ⟨W5, hW⟩ : ∃ y, y = w5.alloc (.cells #[.int .i64 wc, .int .i64 o] 34) := ⟨_, rfl⟩
      have hb : Below w5.heap.size w5 W5 := by rw [hW]; exact below_new _ _
      replace D0 := cell_below D0 hb
      replace D1 := cell_below D1 hb
      replace A0 := cell_below A0 hb
      replace A1 := cell_below A1 hb
      replace E0 := cell_below E0 hb
      replace E1 := cell_below E1 hb
      replace HV : Hid (VersAt W5 (some ⟨g, 0, none⟩) n R) := HV.out.below hb
      replace HO : Hid (VersAt W5 ra (m + 1) Sx) := HO.out.below hb
      replace HB : Hid (Below w.heap.size w W5) := below_then HB.out hb
      have G1 : W5.cell? ⟨w5.heap.size, 1, none⟩ = some (.int .i64 o) := by rw [hW]; simp [go_sem]
      try rw [← hW]
      clear hW hb
      generalize w5.heap.size = B9 at *
      go_upto_region 10 with fail
      generalize k9 + 1 = o2 at *
      obtain ⟨W6, hW⟩ : ∃ y, y = W5.alloc (.cells #[.int .i64 x, .int .i64 o2] 32) := ⟨_, rfl⟩
      have hb : Below W5.heap.size W5 W6 := by rw [hW]; exact below_new _ _
      replace D0 := cell_below D0 hb
      replace D1 := cell_below D1 hb
      replace A0 := cell_below A0 hb
      replace A1 := cell_below A1 hb
      replace E0 := cell_below E0 hb
      replace E1 := cell_below E1 hb
      replace G1 := cell_below G1 hb
      replace HV : Hid (VersAt W6 (some ⟨g, 0, none⟩) n R) := HV.out.below hb
      replace HO : Hid (VersAt W6 ra (m + 1) Sx) := HO.out.below hb
      replace HB : Hid (Below w.heap.size w W6) := below_then HB.out hb
      have J0 : W6.cell? ⟨W5.heap.size, 0, none⟩ = some (.int .i64 x) := by rw [hW]; simp [go_sem]
      have J1 : W6.cell? ⟨W5.heap.size, 1, none⟩ = some (.int .i64 o2) := by rw [hW]; simp [go_sem]
      try rw [← hW]
      clear hW hb
      generalize W5.heap.size = B10 at *
      obtain ⟨c2, v2, HCV, HK4, HK5, HK6, HK10⟩ := HOT.out o2 HO2.out.1 HO2.out.2.1 HO2.out.2.2
      clear hre1 hre2 hwk hwk1 hk9
      refine wp_region_E 999 (S := fun u => Below W6.heap.size W6 u) (by kernel_rfl) ((Below.refl _ _).drew) (fun hS => ?_)
      obtain ⟨u0, hu0⟩ : ∃ y, y = W6.drew := ⟨_, rfl⟩
      rw [← hu0] at hS ⊢
      clear hu0
      refine wpAnyE_takeD (L := 999) (i := 0) (v := .pointer (some ⟨B, 1, none⟩)) (some 55) rfl rfl (by kernel_rfl) (by kernel_rfl) (by kernel_rfl) (by kernel_rfl) (fun _ _ _ h => h) (Or.inl ⟨by kernel_rfl, by intro u hSu; go_simp⟩) hS ?_
      try simp only [Act.put, List.setIfInBounds_toArray, List.set_cons_zero, List.set_cons_succ]
      refine wpAnyE_takeD (L := 999) (i := 1) (v := .slice ra (m + 1) rc) (some 56) rfl rfl (by kernel_rfl) (by kernel_rfl) (by kernel_rfl) (by kernel_rfl) (fun _ _ _ h => h) (Or.inl ⟨by kernel_rfl, by intro u hSu; have h0 := cell_below A1 hSu; go_simp⟩) hS ?_
      try simp only [Act.put, List.setIfInBounds_toArray, List.set_cons_zero, List.set_cons_succ]
      refine wpAnyE_ready (rs := [2]) (by kernel_rfl) (by simp) ?_
      refine AllReadyE.cons rfl (fun K hK => ?_) AllReadyE.nil
      go_simp
      refine (HK3.out _ (HO.out.below hS)).mono ?_
      rintro e u1 ⟨rfl, hbu⟩
      refine hK.out _ _ (below_then hS hbu) (fun hS9 => ?_)
      try simp only [Act.put, List.setIfInBounds_toArray, List.set_cons_zero, List.set_cons_succ]
      clear hK K hS hbu
      have hS := hS9
      clear hS9
      refine wpAnyE_takeD (L := 999) (i := 3) (v := .bool false) (some 58) rfl rfl (by kernel_rfl) (by kernel_rfl) (by kernel_rfl) (by kernel_rfl) (fun _ _ _ h => h) (Or.inl ⟨by kernel_rfl, by intro u hSu; go_simp⟩) hS ?_
      try simp only [Act.put, List.setIfInBounds_toArray, List.set_cons_zero, List.set_cons_succ]
      refine wpAnyE_takeD (L := 999) (i := 4) (v := .bool false) (some 59) rfl rfl (by kernel_rfl) (by kernel_rfl) (by kernel_rfl) (by kernel_rfl) (fun _ _ _ h => h) (Or.inl ⟨by kernel_rfl, by intro u hSu; go_simp⟩) hS ?_
      try simp only [Act.put, List.setIfInBounds_toArray, List.set_cons_zero, List.set_cons_succ]
      refine wpAnyE_takeD (L := 999) (i := 5) (v := .bool true) (some 60) rfl rfl (by kernel_rfl) (by kernel_rfl) (by kernel_rfl) (by kernel_rfl) (fun _ _ _ h => h) (Or.inl ⟨by kernel_rfl, by intro u hSu; go_simp⟩) hS ?_
      try simp only [Act.put, List.setIfInBounds_toArray, List.set_cons_zero, List.set_cons_succ]
      refine wpAnyE_takeD (L := 999) (i := 6) (v := .pointer (some ⟨B8, 0, none⟩)) (some 61) rfl rfl (by kernel_rfl) (by kernel_rfl) (by kernel_rfl) (by kernel_rfl) (fun _ _ _ h => h) (Or.inl ⟨by kernel_rfl, by intro u hSu; go_simp⟩) hS ?_
      try simp only [Act.put, List.setIfInBounds_toArray, List.set_cons_zero, List.set_cons_succ]
      refine wpAnyE_takeD (L := 999) (i := 7) (v := .int .i64 4) (some 62) rfl rfl (by kernel_rfl) (by kernel_rfl) (by kernel_rfl) (by kernel_rfl) (fun _ _ _ h => h) (Or.inl ⟨by kernel_rfl, by intro u hSu; have h0 := cell_below E0 hSu; go_simp⟩) hS ?_
      try simp only [Act.put, List.setIfInBounds_toArray, List.set_cons_zero, List.set_cons_succ]
      refine wpAnyE_takeD (L := 999) (i := 8) (v := .bool true) (some 63) rfl rfl (by kernel_rfl) (by kernel_rfl) (by kernel_rfl) (by kernel_rfl) (fun _ _ _ h => h) (Or.inl ⟨by kernel_rfl, by intro u hSu; go_simp⟩) hS ?_
      try simp only [Act.put, List.setIfInBounds_toArray, List.set_cons_zero, List.set_cons_succ]
      refine wpAnyE_takeD (L := 999) (i := 9) (v := .bool false) (some 64) rfl rfl (by kernel_rfl) (by kernel_rfl) (by kernel_rfl) (by kernel_rfl) (fun _ _ _ h => h) (Or.inl ⟨by kernel_rfl, by intro u hSu; go_simp⟩) hS ?_
      try simp only [Act.put, List.setIfInBounds_toArray, List.set_cons_zero, List.set_cons_succ]
      refine wpAnyE_takeD (L := 999) (i := 10) (v := .bool false) (some 65) rfl rfl (by kernel_rfl) (by kernel_rfl) (by kernel_rfl) (by kernel_rfl) (fun _ _ _ h => h) (Or.inl ⟨by kernel_rfl, by intro u hSu; go_simp⟩) hS ?_
      try simp only [Act.put, List.setIfInBounds_toArray, List.set_cons_zero, List.set_cons_succ]
      refine wpAnyE_takeD (L := 999) (i := 11) (v := .bool false) (some 66) rfl rfl (by kernel_rfl) (by kernel_rfl) (by kernel_rfl) (by kernel_rfl) (fun _ _ _ h => h) (Or.inl ⟨by kernel_rfl, by intro u hSu; go_simp⟩) hS ?_
      try simp only [Act.put, List.setIfInBounds_toArray, List.set_cons_zero, List.set_cons_succ]
      refine wpAnyE_takeD (L := 999) (i := 12) (v := .bool true) (some 67) rfl rfl (by kernel_rfl) (by kernel_rfl) (by kernel_rfl) (by kernel_rfl) (fun _ _ _ h => h) (Or.inl ⟨by kernel_rfl, by intro u hSu; go_simp⟩) hS ?_
      try simp only [Act.put, List.setIfInBounds_toArray, List.set_cons_zero, List.set_cons_succ]
      refine wpAnyE_takeD (L := 999) (i := 13) (v := .bool false) (some 68) rfl rfl (by kernel_rfl) (by kernel_rfl) (by kernel_rfl) (by kernel_rfl) (fun _ _ _ h => h) (Or.inl ⟨by kernel_rfl, by intro u hSu; go_simp⟩) hS ?_
      try simp only [Act.put, List.setIfInBounds_toArray, List.set_cons_zero, List.set_cons_succ]
      refine wpAnyE_takeD (L := 999) (i := 14) (v := .bool false) (some 69) rfl rfl (by kernel_rfl) (by kernel_rfl) (by kernel_rfl) (by kernel_rfl) (fun _ _ _ h => h) (Or.inl ⟨by kernel_rfl, by intro u hSu; go_simp⟩) hS ?_
      try simp only [Act.put, List.setIfInBounds_toArray, List.set_cons_zero, List.set_cons_succ]
      refine wpAnyE_takeD (L := 999) (i := 15) (v := undef) (some 70) rfl rfl (by kernel_rfl) (by kernel_rfl) (by kernel_rfl) (by kernel_rfl) (fun _ _ _ h => h) (Or.inr ⟨by kernel_rfl, rfl⟩) hS ?_
      try simp only [Act.put, List.setIfInBounds_toArray, List.set_cons_zero, List.set_cons_succ]
      refine wpAnyE_takeD (L := 999) (i := 16) (v := undef) (some 71) rfl rfl (by kernel_rfl) (by kernel_rfl) (by kernel_rfl) (by kernel_rfl) (fun _ _ _ h => h) (Or.inr ⟨by kernel_rfl, rfl⟩) hS ?_
      try simp only [Act.put, List.setIfInBounds_toArray, List.set_cons_zero, List.set_cons_succ]
      refine wpAnyE_takeD (L := 999) (i := 17) (v := undef) (some 72) rfl rfl (by kernel_rfl) (by kernel_rfl) (by kernel_rfl) (by kernel_rfl) (fun _ _ _ h => h) (Or.inr ⟨by kernel_rfl, rfl⟩) hS ?_
      try simp only [Act.put, List.setIfInBounds_toArray, List.set_cons_zero, List.set_cons_succ]
      refine wpAnyE_takeD (L := 999) (i := 18) (v := undef) (some 73) rfl rfl (by kernel_rfl) (by kernel_rfl) (by kernel_rfl) (by kernel_rfl) (fun _ _ _ h => h) (Or.inr ⟨by kernel_rfl, rfl⟩) hS ?_
      try simp only [Act.put, List.setIfInBounds_toArray, List.set_cons_zero, List.set_cons_succ]
      refine wpAnyE_takeD (L := 999) (i := 19) (v := .bool false) (some 74) rfl rfl (by kernel_rfl) (by kernel_rfl) (by kernel_rfl) (by kernel_rfl) (fun _ _ _ h => h) (Or.inl ⟨by kernel_rfl, by intro u hSu; go_simp⟩) hS ?_
      try simp only [Act.put, List.setIfInBounds_toArray, List.set_cons_zero, List.set_cons_succ]
      refine wpAnyE_takeD (L := 999) (i := 20) (v := .bool false) (some 75) rfl rfl (by kernel_rfl) (by kernel_rfl) (by kernel_rfl) (by kernel_rfl) (fun _ _ _ h => h) (Or.inl ⟨by kernel_rfl, by intro u hSu; go_simp⟩) hS ?_
      try simp only [Act.put, List.setIfInBounds_toArray, List.set_cons_zero, List.set_cons_succ]
      refine wpAnyE_takeD (L := 999) (i := 21) (v := .bool false) (some 76) rfl rfl (by kernel_rfl) (by kernel_rfl) (by kernel_rfl) (by kernel_rfl) (fun _ _ _ h => h) (Or.inl ⟨by kernel_rfl, by intro u hSu; go_simp⟩) hS ?_
      try simp only [Act.put, List.setIfInBounds_toArray, List.set_cons_zero, List.set_cons_succ]
      refine wpAnyE_takeD (L := 999) (i := 22) (v := .pointer (some ⟨B9, 1, none⟩)) (some 77) rfl rfl (by kernel_rfl) (by kernel_rfl) (by kernel_rfl) (by kernel_rfl) (fun _ _ _ h => h) (Or.inl ⟨by kernel_rfl, by intro u hSu; go_simp⟩) hS ?_
      try simp only [Act.put, List.setIfInBounds_toArray, List.set_cons_zero, List.set_cons_succ]
      refine wpAnyE_takeD (L := 999) (i := 23) (v := .int .i64 o) (some 78) rfl rfl (by kernel_rfl) (by kernel_rfl) (by kernel_rfl) (by kernel_rfl) (fun _ _ _ h => h) (Or.inl ⟨by kernel_rfl, by intro u hSu; have h0 := cell_below G1 hSu; go_simp⟩) hS ?_
      try simp only [Act.put, List.setIfInBounds_toArray, List.set_cons_zero, List.set_cons_succ]
      refine wpAnyE_takeD (L := 999) (i := 24) (v := .pointer (some ⟨V, 1, none⟩)) (some 79) rfl rfl (by kernel_rfl) (by kernel_rfl) (by kernel_rfl) (by kernel_rfl) (fun _ _ _ h => h) (Or.inl ⟨by kernel_rfl, by intro u hSu; go_simp⟩) hS ?_
      try simp only [Act.put, List.setIfInBounds_toArray, List.set_cons_zero, List.set_cons_succ]
      refine wpAnyE_takeD (L := 999) (i := 25) (v := .int .i64 o) (some 80) rfl rfl (by kernel_rfl) (by kernel_rfl) (by kernel_rfl) (by kernel_rfl) (fun _ _ _ h => h) (Or.inl ⟨by kernel_rfl, by intro u hSu; have h0 := cell_below D1 hSu; go_simp⟩) hS ?_
      try simp only [Act.put, List.setIfInBounds_toArray, List.set_cons_zero, List.set_cons_succ]
      refine wpAnyE_takeD (L := 999) (i := 26) (v := .bool false) (some 81) rfl rfl (by kernel_rfl) (by kernel_rfl) (by kernel_rfl) (by kernel_rfl) (fun _ _ _ h => h) (Or.inl ⟨by kernel_rfl, by intro u hSu; go_simp⟩) hS ?_
      try simp only [Act.put, List.setIfInBounds_toArray, List.set_cons_zero, List.set_cons_succ]
      refine wpAnyE_takeD (L := 999) (i := 27) (v := .bool false) (some 82) rfl rfl (by kernel_rfl) (by kernel_rfl) (by kernel_rfl) (by kernel_rfl) (fun _ _ _ h => h) (Or.inl ⟨by kernel_rfl, by intro u hSu; go_simp⟩) hS ?_
      try simp only [Act.put, List.setIfInBounds_toArray, List.set_cons_zero, List.set_cons_succ]
      refine wpAnyE_takeD (L := 999) (i := 28) (v := .bool false) (some 83) rfl rfl (by kernel_rfl) (by kernel_rfl) (by kernel_rfl) (by kernel_rfl) (fun _ _ _ h => h) (Or.inl ⟨by kernel_rfl, by intro u hSu; go_simp⟩) hS ?_
      try simp only [Act.put, List.setIfInBounds_toArray, List.set_cons_zero, List.set_cons_succ]
      refine wpAnyE_takeD (L := 999) (i := 29) (v := .pointer (some ⟨B, 1, none⟩)) (some 84) rfl rfl (by kernel_rfl) (by kernel_rfl) (by kernel_rfl) (by kernel_rfl) (fun _ _ _ h => h) (Or.inl ⟨by kernel_rfl, by intro u hSu; go_simp⟩) hS ?_
      try simp only [Act.put, List.setIfInBounds_toArray, List.set_cons_zero, List.set_cons_succ]
      refine wpAnyE_takeD (L := 999) (i := 30) (v := .slice ra (m + 1) rc) (some 85) rfl rfl (by kernel_rfl) (by kernel_rfl) (by kernel_rfl) (by kernel_rfl) (fun _ _ _ h => h) (Or.inl ⟨by kernel_rfl, by intro u hSu; have h0 := cell_below A1 hSu; go_simp⟩) hS ?_
      try simp only [Act.put, List.setIfInBounds_toArray, List.set_cons_zero, List.set_cons_succ]
      refine wpAnyE_takeD (L := 999) (i := 31) (v := .agg #[.int .i64 x, .int .i64 o2]) (some 86) rfl rfl (by kernel_rfl) (by kernel_rfl) (by kernel_rfl) (by kernel_rfl) (fun _ _ _ h => h) (Or.inl ⟨by kernel_rfl, by intro u hSu; have h0 := cell_below J0 hSu; have h1 := cell_below J1 hSu; go_simp⟩) hS ?_
      try simp only [Act.put, List.setIfInBounds_toArray, List.set_cons_zero, List.set_cons_succ]
      refine wpAnyE_ready (rs := [32]) (by kernel_rfl) (by simp) ?_
      refine AllReadyE.cons rfl (fun K hK => ?_) AllReadyE.nil
      rw [if_pos (by kernel_rfl)]
      go_simp
      refine (HK4.out _ (HO.out.below hS)).mono ?_
      rintro e u1 ⟨rfl, hbu⟩
      refine hK.out _ _ (below_then hS hbu) (fun hS9 => ?_)
      try simp only [Act.put, List.setIfInBounds_toArray, List.set_cons_zero, List.set_cons_succ]
      clear hK K hS hbu
      have hS := hS9
      clear hS9
      refine wpAnyE_takeD (L := 999) (i := 33) (v := .bool false) (some 88) rfl rfl (by kernel_rfl) (by kernel_rfl) (by kernel_rfl) (by kernel_rfl) (fun _ _ _ h => h) (Or.inl ⟨by kernel_rfl, by intro u hSu; go_simp⟩) hS ?_
      try simp only [Act.put, List.setIfInBounds_toArray, List.set_cons_zero, List.set_cons_succ]
      refine wpAnyE_takeD (L := 999) (i := 34) (v := .bool false) (some 89) rfl rfl (by kernel_rfl) (by kernel_rfl) (by kernel_rfl) (by kernel_rfl) (fun _ _ _ h => h) (Or.inl ⟨by kernel_rfl, by intro u hSu; go_simp⟩) hS ?_
      try simp only [Act.put, List.setIfInBounds_toArray, List.set_cons_zero, List.set_cons_succ]
      refine wpAnyE_takeD (L := 999) (i := 35) (v := .bool false) (some 90) rfl rfl (by kernel_rfl) (by kernel_rfl) (by kernel_rfl) (by kernel_rfl) (fun _ _ _ h => h) (Or.inl ⟨by kernel_rfl, by intro u hSu; go_simp⟩) hS ?_
      try simp only [Act.put, List.setIfInBounds_toArray, List.set_cons_zero, List.set_cons_succ]
      refine wpAnyE_takeD (L := 999) (i := 36) (v := .pointer (some ⟨B, 1, none⟩)) (some 91) rfl rfl (by kernel_rfl) (by kernel_rfl) (by kernel_rfl) (by kernel_rfl) (fun _ _ _ h => h) (Or.inl ⟨by kernel_rfl, by intro u hSu; go_simp⟩) hS ?_
      try simp only [Act.put, List.setIfInBounds_toArray, List.set_cons_zero, List.set_cons_succ]
      refine wpAnyE_takeD (L := 999) (i := 37) (v := .slice ra (m + 1) rc) (some 92) rfl rfl (by kernel_rfl) (by kernel_rfl) (by kernel_rfl) (by kernel_rfl) (fun _ _ _ h => h) (Or.inl ⟨by kernel_rfl, by intro u hSu; have h0 := cell_below A1 hSu; go_simp⟩) hS ?_
      try simp only [Act.put, List.setIfInBounds_toArray, List.set_cons_zero, List.set_cons_succ]
      refine wpAnyE_takeD (L := 999) (i := 38) (v := .agg #[.int .i64 x, .int .i64 o2]) (some 93) rfl rfl (by kernel_rfl) (by kernel_rfl) (by kernel_rfl) (by kernel_rfl) (fun _ _ _ h => h) (Or.inl ⟨by kernel_rfl, by intro u hSu; have h0 := cell_below J0 hSu; have h1 := cell_below J1 hSu; go_simp⟩) hS ?_
      try simp only [Act.put, List.setIfInBounds_toArray, List.set_cons_zero, List.set_cons_succ]
      refine wpAnyE_takeD (L := 999) (i := 40) (v := .slice (some ⟨g, 0, none⟩) n c) (some 95) rfl rfl (by kernel_rfl) (by kernel_rfl) (by kernel_rfl) (by kernel_rfl) (fun _ _ _ h => h) (Or.inl ⟨by kernel_rfl, by intro u hSu; go_simp⟩) hS ?_
      try simp only [Act.put, List.setIfInBounds_toArray, List.set_cons_zero, List.set_cons_succ]
      refine wpAnyE_takeD (L := 999) (i := 41) (v := .agg #[.int .i64 x, .int .i64 o2]) (some 96) rfl rfl (by kernel_rfl) (by kernel_rfl) (by kernel_rfl) (by kernel_rfl) (fun _ _ _ h => h) (Or.inl ⟨by kernel_rfl, by intro u hSu; have h0 := cell_below J0 hSu; have h1 := cell_below J1 hSu; go_simp⟩) hS ?_
      try simp only [Act.put, List.setIfInBounds_toArray, List.set_cons_zero, List.set_cons_succ]
      refine wpAnyE_ready (rs := [39]) (by kernel_rfl) (by simp) ?_
      refine AllReadyE.cons rfl (fun K hK => ?_) AllReadyE.nil
      rw [if_pos (by kernel_rfl)]
      go_simp
      refine (HK5.out _ (HO.out.below hS)).mono ?_
      rintro e u1 ⟨rfl, hbu⟩
      refine hK.out _ _ (below_then hS hbu) (fun hS9 => ?_)
      try simp only [Act.put, List.setIfInBounds_toArray, List.set_cons_zero, List.set_cons_succ]
      clear hK K hS hbu
      have hS := hS9
      clear hS9
      refine wpAnyE_ready (rs := [42]) (by kernel_rfl) (by simp) ?_
      refine AllReadyE.cons rfl (fun K hK => ?_) AllReadyE.nil
      rw [if_pos (by kernel_rfl)]
      go_simp
      refine (HK6.out _ (HV.out.below hS)).mono ?_
      rintro e u1 ⟨rfl, hbu⟩
      refine hK.out _ _ (below_then hS hbu) (fun hS9 => ?_)
      try simp only [Act.put, List.setIfInBounds_toArray, List.set_cons_zero, List.set_cons_succ]
      clear hK K hS hbu
      have hS := hS9
      clear hS9
      refine wpAnyE_takeD (L := 999) (i := 43) (v := .bool false) (some 98) rfl rfl (by kernel_rfl) (by kernel_rfl) (by kernel_rfl) (by kernel_rfl) (fun _ _ _ h => h) (Or.inl ⟨by kernel_rfl, by intro u hSu; go_simp⟩) hS ?_
      try simp only [Act.put, List.setIfInBounds_toArray, List.set_cons_zero, List.set_cons_succ]
      refine wpAnyE_takeD (L := 999) (i := 44) (v := .bool false) (some 99) rfl rfl (by kernel_rfl) (by kernel_rfl) (by kernel_rfl) (by kernel_rfl) (fun _ _ _ h => h) (Or.inl ⟨by kernel_rfl, by intro u hSu; go_simp⟩) hS ?_
      try simp only [Act.put, List.setIfInBounds_toArray, List.set_cons_zero, List.set_cons_succ]
      refine wpAnyE_done (by kernel_rfl) ?_ _
      go_simp
      replace D0 := cell_below D0 hS
      replace D1 := cell_below D1 hS
      replace A0 := cell_below A0 hS
      replace A1 := cell_below A1 hS
      replace E0 := cell_below E0 hS
      replace E1 := cell_below E1 hS
      replace G1 := cell_below G1 hS
      replace J0 := cell_below J0 hS
      replace J1 := cell_below J1 hS
      replace HV : Hid (VersAt u1 (some ⟨g, 0, none⟩) n R) := HV.out.below hS
      replace HO : Hid (VersAt u1 ra (m + 1) Sx) := HO.out.below hS
      replace HB : Hid (Below w.heap.size w u1) := below_then HB.out hS
      clear hS
      go_upto_region 13 with fail
      have hcm := implCoC_any (m + 1) Sx ra rc HRC.out o (x + 1) u1 (by have := HM.out; omega) HO.out
      by_cases hCC : coC (m + 1) Sx o (x + 1) = 0
      · have hcom : Committed n R x o true v m := HPD.out.commit (by rw [HSX.out]; exact hCC)
        have hCN := hcom.hN
        rw [HSX.out] at hCN
        rw [hCC, hCN] at hcm
        have HK9 : Hid (∀ (ca : Option Addr) (tc : Nat), Hid (∀ u, VersAt u ca (m + 1) (coS Sx (x + 1)) → Calls Try.prog 10 #[.slice ca (m + 1) tc, .agg #[.int .i64 (x + 1), .int .i64 o2]] u fun e w' => e = .returned (.agg #[.int .i64 4, .int .i64 0]) ∧ Below u.heap.size u w') ∧ Hid (∀ u, VersAt u ca (m + 1) (coS Sx (x + 1)) → Calls Try.prog 10 #[.slice ca (m + 1) tc, .agg #[.int .i64 x, .int .i64 o2]] u fun e w' => e = .returned (.agg #[.int .i64 c2, .int .i64 v2]) ∧ Below u.heap.size u w') ∧ Hid (∀ u, VersAt u ca (m + 1) (coS Sx (x + 1)) → Calls Try.prog 11 #[.slice ca (m + 1) tc, .agg #[.int .i64 x, .int .i64 o2]] u fun e w' => e = .returned (.int .i64 9) ∧ Below u.heap.size u w') ∧ Hid (∀ u, VersAt u ca (m + 1) (coS Sx (x + 1)) → Calls Try.prog 9 #[.slice ca (m + 1) tc] u fun e w' => e = .returned (.int .i64 0) ∧ Below u.heap.size u w')) := fun ca tc => by
          have e1 := hcom.late o2 (by have := HO2.out; omega) (by have := HO2.out; omega)
          have e2 := hcom.ot o2 HO2.out.2.2
          have e3 := hcom.mw o2 (by have := HO2.out; omega) (by have := HO2.out; omega)
          have e4 := hcom.f
          rw [HSX.out] at e1 e2 e3 e4
          have hm := HM.out
          refine ⟨fun u h => ?_, fun u h => ?_, fun u h => ?_, fun u h => ?_⟩
          · have h9 := implSe_any (m + 1) (coS Sx (x + 1)) ca tc (x + 1) o2 u (by omega) h
            rw [e1.1, e1.2] at h9
            exact h9
          · have h9 := implSe_any (m + 1) (coS Sx (x + 1)) ca tc x o2 u (by omega) h
            rw [e2.1, e2.2, HCV.out.1, HCV.out.2] at h9
            exact h9
          · have h9 := implMw_any (m + 1) (coS Sx (x + 1)) ca tc x o2 u (by omega) h
            rw [e3] at h9
            exact h9
          · have h9 := implChF_any (m + 1) (coS Sx (x + 1)) ca tc u (by omega) h
            rw [e4] at h9
            exact h9
        have HCM : Hid (Calls Try.prog 16 #[.slice ra (m + 1) rc, .int .i64 o, .int .i64 (x + 1)] u1 (CRes 0 (m + 1) (coS Sx (x + 1)) u1)) := hcm
        clear hcm hcom hCN hCC
        go_wp2_with fail
        refine HCM.out.mono ?_
        rintro e w7 ⟨ca, tc, rfl, hb, ho⟩
        replace D0 := cell_below D0 hb
        replace D1 := cell_below D1 hb
        replace A0 := cell_below A0 hb
        replace A1 := cell_below A1 hb
        replace E0 := cell_below E0 hb
        replace E1 := cell_below E1 hb
        replace G1 := cell_below G1 hb
        replace J0 := cell_below J0 hb
        replace J1 := cell_below J1 hb
        replace HV : Hid (VersAt w7 (some ⟨g, 0, none⟩) n R) := HV.out.below hb
        replace HO : Hid (VersAt w7 ra (m + 1) Sx) := HO.out.below hb
        replace HB : Hid (Below w.heap.size w w7) := below_then HB.out hb
        have HT : Hid (VersAt w7 ca (m + 1) (coS Sx (x + 1))) := ho.at
        clear ho
        clear hb HCM
        go_upto_region 14 with fail
        obtain ⟨W8, hW⟩ : ∃ y, y = w7.alloc (.cells #[.int .i64 0, .slice ca (m + 1) tc] 28) := ⟨_, rfl⟩
        have hb : Below w7.heap.size w7 W8 := by rw [hW]; exact below_new _ _
        replace D0 := cell_below D0 hb
        replace D1 := cell_below D1 hb
        replace A0 := cell_below A0 hb
        replace A1 := cell_below A1 hb
        replace E0 := cell_below E0 hb
        replace E1 := cell_below E1 hb
        replace G1 := cell_below G1 hb
        replace J0 := cell_below J0 hb
        replace J1 := cell_below J1 hb
        replace HV : Hid (VersAt W8 (some ⟨g, 0, none⟩) n R) := HV.out.below hb
        replace HO : Hid (VersAt W8 ra (m + 1) Sx) := HO.out.below hb
        replace HT : Hid (VersAt W8 ca (m + 1) (coS Sx (x + 1))) := HT.out.below hb
        replace HB : Hid (Below w.heap.size w W8) := below_then HB.out hb
        have L0 : W8.cell? ⟨w7.heap.size, 0, none⟩ = some (.int .i64 0) := by rw [hW]; simp [go_sem]
        have L1 : W8.cell? ⟨w7.heap.size, 1, none⟩ = some (.slice ca (m + 1) tc) := by rw [hW]; simp [go_sem]
        try rw [← hW]
        clear hW hb
        generalize w7.heap.size = B12 at *
        obtain ⟨HK9a, HK9b, HK9c, HK9d⟩ := HK9.out ca tc
        go_wp2_with fail
        refine (HK9a.out _ HT.out).mono ?_
        rintro e w9 ⟨rfl, hb⟩
        replace D0 := cell_below D0 hb
        replace D1 := cell_below D1 hb
        replace A0 := cell_below A0 hb
        replace A1 := cell_below A1 hb
        replace E0 := cell_below E0 hb
        replace E1 := cell_below E1 hb
        replace G1 := cell_below G1 hb
        replace J0 := cell_below J0 hb
        replace J1 := cell_below J1 hb
        replace L0 := cell_below L0 hb
        replace L1 := cell_below L1 hb
        replace HV : Hid (VersAt w9 (some ⟨g, 0, none⟩) n R) := HV.out.below hb
        replace HO : Hid (VersAt w9 ra (m + 1) Sx) := HO.out.below hb
        replace HT : Hid (VersAt w9 ca (m + 1) (coS Sx (x + 1))) := HT.out.below hb
        replace HB : Hid (Below w.heap.size w w9) := below_then HB.out hb
        clear hb
        go_upto_region 17 with fail
        obtain ⟨W9, hW⟩ : ∃ y, y = w9.alloc (.cells #[.int .i64 4, .int .i64 0] 34) := ⟨_, rfl⟩
        have hb : Below w9.heap.size w9 W9 := by rw [hW]; exact below_new _ _
        replace D0 := cell_below D0 hb
        replace D1 := cell_below D1 hb
        replace A0 := cell_below A0 hb
        replace A1 := cell_below A1 hb
        replace E0 := cell_below E0 hb
        replace E1 := cell_below E1 hb
        replace G1 := cell_below G1 hb
        replace J0 := cell_below J0 hb
        replace J1 := cell_below J1 hb
        replace L0 := cell_below L0 hb
        replace L1 := cell_below L1 hb
        replace HV : Hid (VersAt W9 (some ⟨g, 0, none⟩) n R) := HV.out.below hb
        replace HO : Hid (VersAt W9 ra (m + 1) Sx) := HO.out.below hb
        replace HT : Hid (VersAt W9 ca (m + 1) (coS Sx (x + 1))) := HT.out.below hb
        replace HB : Hid (Below w.heap.size w W9) := below_then HB.out hb
        have N0 : W9.cell? ⟨w9.heap.size, 0, none⟩ = some (.int .i64 4) := by rw [hW]; simp [go_sem]
        have N1 : W9.cell? ⟨w9.heap.size, 1, none⟩ = some (.int .i64 0) := by rw [hW]; simp [go_sem]
        try rw [← hW]
        clear hW hb
        generalize w9.heap.size = B13 at *
        go_wp2_with fail
        refine (HK8.out _ HO.out).mono ?_
        rintro e wa ⟨ba, bc, rfl, hb, ho⟩
        replace D0 := cell_below D0 hb
        replace D1 := cell_below D1 hb
        replace A0 := cell_below A0 hb
        replace A1 := cell_below A1 hb
        replace E0 := cell_below E0 hb
        replace E1 := cell_below E1 hb
        replace G1 := cell_below G1 hb
        replace J0 := cell_below J0 hb
        replace J1 := cell_below J1 hb
        replace L0 := cell_below L0 hb
        replace L1 := cell_below L1 hb
        replace N0 := cell_below N0 hb
        replace N1 := cell_below N1 hb
        replace HV : Hid (VersAt wa (some ⟨g, 0, none⟩) n R) := HV.out.below hb
        replace HO : Hid (VersAt wa ra (m + 1) Sx) := HO.out.below hb
        replace HT : Hid (VersAt wa ca (m + 1) (coS Sx (x + 1))) := HT.out.below hb
        replace HB : Hid (Below w.heap.size w wa) := below_then HB.out hb
        have HQ : Hid (VersAt wa ba m (fun i => Sx (i + 1))) := ho.at
        clear ho hb
        go_upto_region 18 with fail
        obtain ⟨WB, hW⟩ : ∃ y, y = wa.alloc (.cells #[.int .i64 0, .slice ba m bc] 28) := ⟨_, rfl⟩
        have hb : Below wa.heap.size wa WB := by rw [hW]; exact below_new _ _
        replace D0 := cell_below D0 hb
        replace D1 := cell_below D1 hb
        replace A0 := cell_below A0 hb
        replace A1 := cell_below A1 hb
        replace E0 := cell_below E0 hb
        replace E1 := cell_below E1 hb
        replace G1 := cell_below G1 hb
        replace J0 := cell_below J0 hb
        replace J1 := cell_below J1 hb
        replace L0 := cell_below L0 hb
        replace L1 := cell_below L1 hb
        replace N0 := cell_below N0 hb
        replace N1 := cell_below N1 hb
        replace HV : Hid (VersAt WB (some ⟨g, 0, none⟩) n R) := HV.out.below hb
        replace HO : Hid (VersAt WB ra (m + 1) Sx) := HO.out.below hb
        replace HT : Hid (VersAt WB ca (m + 1) (coS Sx (x + 1))) := HT.out.below hb
        replace HQ : Hid (VersAt WB ba m (fun i => Sx (i + 1))) := HQ.out.below hb
        replace HB : Hid (Below w.heap.size w WB) := below_then HB.out hb
        have M0 : WB.cell? ⟨wa.heap.size, 0, none⟩ = some (.int .i64 0) := by rw [hW]; simp [go_sem]
        have M1 : WB.cell? ⟨wa.heap.size, 1, none⟩ = some (.slice ba m bc) := by rw [hW]; simp [go_sem]
        try rw [← hW]
        clear hW hb
        generalize wa.heap.size = B14 at *
        replace HK10 := HK10.out ba bc
        refine wp_region_E 999 (S := fun u => Below WB.heap.size WB u) (by kernel_rfl) ((Below.refl _ _).drew) (fun hS => ?_)
        obtain ⟨u0, hu0⟩ : ∃ y, y = WB.drew := ⟨_, rfl⟩
        rw [← hu0] at hS ⊢
        clear hu0
        refine wpAnyE_takeD (L := 999) (i := 0) (v := .pointer (some ⟨B12, 1, none⟩)) (some 134) rfl rfl (by kernel_rfl) (by kernel_rfl) (by kernel_rfl) (by kernel_rfl) (fun _ _ _ h => h) (Or.inl ⟨by kernel_rfl, by intro u hSu; go_simp⟩) hS ?_
        try simp only [Act.put, List.setIfInBounds_toArray, List.set_cons_zero, List.set_cons_succ]
        refine wpAnyE_takeD (L := 999) (i := 1) (v := .slice ca (m + 1) tc) (some 135) rfl rfl (by kernel_rfl) (by kernel_rfl) (by kernel_rfl) (by kernel_rfl) (fun _ _ _ h => h) (Or.inl ⟨by kernel_rfl, by intro u hSu; have h0 := cell_below L1 hSu; go_simp⟩) hS ?_
        try simp only [Act.put, List.setIfInBounds_toArray, List.set_cons_zero, List.set_cons_succ]
        refine wpAnyE_takeD (L := 999) (i := 2) (v := .agg #[.int .i64 x, .int .i64 o2]) (some 136) rfl rfl (by kernel_rfl) (by kernel_rfl) (by kernel_rfl) (by kernel_rfl) (fun _ _ _ h => h) (Or.inl ⟨by kernel_rfl, by intro u hSu; have h0 := cell_below J0 hSu; have h1 := cell_below J1 hSu; go_simp⟩) hS ?_
        try simp only [Act.put, List.setIfInBounds_toArray, List.set_cons_zero, List.set_cons_succ]
        refine wpAnyE_takeD (L := 999) (i := 4) (v := .slice (some ⟨g, 0, none⟩) n c) (some 138) rfl rfl (by kernel_rfl) (by kernel_rfl) (by kernel_rfl) (by kernel_rfl) (fun _ _ _ h => h) (Or.inl ⟨by kernel_rfl, by intro u hSu; go_simp⟩) hS ?_
        try simp only [Act.put, List.setIfInBounds_toArray, List.set_cons_zero, List.set_cons_succ]
        refine wpAnyE_takeD (L := 999) (i := 5) (v := .agg #[.int .i64 x, .int .i64 o2]) (some 139) rfl rfl (by kernel_rfl) (by kernel_rfl) (by kernel_rfl) (by kernel_rfl) (fun _ _ _ h => h) (Or.inl ⟨by kernel_rfl, by intro u hSu; have h0 := cell_below J0 hSu; have h1 := cell_below J1 hSu; go_simp⟩) hS ?_
        try simp only [Act.put, List.setIfInBounds_toArray, List.set_cons_zero, List.set_cons_succ]
        refine wpAnyE_ready (rs := [3]) (by kernel_rfl) (by simp) ?_
        refine AllReadyE.cons rfl (fun K hK => ?_) AllReadyE.nil
        go_simp
        refine (HK9b.out _ (HT.out.below hS)).mono ?_
        rintro e u1 ⟨rfl, hbu⟩
        refine hK.out _ _ (below_then hS hbu) (fun hS9 => ?_)
        try simp only [Act.put, List.setIfInBounds_toArray, List.set_cons_zero, List.set_cons_succ]
        clear hK K hS hbu
        have hS := hS9
        clear hS9
        refine wpAnyE_ready (rs := [6]) (by kernel_rfl) (by simp) ?_
        refine AllReadyE.cons rfl (fun K hK => ?_) AllReadyE.nil
        go_simp
        refine (HK6.out _ (HV.out.below hS)).mono ?_
        rintro e u1 ⟨rfl, hbu⟩
        refine hK.out _ _ (below_then hS hbu) (fun hS9 => ?_)
        try simp only [Act.put, List.setIfInBounds_toArray, List.set_cons_zero, List.set_cons_succ]
        clear hK K hS hbu
        have hS := hS9
        clear hS9
        refine wpAnyE_takeD (L := 999) (i := 7) (v := .bool true) (some 141) rfl rfl (by kernel_rfl) (by kernel_rfl) (by kernel_rfl) (by kernel_rfl) (fun _ _ _ h => h) (Or.inl ⟨by kernel_rfl, by intro u hSu; go_simp⟩) hS ?_
        try simp only [Act.put, List.setIfInBounds_toArray, List.set_cons_zero, List.set_cons_succ]
        refine wpAnyE_takeD (L := 999) (i := 8) (v := .bool true) (some 142) rfl rfl (by kernel_rfl) (by kernel_rfl) (by kernel_rfl) (by kernel_rfl) (fun _ _ _ h => h) (Or.inl ⟨by kernel_rfl, by intro u hSu; go_simp⟩) hS ?_
        try simp only [Act.put, List.setIfInBounds_toArray, List.set_cons_zero, List.set_cons_succ]
        refine wpAnyE_takeD (L := 999) (i := 9) (v := .bool true) (some 143) rfl rfl (by kernel_rfl) (by kernel_rfl) (by kernel_rfl) (by kernel_rfl) (fun _ _ _ h => h) (Or.inl ⟨by kernel_rfl, by intro u hSu; go_simp⟩) hS ?_
        try simp only [Act.put, List.setIfInBounds_toArray, List.set_cons_zero, List.set_cons_succ]
        refine wpAnyE_takeD (L := 999) (i := 10) (v := .pointer (some ⟨B13, 0, none⟩)) (some 144) rfl rfl (by kernel_rfl) (by kernel_rfl) (by kernel_rfl) (by kernel_rfl) (fun _ _ _ h => h) (Or.inl ⟨by kernel_rfl, by intro u hSu; go_simp⟩) hS ?_
        try simp only [Act.put, List.setIfInBounds_toArray, List.set_cons_zero, List.set_cons_succ]
        refine wpAnyE_takeD (L := 999) (i := 11) (v := .int .i64 4) (some 145) rfl rfl (by kernel_rfl) (by kernel_rfl) (by kernel_rfl) (by kernel_rfl) (fun _ _ _ h => h) (Or.inl ⟨by kernel_rfl, by intro u hSu; have h0 := cell_below N0 hSu; go_simp⟩) hS ?_
        try simp only [Act.put, List.setIfInBounds_toArray, List.set_cons_zero, List.set_cons_succ]
        refine wpAnyE_takeD (L := 999) (i := 12) (v := .bool true) (some 146) rfl rfl (by kernel_rfl) (by kernel_rfl) (by kernel_rfl) (by kernel_rfl) (fun _ _ _ h => h) (Or.inl ⟨by kernel_rfl, by intro u hSu; go_simp⟩) hS ?_
        try simp only [Act.put, List.setIfInBounds_toArray, List.set_cons_zero, List.set_cons_succ]
        refine wpAnyE_takeD (L := 999) (i := 13) (v := .bool true) (some 147) rfl rfl (by kernel_rfl) (by kernel_rfl) (by kernel_rfl) (by kernel_rfl) (fun _ _ _ h => h) (Or.inl ⟨by kernel_rfl, by intro u hSu; go_simp⟩) hS ?_
        try simp only [Act.put, List.setIfInBounds_toArray, List.set_cons_zero, List.set_cons_succ]
        refine wpAnyE_takeD (L := 999) (i := 14) (v := .bool true) (some 148) rfl rfl (by kernel_rfl) (by kernel_rfl) (by kernel_rfl) (by kernel_rfl) (fun _ _ _ h => h) (Or.inl ⟨by kernel_rfl, by intro u hSu; go_simp⟩) hS ?_
        try simp only [Act.put, List.setIfInBounds_toArray, List.set_cons_zero, List.set_cons_succ]
        refine wpAnyE_takeD (L := 999) (i := 15) (v := .bool true) (some 149) rfl rfl (by kernel_rfl) (by kernel_rfl) (by kernel_rfl) (by kernel_rfl) (fun _ _ _ h => h) (Or.inl ⟨by kernel_rfl, by intro u hSu; go_simp⟩) hS ?_
        try simp only [Act.put, List.setIfInBounds_toArray, List.set_cons_zero, List.set_cons_succ]
        refine wpAnyE_takeD (L := 999) (i := 16) (v := .bool true) (some 150) rfl rfl (by kernel_rfl) (by kernel_rfl) (by kernel_rfl) (by kernel_rfl) (fun _ _ _ h => h) (Or.inl ⟨by kernel_rfl, by intro u hSu; go_simp⟩) hS ?_
        try simp only [Act.put, List.setIfInBounds_toArray, List.set_cons_zero, List.set_cons_succ]
        refine wpAnyE_takeD (L := 999) (i := 17) (v := .bool true) (some 151) rfl rfl (by kernel_rfl) (by kernel_rfl) (by kernel_rfl) (by kernel_rfl) (fun _ _ _ h => h) (Or.inl ⟨by kernel_rfl, by intro u hSu; go_simp⟩) hS ?_
        try simp only [Act.put, List.setIfInBounds_toArray, List.set_cons_zero, List.set_cons_succ]
        refine wpAnyE_takeD (L := 999) (i := 18) (v := undef) (some 152) rfl rfl (by kernel_rfl) (by kernel_rfl) (by kernel_rfl) (by kernel_rfl) (fun _ _ _ h => h) (Or.inr ⟨by kernel_rfl, rfl⟩) hS ?_
        try simp only [Act.put, List.setIfInBounds_toArray, List.set_cons_zero, List.set_cons_succ]
        refine wpAnyE_takeD (L := 999) (i := 19) (v := undef) (some 153) rfl rfl (by kernel_rfl) (by kernel_rfl) (by kernel_rfl) (by kernel_rfl) (fun _ _ _ h => h) (Or.inr ⟨by kernel_rfl, rfl⟩) hS ?_
        try simp only [Act.put, List.setIfInBounds_toArray, List.set_cons_zero, List.set_cons_succ]
        refine wpAnyE_takeD (L := 999) (i := 20) (v := undef) (some 154) rfl rfl (by kernel_rfl) (by kernel_rfl) (by kernel_rfl) (by kernel_rfl) (fun _ _ _ h => h) (Or.inr ⟨by kernel_rfl, rfl⟩) hS ?_
        try simp only [Act.put, List.setIfInBounds_toArray, List.set_cons_zero, List.set_cons_succ]
        refine wpAnyE_takeD (L := 999) (i := 21) (v := undef) (some 155) rfl rfl (by kernel_rfl) (by kernel_rfl) (by kernel_rfl) (by kernel_rfl) (fun _ _ _ h => h) (Or.inr ⟨by kernel_rfl, rfl⟩) hS ?_
        try simp only [Act.put, List.setIfInBounds_toArray, List.set_cons_zero, List.set_cons_succ]
        refine wpAnyE_takeD (L := 999) (i := 22) (v := .bool true) (some 156) rfl rfl (by kernel_rfl) (by kernel_rfl) (by kernel_rfl) (by kernel_rfl) (fun _ _ _ h => h) (Or.inl ⟨by kernel_rfl, by intro u hSu; go_simp⟩) hS ?_
        try simp only [Act.put, List.setIfInBounds_toArray, List.set_cons_zero, List.set_cons_succ]
        refine wpAnyE_takeD (L := 999) (i := 23) (v := .bool true) (some 157) rfl rfl (by kernel_rfl) (by kernel_rfl) (by kernel_rfl) (by kernel_rfl) (fun _ _ _ h => h) (Or.inl ⟨by kernel_rfl, by intro u hSu; go_simp⟩) hS ?_
        try simp only [Act.put, List.setIfInBounds_toArray, List.set_cons_zero, List.set_cons_succ]
        refine wpAnyE_takeD (L := 999) (i := 24) (v := .bool true) (some 158) rfl rfl (by kernel_rfl) (by kernel_rfl) (by kernel_rfl) (by kernel_rfl) (fun _ _ _ h => h) (Or.inl ⟨by kernel_rfl, by intro u hSu; go_simp⟩) hS ?_
        try simp only [Act.put, List.setIfInBounds_toArray, List.set_cons_zero, List.set_cons_succ]
        refine wpAnyE_takeD (L := 999) (i := 25) (v := .pointer (some ⟨B12, 1, none⟩)) (some 159) rfl rfl (by kernel_rfl) (by kernel_rfl) (by kernel_rfl) (by kernel_rfl) (fun _ _ _ h => h) (Or.inl ⟨by kernel_rfl, by intro u hSu; go_simp⟩) hS ?_
        try simp only [Act.put, List.setIfInBounds_toArray, List.set_cons_zero, List.set_cons_succ]
        refine wpAnyE_takeD (L := 999) (i := 26) (v := .slice ca (m + 1) tc) (some 160) rfl rfl (by kernel_rfl) (by kernel_rfl) (by kernel_rfl) (by kernel_rfl) (fun _ _ _ h => h) (Or.inl ⟨by kernel_rfl, by intro u hSu; have h0 := cell_below L1 hSu; go_simp⟩) hS ?_
        try simp only [Act.put, List.setIfInBounds_toArray, List.set_cons_zero, List.set_cons_succ]
        refine wpAnyE_takeD (L := 999) (i := 27) (v := .agg #[.int .i64 x, .int .i64 o2]) (some 161) rfl rfl (by kernel_rfl) (by kernel_rfl) (by kernel_rfl) (by kernel_rfl) (fun _ _ _ h => h) (Or.inl ⟨by kernel_rfl, by intro u hSu; have h0 := cell_below J0 hSu; have h1 := cell_below J1 hSu; go_simp⟩) hS ?_
        try simp only [Act.put, List.setIfInBounds_toArray, List.set_cons_zero, List.set_cons_succ]
        refine wpAnyE_ready (rs := [28]) (by kernel_rfl) (by simp) ?_
        refine AllReadyE.cons rfl (fun K hK => ?_) AllReadyE.nil
        rw [if_pos (by kernel_rfl)]
        go_simp
        refine (HK9c.out _ (HT.out.below hS)).mono ?_
        rintro e u1 ⟨rfl, hbu⟩
        refine hK.out _ _ (below_then hS hbu) (fun hS9 => ?_)
        try simp only [Act.put, List.setIfInBounds_toArray, List.set_cons_zero, List.set_cons_succ]
        clear hK K hS hbu
        have hS := hS9
        clear hS9
        refine wpAnyE_takeD (L := 999) (i := 29) (v := .bool true) (some 163) rfl rfl (by kernel_rfl) (by kernel_rfl) (by kernel_rfl) (by kernel_rfl) (fun _ _ _ h => h) (Or.inl ⟨by kernel_rfl, by intro u hSu; go_simp⟩) hS ?_
        try simp only [Act.put, List.setIfInBounds_toArray, List.set_cons_zero, List.set_cons_succ]
        refine wpAnyE_takeD (L := 999) (i := 30) (v := .bool true) (some 164) rfl rfl (by kernel_rfl) (by kernel_rfl) (by kernel_rfl) (by kernel_rfl) (fun _ _ _ h => h) (Or.inl ⟨by kernel_rfl, by intro u hSu; go_simp⟩) hS ?_
        try simp only [Act.put, List.setIfInBounds_toArray, List.set_cons_zero, List.set_cons_succ]
        refine wpAnyE_takeD (L := 999) (i := 31) (v := .bool true) (some 165) rfl rfl (by kernel_rfl) (by kernel_rfl) (by kernel_rfl) (by kernel_rfl) (fun _ _ _ h => h) (Or.inl ⟨by kernel_rfl, by intro u hSu; go_simp⟩) hS ?_
        try simp only [Act.put, List.setIfInBounds_toArray, List.set_cons_zero, List.set_cons_succ]
        refine wpAnyE_takeD (L := 999) (i := 32) (v := .pointer (some ⟨B12, 1, none⟩)) (some 166) rfl rfl (by kernel_rfl) (by kernel_rfl) (by kernel_rfl) (by kernel_rfl) (fun _ _ _ h => h) (Or.inl ⟨by kernel_rfl, by intro u hSu; go_simp⟩) hS ?_
        try simp only [Act.put, List.setIfInBounds_toArray, List.set_cons_zero, List.set_cons_succ]
        refine wpAnyE_takeD (L := 999) (i := 33) (v := .slice ca (m + 1) tc) (some 167) rfl rfl (by kernel_rfl) (by kernel_rfl) (by kernel_rfl) (by kernel_rfl) (fun _ _ _ h => h) (Or.inl ⟨by kernel_rfl, by intro u hSu; have h0 := cell_below L1 hSu; go_simp⟩) hS ?_
        try simp only [Act.put, List.setIfInBounds_toArray, List.set_cons_zero, List.set_cons_succ]
        refine wpAnyE_ready (rs := [34]) (by kernel_rfl) (by simp) ?_
        refine AllReadyE.cons rfl (fun K hK => ?_) AllReadyE.nil
        rw [if_pos (by kernel_rfl)]
        go_simp
        refine (HK9d.out _ (HT.out.below hS)).mono ?_
        rintro e u1 ⟨rfl, hbu⟩
        refine hK.out _ _ (below_then hS hbu) (fun hS9 => ?_)
        try simp only [Act.put, List.setIfInBounds_toArray, List.set_cons_zero, List.set_cons_succ]
        clear hK K hS hbu
        have hS := hS9
        clear hS9
        refine wpAnyE_takeD (L := 999) (i := 35) (v := .bool true) (some 169) rfl rfl (by kernel_rfl) (by kernel_rfl) (by kernel_rfl) (by kernel_rfl) (fun _ _ _ h => h) (Or.inl ⟨by kernel_rfl, by intro u hSu; go_simp⟩) hS ?_
        try simp only [Act.put, List.setIfInBounds_toArray, List.set_cons_zero, List.set_cons_succ]
        refine wpAnyE_takeD (L := 999) (i := 36) (v := .bool true) (some 170) rfl rfl (by kernel_rfl) (by kernel_rfl) (by kernel_rfl) (by kernel_rfl) (fun _ _ _ h => h) (Or.inl ⟨by kernel_rfl, by intro u hSu; go_simp⟩) hS ?_
        try simp only [Act.put, List.setIfInBounds_toArray, List.set_cons_zero, List.set_cons_succ]
        refine wpAnyE_takeD (L := 999) (i := 37) (v := .bool true) (some 171) rfl rfl (by kernel_rfl) (by kernel_rfl) (by kernel_rfl) (by kernel_rfl) (fun _ _ _ h => h) (Or.inl ⟨by kernel_rfl, by intro u hSu; go_simp⟩) hS ?_
        try simp only [Act.put, List.setIfInBounds_toArray, List.set_cons_zero, List.set_cons_succ]
        refine wpAnyE_takeD (L := 999) (i := 38) (v := .pointer (some ⟨B14, 0, none⟩)) (some 172) rfl rfl (by kernel_rfl) (by kernel_rfl) (by kernel_rfl) (by kernel_rfl) (fun _ _ _ h => h) (Or.inl ⟨by kernel_rfl, by intro u hSu; go_simp⟩) hS ?_
        try simp only [Act.put, List.setIfInBounds_toArray, List.set_cons_zero, List.set_cons_succ]
        refine wpAnyE_takeD (L := 999) (i := 39) (v := .int .i64 0) (some 173) rfl rfl (by kernel_rfl) (by kernel_rfl) (by kernel_rfl) (by kernel_rfl) (fun _ _ _ h => h) (Or.inl ⟨by kernel_rfl, by intro u hSu; have h0 := cell_below M0 hSu; go_simp⟩) hS ?_
        try simp only [Act.put, List.setIfInBounds_toArray, List.set_cons_zero, List.set_cons_succ]
        refine wpAnyE_takeD (L := 999) (i := 40) (v := .bool true) (some 174) rfl rfl (by kernel_rfl) (by kernel_rfl) (by kernel_rfl) (by kernel_rfl) (fun _ _ _ h => h) (Or.inl ⟨by kernel_rfl, by intro u hSu; go_simp⟩) hS ?_
        try simp only [Act.put, List.setIfInBounds_toArray, List.set_cons_zero, List.set_cons_succ]
        refine wpAnyE_takeD (L := 999) (i := 41) (v := .bool true) (some 175) rfl rfl (by kernel_rfl) (by kernel_rfl) (by kernel_rfl) (by kernel_rfl) (fun _ _ _ h => h) (Or.inl ⟨by kernel_rfl, by intro u hSu; go_simp⟩) hS ?_
        try simp only [Act.put, List.setIfInBounds_toArray, List.set_cons_zero, List.set_cons_succ]
        refine wpAnyE_takeD (L := 999) (i := 42) (v := .bool true) (some 176) rfl rfl (by kernel_rfl) (by kernel_rfl) (by kernel_rfl) (by kernel_rfl) (fun _ _ _ h => h) (Or.inl ⟨by kernel_rfl, by intro u hSu; go_simp⟩) hS ?_
        try simp only [Act.put, List.setIfInBounds_toArray, List.set_cons_zero, List.set_cons_succ]
        refine wpAnyE_takeD (L := 999) (i := 43) (v := .pointer (some ⟨B14, 1, none⟩)) (some 177) rfl rfl (by kernel_rfl) (by kernel_rfl) (by kernel_rfl) (by kernel_rfl) (fun _ _ _ h => h) (Or.inl ⟨by kernel_rfl, by intro u hSu; go_simp⟩) hS ?_
        try simp only [Act.put, List.setIfInBounds_toArray, List.set_cons_zero, List.set_cons_succ]
        refine wpAnyE_takeD (L := 999) (i := 44) (v := .slice ba m bc) (some 178) rfl rfl (by kernel_rfl) (by kernel_rfl) (by kernel_rfl) (by kernel_rfl) (fun _ _ _ h => h) (Or.inl ⟨by kernel_rfl, by intro u hSu; have h0 := cell_below M1 hSu; go_simp⟩) hS ?_
        try simp only [Act.put, List.setIfInBounds_toArray, List.set_cons_zero, List.set_cons_succ]
        refine wpAnyE_takeD (L := 999) (i := 45) (v := .agg #[.int .i64 x, .int .i64 o2]) (some 179) rfl rfl (by kernel_rfl) (by kernel_rfl) (by kernel_rfl) (by kernel_rfl) (fun _ _ _ h => h) (Or.inl ⟨by kernel_rfl, by intro u hSu; have h0 := cell_below J0 hSu; have h1 := cell_below J1 hSu; go_simp⟩) hS ?_
        try simp only [Act.put, List.setIfInBounds_toArray, List.set_cons_zero, List.set_cons_succ]
        refine wpAnyE_takeD (L := 999) (i := 47) (v := .slice (some ⟨g, 0, none⟩) n c) (some 181) rfl rfl (by kernel_rfl) (by kernel_rfl) (by kernel_rfl) (by kernel_rfl) (fun _ _ _ h => h) (Or.inl ⟨by kernel_rfl, by intro u hSu; go_simp⟩) hS ?_
        try simp only [Act.put, List.setIfInBounds_toArray, List.set_cons_zero, List.set_cons_succ]
        refine wpAnyE_takeD (L := 999) (i := 48) (v := .agg #[.int .i64 x, .int .i64 o2]) (some 182) rfl rfl (by kernel_rfl) (by kernel_rfl) (by kernel_rfl) (by kernel_rfl) (fun _ _ _ h => h) (Or.inl ⟨by kernel_rfl, by intro u hSu; have h0 := cell_below J0 hSu; have h1 := cell_below J1 hSu; go_simp⟩) hS ?_
        try simp only [Act.put, List.setIfInBounds_toArray, List.set_cons_zero, List.set_cons_succ]
        refine wpAnyE_ready (rs := [46]) (by kernel_rfl) (by simp) ?_
        refine AllReadyE.cons rfl (fun K hK => ?_) AllReadyE.nil
        rw [if_pos (by kernel_rfl)]
        go_simp
        refine (HK10.out _ (HQ.out.below hS)).mono ?_
        rintro e u1 ⟨rfl, hbu⟩
        refine hK.out _ _ (below_then hS hbu) (fun hS9 => ?_)
        try simp only [Act.put, List.setIfInBounds_toArray, List.set_cons_zero, List.set_cons_succ]
        clear hK K hS hbu
        have hS := hS9
        clear hS9
        refine wpAnyE_ready (rs := [49]) (by kernel_rfl) (by simp) ?_
        refine AllReadyE.cons rfl (fun K hK => ?_) AllReadyE.nil
        rw [if_pos (by kernel_rfl)]
        go_simp
        refine (HK6.out _ (HV.out.below hS)).mono ?_
        rintro e u1 ⟨rfl, hbu⟩
        refine hK.out _ _ (below_then hS hbu) (fun hS9 => ?_)
        try simp only [Act.put, List.setIfInBounds_toArray, List.set_cons_zero, List.set_cons_succ]
        clear hK K hS hbu
        have hS := hS9
        clear hS9
        refine wpAnyE_takeD (L := 999) (i := 50) (v := .bool true) (some 184) rfl rfl (by kernel_rfl) (by kernel_rfl) (by kernel_rfl) (by kernel_rfl) (fun _ _ _ h => h) (Or.inl ⟨by kernel_rfl, by intro u hSu; go_simp⟩) hS ?_
        try simp only [Act.put, List.setIfInBounds_toArray, List.set_cons_zero, List.set_cons_succ]
        refine wpAnyE_takeD (L := 999) (i := 51) (v := .bool true) (some 185) rfl rfl (by kernel_rfl) (by kernel_rfl) (by kernel_rfl) (by kernel_rfl) (fun _ _ _ h => h) (Or.inl ⟨by kernel_rfl, by intro u hSu; go_simp⟩) hS ?_
        try simp only [Act.put, List.setIfInBounds_toArray, List.set_cons_zero, List.set_cons_succ]
        refine wpAnyE_takeD (L := 999) (i := 52) (v := .bool true) (some 2) rfl rfl (by kernel_rfl) (by kernel_rfl) (by kernel_rfl) (by kernel_rfl) (fun _ _ _ h => h) (Or.inl ⟨by kernel_rfl, by intro u hSu; go_simp⟩) hS ?_
        try simp only [Act.put, List.setIfInBounds_toArray, List.set_cons_zero, List.set_cons_succ]
        refine wpAnyE_done (by kernel_rfl) ?_ _
        go_simp
        go_wp2_with fail
        go_ret
        exact ⟨ret_bool (by simp), below_then HB.out hS⟩
      · obtain ⟨CC, hCCe⟩ : ∃ y, y = coC (m + 1) Sx o (x + 1) := ⟨_, rfl⟩
        obtain ⟨CM, hCMe⟩ : ∃ y, y = coN (m + 1) Sx o (x + 1) := ⟨_, rfl⟩
        have HK7s : Hid (∀ u, VersAt u ra (m + 1) Sx → Calls Try.prog 17 #[.slice ra (m + 1) rc, .int .i64 o, .int .i64 (x + 1)] u (CRes CC CM (coS Sx (x + 1)) u)) := fun u h => by
          have h9 := specCoC_any (m + 1) Sx ra rc HRC.out o (x + 1) u (by have := HM.out; omega) h
          rw [← hCCe, ← hCMe] at h9
          exact h9
        rw [← hCCe, ← hCMe] at hcm
        rw [← hCCe] at hCC
        have HCM : Hid (Calls Try.prog 16 #[.slice ra (m + 1) rc, .int .i64 o, .int .i64 (x + 1)] u1 (CRes CC CM (coS Sx (x + 1)) u1)) := hcm
        clear hcm hCCe hCMe
        have hcc1 : (CC != 0) = true := by simp [hCC]
        go_wp2_with fail
        refine HCM.out.mono ?_
        rintro e w7 ⟨ca, tc, rfl, hb, -⟩
        replace D0 := cell_below D0 hb
        replace D1 := cell_below D1 hb
        replace A0 := cell_below A0 hb
        replace A1 := cell_below A1 hb
        replace E0 := cell_below E0 hb
        replace E1 := cell_below E1 hb
        replace G1 := cell_below G1 hb
        replace J0 := cell_below J0 hb
        replace J1 := cell_below J1 hb
        replace HV : Hid (VersAt w7 (some ⟨g, 0, none⟩) n R) := HV.out.below hb
        replace HO : Hid (VersAt w7 ra (m + 1) Sx) := HO.out.below hb
        replace HB : Hid (Below w.heap.size w w7) := below_then HB.out hb
        clear hb HCM
        go_upto_region 14 with fail
        obtain ⟨W8, hW⟩ : ∃ y, y = w7.alloc (.cells #[.int .i64 CC, .slice ca CM tc] 28) := ⟨_, rfl⟩
        have hb : Below w7.heap.size w7 W8 := by rw [hW]; exact below_new _ _
        replace D0 := cell_below D0 hb
        replace D1 := cell_below D1 hb
        replace A0 := cell_below A0 hb
        replace A1 := cell_below A1 hb
        replace E0 := cell_below E0 hb
        replace E1 := cell_below E1 hb
        replace G1 := cell_below G1 hb
        replace J0 := cell_below J0 hb
        replace J1 := cell_below J1 hb
        replace HV : Hid (VersAt W8 (some ⟨g, 0, none⟩) n R) := HV.out.below hb
        replace HO : Hid (VersAt W8 ra (m + 1) Sx) := HO.out.below hb
        replace HB : Hid (Below w.heap.size w W8) := below_then HB.out hb
        have L0 : W8.cell? ⟨w7.heap.size, 0, none⟩ = some (.int .i64 CC) := by rw [hW]; simp [go_sem]
        try rw [← hW]
        clear hW hb
        generalize w7.heap.size = B12 at *
        go_upto_region 15 with fail
        refine wp_region_E 999 (S := fun u => Below W8.heap.size W8 u) (by kernel_rfl) ((Below.refl _ _).drew) (fun hS => ?_)
        obtain ⟨u0, hu0⟩ : ∃ y, y = W8.drew := ⟨_, rfl⟩
        rw [← hu0] at hS ⊢
        clear hu0
        refine wpAnyE_takeD (L := 999) (i := 0) (v := .pointer (some ⟨B, 1, none⟩)) (some 112) rfl rfl (by kernel_rfl) (by kernel_rfl) (by kernel_rfl) (by kernel_rfl) (fun _ _ _ h => h) (Or.inl ⟨by kernel_rfl, by intro u hSu; go_simp⟩) hS ?_
        try simp only [Act.put, List.setIfInBounds_toArray, List.set_cons_zero, List.set_cons_succ]
        refine wpAnyE_takeD (L := 999) (i := 1) (v := .slice ra (m + 1) rc) (some 113) rfl rfl (by kernel_rfl) (by kernel_rfl) (by kernel_rfl) (by kernel_rfl) (fun _ _ _ h => h) (Or.inl ⟨by kernel_rfl, by intro u hSu; have h0 := cell_below A1 hSu; go_simp⟩) hS ?_
        try simp only [Act.put, List.setIfInBounds_toArray, List.set_cons_zero, List.set_cons_succ]
        refine wpAnyE_takeD (L := 999) (i := 2) (v := .pointer (some ⟨V, 1, none⟩)) (some 114) rfl rfl (by kernel_rfl) (by kernel_rfl) (by kernel_rfl) (by kernel_rfl) (fun _ _ _ h => h) (Or.inl ⟨by kernel_rfl, by intro u hSu; go_simp⟩) hS ?_
        try simp only [Act.put, List.setIfInBounds_toArray, List.set_cons_zero, List.set_cons_succ]
        refine wpAnyE_takeD (L := 999) (i := 3) (v := .int .i64 o) (some 115) rfl rfl (by kernel_rfl) (by kernel_rfl) (by kernel_rfl) (by kernel_rfl) (fun _ _ _ h => h) (Or.inl ⟨by kernel_rfl, by intro u hSu; have h0 := cell_below D1 hSu; go_simp⟩) hS ?_
        try simp only [Act.put, List.setIfInBounds_toArray, List.set_cons_zero, List.set_cons_succ]
        refine wpAnyE_takeD (L := 999) (i := 4) (v := .int .i64 (x + 1)) (some 116) rfl rfl (by kernel_rfl) (by kernel_rfl) (by kernel_rfl) (by kernel_rfl) (fun _ _ _ h => h) (Or.inl ⟨by kernel_rfl, by intro u hSu; go_simp⟩) hS ?_
        try simp only [Act.put, List.setIfInBounds_toArray, List.set_cons_zero, List.set_cons_succ]
        refine wpAnyE_takeD (L := 999) (i := 7) (v := .pointer (some ⟨B12, 0, none⟩)) (some 119) rfl rfl (by kernel_rfl) (by kernel_rfl) (by kernel_rfl) (by kernel_rfl) (fun _ _ _ h => h) (Or.inl ⟨by kernel_rfl, by intro u hSu; go_simp⟩) hS ?_
        try simp only [Act.put, List.setIfInBounds_toArray, List.set_cons_zero, List.set_cons_succ]
        refine wpAnyE_takeD (L := 999) (i := 8) (v := .int .i64 CC) (some 120) rfl rfl (by kernel_rfl) (by kernel_rfl) (by kernel_rfl) (by kernel_rfl) (fun _ _ _ h => h) (Or.inl ⟨by kernel_rfl, by intro u hSu; have h0 := cell_below L0 hSu; go_simp⟩) hS ?_
        try simp only [Act.put, List.setIfInBounds_toArray, List.set_cons_zero, List.set_cons_succ]
        refine wpAnyE_ready (rs := [5]) (by kernel_rfl) (by simp) ?_
        refine AllReadyE.cons rfl (fun K hK => ?_) AllReadyE.nil
        go_simp
        refine (HK7s.out _ (HO.out.below hS)).mono ?_
        rintro e u1 ⟨sa, sc, rfl, hbu, -⟩
        refine hK.out _ _ (below_then hS hbu) (fun hS9 => ?_)
        try simp only [Act.put, List.setIfInBounds_toArray, List.set_cons_zero, List.set_cons_succ]
        clear hK K hS hbu
        have hS := hS9
        clear hS9
        refine wpAnyE_takeD (L := 999) (i := 6) (v := .int .i64 CC) (some 118) rfl rfl (by kernel_rfl) (by kernel_rfl) (by kernel_rfl) (by kernel_rfl) (fun _ _ _ h => h) (Or.inl ⟨by kernel_rfl, by intro u hSu; have hf : (Instr.field 28 (.agg #[.int .i64 CC, .slice sa CM sc]) 0).run Try.prog u = .ok (.int .i64 CC) u := (by kernel_rfl); go_simp⟩) hS ?_
        try simp only [Act.put, List.setIfInBounds_toArray, List.set_cons_zero, List.set_cons_succ]
        refine wpAnyE_takeD (L := 999) (i := 9) (v := .bool (CC == CC)) (some 121) rfl rfl (by kernel_rfl) (by kernel_rfl) (by kernel_rfl) (by kernel_rfl) (fun _ _ _ h => h) (Or.inl ⟨by kernel_rfl, by intro u hSu; go_simp⟩) hS ?_
        try simp only [Act.put, List.setIfInBounds_toArray, List.set_cons_zero, List.set_cons_succ]
        refine wpAnyE_takeD (L := 999) (i := 10) (v := .bool (CC == CC)) (some 2) rfl rfl (by kernel_rfl) (by kernel_rfl) (by kernel_rfl) (by kernel_rfl) (fun _ _ _ h => h) (Or.inl ⟨by kernel_rfl, by intro u hSu; go_simp⟩) hS ?_
        try simp only [Act.put, List.setIfInBounds_toArray, List.set_cons_zero, List.set_cons_succ]
        refine wpAnyE_done (by kernel_rfl) ?_ _
        go_simp
        go_wp2_with fail
        go_ret
        exact ⟨ret_bool (by simp), below_then HB.out hS⟩
    | false =>
      have HK1 : Hid (∀ u, VersAt u ra (m + 1) Sx → Calls Try.prog 10 #[.slice ra (m + 1) rc, .agg #[.int .i64 x, .int .i64 o]] u fun e w' => e = .returned (.agg #[.int .i64 0, .int .i64 v]) ∧ Below u.heap.size u w') := fun u h => by
        have h9 := implSe_any (m + 1) Sx ra rc x o u (by have := HM.out; omega) h
        have h8 := HPD.out.own
        rw [HSX.out] at h8
        rw [h8.1, h8.2] at h9
        exact h9
      go_wp2_with fail
      refine (HK1.out _ HO.out).mono ?_
      rintro e w4 ⟨rfl, hb⟩
      replace D0 := cell_below D0 hb
      replace D1 := cell_below D1 hb
      replace A0 := cell_below A0 hb
      replace A1 := cell_below A1 hb
      replace HV : Hid (VersAt w4 (some ⟨g, 0, none⟩) n R) := HV.out.below hb
      replace HO : Hid (VersAt w4 ra (m + 1) Sx) := HO.out.below hb
      replace HB : Hid (Below w.heap.size w w4) := below_then HB.out hb
      clear hb
      go_upto_region 8 with fail
      obtain ⟨W4, hW⟩ : ∃ y, y = w4.alloc (.cells #[.int .i64 0, .int .i64 v] 34) := ⟨_, rfl⟩
      have hb : Below w4.heap.size w4 W4 := by rw [hW]; exact below_new _ _
      replace D0 := cell_below D0 hb
      replace D1 := cell_below D1 hb
      replace A0 := cell_below A0 hb
      replace A1 := cell_below A1 hb
      replace HV : Hid (VersAt W4 (some ⟨g, 0, none⟩) n R) := HV.out.below hb
      replace HO : Hid (VersAt W4 ra (m + 1) Sx) := HO.out.below hb
      replace HB : Hid (Below w.heap.size w W4) := below_then HB.out hb
      have E0 : W4.cell? ⟨w4.heap.size, 0, none⟩ = some (.int .i64 0) := by rw [hW]; simp [go_sem]
      have E1 : W4.cell? ⟨w4.heap.size, 1, none⟩ = some (.int .i64 v) := by rw [hW]; simp [go_sem]
      try rw [← hW]
      clear hW hb
      generalize w4.heap.size = B8 at *
      go_wp2_with fail
      refine (HK2.out _ HO.out).mono ?_
      rintro e w5 ⟨wc, rfl, hb⟩
      replace D0 := cell_below D0 hb
      replace D1 := cell_below D1 hb
      replace A0 := cell_below A0 hb
      replace A1 := cell_below A1 hb
      replace E0 := cell_below E0 hb
      replace E1 := cell_below E1 hb
      replace HV : Hid (VersAt w5 (some ⟨g, 0, none⟩) n R) := HV.out.below hb
      replace HO : Hid (VersAt w5 ra (m + 1) Sx) := HO.out.below hb
      replace HB : Hid (Below w.heap.size w w5) := below_then HB.out hb
      clear hb
      go_upto_region 9 with fail
      obtain ⟨W5, hW⟩ : ∃ y, y = w5.alloc (.cells #[.int .i64 wc, .int .i64 o] 34) := ⟨_, rfl⟩
      have hb : Below w5.heap.size w5 W5 := by rw [hW]; exact below_new _ _
      replace D0 := cell_below D0 hb
      replace D1 := cell_below D1 hb
      replace A0 := cell_below A0 hb
      replace A1 := cell_below A1 hb
      replace E0 := cell_below E0 hb
      replace E1 := cell_below E1 hb
      replace HV : Hid (VersAt W5 (some ⟨g, 0, none⟩) n R) := HV.out.below hb
      replace HO : Hid (VersAt W5 ra (m + 1) Sx) := HO.out.below hb
      replace HB : Hid (Below w.heap.size w W5) := below_then HB.out hb
      have G1 : W5.cell? ⟨w5.heap.size, 1, none⟩ = some (.int .i64 o) := by rw [hW]; simp [go_sem]
      try rw [← hW]
      clear hW hb
      generalize w5.heap.size = B9 at *
      go_upto_region 10 with fail
      generalize k9 + 1 = o2 at *
      obtain ⟨W6, hW⟩ : ∃ y, y = W5.alloc (.cells #[.int .i64 x, .int .i64 o2] 32) := ⟨_, rfl⟩
      have hb : Below W5.heap.size W5 W6 := by rw [hW]; exact below_new _ _
      replace D0 := cell_below D0 hb
      replace D1 := cell_below D1 hb
      replace A0 := cell_below A0 hb
      replace A1 := cell_below A1 hb
      replace E0 := cell_below E0 hb
      replace E1 := cell_below E1 hb
      replace G1 := cell_below G1 hb
      replace HV : Hid (VersAt W6 (some ⟨g, 0, none⟩) n R) := HV.out.below hb
      replace HO : Hid (VersAt W6 ra (m + 1) Sx) := HO.out.below hb
      replace HB : Hid (Below w.heap.size w W6) := below_then HB.out hb
      have J0 : W6.cell? ⟨W5.heap.size, 0, none⟩ = some (.int .i64 x) := by rw [hW]; simp [go_sem]
      have J1 : W6.cell? ⟨W5.heap.size, 1, none⟩ = some (.int .i64 o2) := by rw [hW]; simp [go_sem]
      try rw [← hW]
      clear hW hb
      generalize W5.heap.size = B10 at *
      obtain ⟨c2, v2, HCV, HK4, HK5, HK6, HK10⟩ := HOT.out o2 HO2.out.1 HO2.out.2.1 HO2.out.2.2
      clear hre1 hre2 hwk hwk1 hk9
      refine wp_region_E 999 (S := fun u => Below W6.heap.size W6 u) (by kernel_rfl) ((Below.refl _ _).drew) (fun hS => ?_)
      obtain ⟨u0, hu0⟩ : ∃ y, y = W6.drew := ⟨_, rfl⟩
      rw [← hu0] at hS ⊢
      clear hu0
      refine wpAnyE_takeD (L := 999) (i := 0) (v := .pointer (some ⟨B, 1, none⟩)) (some 55) rfl rfl (by kernel_rfl) (by kernel_rfl) (by kernel_rfl) (by kernel_rfl) (fun _ _ _ h => h) (Or.inl ⟨by kernel_rfl, by intro u hSu; go_simp⟩) hS ?_
      try simp only [Act.put, List.setIfInBounds_toArray, List.set_cons_zero, List.set_cons_succ]
      refine wpAnyE_takeD (L := 999) (i := 1) (v := .slice ra (m + 1) rc) (some 56) rfl rfl (by kernel_rfl) (by kernel_rfl) (by kernel_rfl) (by kernel_rfl) (fun _ _ _ h => h) (Or.inl ⟨by kernel_rfl, by intro u hSu; have h0 := cell_below A1 hSu; go_simp⟩) hS ?_
      try simp only [Act.put, List.setIfInBounds_toArray, List.set_cons_zero, List.set_cons_succ]
      refine wpAnyE_ready (rs := [2]) (by kernel_rfl) (by simp) ?_
      refine AllReadyE.cons rfl (fun K hK => ?_) AllReadyE.nil
      go_simp
      refine (HK3.out _ (HO.out.below hS)).mono ?_
      rintro e u1 ⟨rfl, hbu⟩
      refine hK.out _ _ (below_then hS hbu) (fun hS9 => ?_)
      try simp only [Act.put, List.setIfInBounds_toArray, List.set_cons_zero, List.set_cons_succ]
      clear hK K hS hbu
      have hS := hS9
      clear hS9
      refine wpAnyE_takeD (L := 999) (i := 3) (v := .bool false) (some 58) rfl rfl (by kernel_rfl) (by kernel_rfl) (by kernel_rfl) (by kernel_rfl) (fun _ _ _ h => h) (Or.inl ⟨by kernel_rfl, by intro u hSu; go_simp⟩) hS ?_
      try simp only [Act.put, List.setIfInBounds_toArray, List.set_cons_zero, List.set_cons_succ]
      refine wpAnyE_takeD (L := 999) (i := 4) (v := .bool false) (some 59) rfl rfl (by kernel_rfl) (by kernel_rfl) (by kernel_rfl) (by kernel_rfl) (fun _ _ _ h => h) (Or.inl ⟨by kernel_rfl, by intro u hSu; go_simp⟩) hS ?_
      try simp only [Act.put, List.setIfInBounds_toArray, List.set_cons_zero, List.set_cons_succ]
      refine wpAnyE_takeD (L := 999) (i := 5) (v := .bool false) (some 60) rfl rfl (by kernel_rfl) (by kernel_rfl) (by kernel_rfl) (by kernel_rfl) (fun _ _ _ h => h) (Or.inl ⟨by kernel_rfl, by intro u hSu; go_simp⟩) hS ?_
      try simp only [Act.put, List.setIfInBounds_toArray, List.set_cons_zero, List.set_cons_succ]
      refine wpAnyE_takeD (L := 999) (i := 6) (v := .pointer (some ⟨B8, 0, none⟩)) (some 61) rfl rfl (by kernel_rfl) (by kernel_rfl) (by kernel_rfl) (by kernel_rfl) (fun _ _ _ h => h) (Or.inl ⟨by kernel_rfl, by intro u hSu; go_simp⟩) hS ?_
      try simp only [Act.put, List.setIfInBounds_toArray, List.set_cons_zero, List.set_cons_succ]
      refine wpAnyE_takeD (L := 999) (i := 7) (v := .int .i64 0) (some 62) rfl rfl (by kernel_rfl) (by kernel_rfl) (by kernel_rfl) (by kernel_rfl) (fun _ _ _ h => h) (Or.inl ⟨by kernel_rfl, by intro u hSu; have h0 := cell_below E0 hSu; go_simp⟩) hS ?_
      try simp only [Act.put, List.setIfInBounds_toArray, List.set_cons_zero, List.set_cons_succ]
      refine wpAnyE_takeD (L := 999) (i := 8) (v := .bool false) (some 63) rfl rfl (by kernel_rfl) (by kernel_rfl) (by kernel_rfl) (by kernel_rfl) (fun _ _ _ h => h) (Or.inl ⟨by kernel_rfl, by intro u hSu; go_simp⟩) hS ?_
      try simp only [Act.put, List.setIfInBounds_toArray, List.set_cons_zero, List.set_cons_succ]
      refine wpAnyE_takeD (L := 999) (i := 9) (v := .bool false) (some 64) rfl rfl (by kernel_rfl) (by kernel_rfl) (by kernel_rfl) (by kernel_rfl) (fun _ _ _ h => h) (Or.inl ⟨by kernel_rfl, by intro u hSu; go_simp⟩) hS ?_
      try simp only [Act.put, List.setIfInBounds_toArray, List.set_cons_zero, List.set_cons_succ]
      refine wpAnyE_takeD (L := 999) (i := 10) (v := .bool false) (some 65) rfl rfl (by kernel_rfl) (by kernel_rfl) (by kernel_rfl) (by kernel_rfl) (fun _ _ _ h => h) (Or.inl ⟨by kernel_rfl, by intro u hSu; go_simp⟩) hS ?_
      try simp only [Act.put, List.setIfInBounds_toArray, List.set_cons_zero, List.set_cons_succ]
      refine wpAnyE_takeD (L := 999) (i := 11) (v := .bool false) (some 66) rfl rfl (by kernel_rfl) (by kernel_rfl) (by kernel_rfl) (by kernel_rfl) (fun _ _ _ h => h) (Or.inl ⟨by kernel_rfl, by intro u hSu; go_simp⟩) hS ?_
      try simp only [Act.put, List.setIfInBounds_toArray, List.set_cons_zero, List.set_cons_succ]
      refine wpAnyE_takeD (L := 999) (i := 12) (v := .bool false) (some 67) rfl rfl (by kernel_rfl) (by kernel_rfl) (by kernel_rfl) (by kernel_rfl) (fun _ _ _ h => h) (Or.inl ⟨by kernel_rfl, by intro u hSu; go_simp⟩) hS ?_
      try simp only [Act.put, List.setIfInBounds_toArray, List.set_cons_zero, List.set_cons_succ]
      refine wpAnyE_takeD (L := 999) (i := 13) (v := .bool true) (some 68) rfl rfl (by kernel_rfl) (by kernel_rfl) (by kernel_rfl) (by kernel_rfl) (fun _ _ _ h => h) (Or.inl ⟨by kernel_rfl, by intro u hSu; go_simp⟩) hS ?_
      try simp only [Act.put, List.setIfInBounds_toArray, List.set_cons_zero, List.set_cons_succ]
      refine wpAnyE_takeD (L := 999) (i := 14) (v := .bool true) (some 69) rfl rfl (by kernel_rfl) (by kernel_rfl) (by kernel_rfl) (by kernel_rfl) (fun _ _ _ h => h) (Or.inl ⟨by kernel_rfl, by intro u hSu; go_simp⟩) hS ?_
      try simp only [Act.put, List.setIfInBounds_toArray, List.set_cons_zero, List.set_cons_succ]
      refine wpAnyE_takeD (L := 999) (i := 15) (v := .pointer (some ⟨B8, 1, none⟩)) (some 70) rfl rfl (by kernel_rfl) (by kernel_rfl) (by kernel_rfl) (by kernel_rfl) (fun _ _ _ h => h) (Or.inl ⟨by kernel_rfl, by intro u hSu; go_simp⟩) hS ?_
      try simp only [Act.put, List.setIfInBounds_toArray, List.set_cons_zero, List.set_cons_succ]
      refine wpAnyE_takeD (L := 999) (i := 16) (v := .int .i64 v) (some 71) rfl rfl (by kernel_rfl) (by kernel_rfl) (by kernel_rfl) (by kernel_rfl) (fun _ _ _ h => h) (Or.inl ⟨by kernel_rfl, by intro u hSu; have h0 := cell_below E1 hSu; go_simp⟩) hS ?_
      try simp only [Act.put, List.setIfInBounds_toArray, List.set_cons_zero, List.set_cons_succ]
      refine wpAnyE_takeD (L := 999) (i := 17) (v := .int .i64 v) (some 72) rfl rfl (by kernel_rfl) (by kernel_rfl) (by kernel_rfl) (by kernel_rfl) (fun _ _ _ h => h) (Or.inl ⟨by kernel_rfl, by intro u hSu; go_simp⟩) hS ?_
      try simp only [Act.put, List.setIfInBounds_toArray, List.set_cons_zero, List.set_cons_succ]
      refine wpAnyE_takeD (L := 999) (i := 18) (v := .bool false) (some 73) rfl rfl (by kernel_rfl) (by kernel_rfl) (by kernel_rfl) (by kernel_rfl) (fun _ _ _ h => h) (Or.inl ⟨by kernel_rfl, by intro u hSu; go_simp⟩) hS ?_
      try simp only [Act.put, List.setIfInBounds_toArray, List.set_cons_zero, List.set_cons_succ]
      refine wpAnyE_takeD (L := 999) (i := 19) (v := .bool false) (some 74) rfl rfl (by kernel_rfl) (by kernel_rfl) (by kernel_rfl) (by kernel_rfl) (fun _ _ _ h => h) (Or.inl ⟨by kernel_rfl, by intro u hSu; go_simp⟩) hS ?_
      try simp only [Act.put, List.setIfInBounds_toArray, List.set_cons_zero, List.set_cons_succ]
      refine wpAnyE_takeD (L := 999) (i := 20) (v := .bool false) (some 75) rfl rfl (by kernel_rfl) (by kernel_rfl) (by kernel_rfl) (by kernel_rfl) (fun _ _ _ h => h) (Or.inl ⟨by kernel_rfl, by intro u hSu; go_simp⟩) hS ?_
      try simp only [Act.put, List.setIfInBounds_toArray, List.set_cons_zero, List.set_cons_succ]
      refine wpAnyE_takeD (L := 999) (i := 21) (v := .bool false) (some 76) rfl rfl (by kernel_rfl) (by kernel_rfl) (by kernel_rfl) (by kernel_rfl) (fun _ _ _ h => h) (Or.inl ⟨by kernel_rfl, by intro u hSu; go_simp⟩) hS ?_
      try simp only [Act.put, List.setIfInBounds_toArray, List.set_cons_zero, List.set_cons_succ]
      refine wpAnyE_takeD (L := 999) (i := 22) (v := .pointer (some ⟨B9, 1, none⟩)) (some 77) rfl rfl (by kernel_rfl) (by kernel_rfl) (by kernel_rfl) (by kernel_rfl) (fun _ _ _ h => h) (Or.inl ⟨by kernel_rfl, by intro u hSu; go_simp⟩) hS ?_
      try simp only [Act.put, List.setIfInBounds_toArray, List.set_cons_zero, List.set_cons_succ]
      refine wpAnyE_takeD (L := 999) (i := 23) (v := .int .i64 o) (some 78) rfl rfl (by kernel_rfl) (by kernel_rfl) (by kernel_rfl) (by kernel_rfl) (fun _ _ _ h => h) (Or.inl ⟨by kernel_rfl, by intro u hSu; have h0 := cell_below G1 hSu; go_simp⟩) hS ?_
      try simp only [Act.put, List.setIfInBounds_toArray, List.set_cons_zero, List.set_cons_succ]
      refine wpAnyE_takeD (L := 999) (i := 24) (v := .pointer (some ⟨V, 1, none⟩)) (some 79) rfl rfl (by kernel_rfl) (by kernel_rfl) (by kernel_rfl) (by kernel_rfl) (fun _ _ _ h => h) (Or.inl ⟨by kernel_rfl, by intro u hSu; go_simp⟩) hS ?_
      try simp only [Act.put, List.setIfInBounds_toArray, List.set_cons_zero, List.set_cons_succ]
      refine wpAnyE_takeD (L := 999) (i := 25) (v := .int .i64 o) (some 80) rfl rfl (by kernel_rfl) (by kernel_rfl) (by kernel_rfl) (by kernel_rfl) (fun _ _ _ h => h) (Or.inl ⟨by kernel_rfl, by intro u hSu; have h0 := cell_below D1 hSu; go_simp⟩) hS ?_
      try simp only [Act.put, List.setIfInBounds_toArray, List.set_cons_zero, List.set_cons_succ]
      refine wpAnyE_takeD (L := 999) (i := 26) (v := .bool false) (some 81) rfl rfl (by kernel_rfl) (by kernel_rfl) (by kernel_rfl) (by kernel_rfl) (fun _ _ _ h => h) (Or.inl ⟨by kernel_rfl, by intro u hSu; go_simp⟩) hS ?_
      try simp only [Act.put, List.setIfInBounds_toArray, List.set_cons_zero, List.set_cons_succ]
      refine wpAnyE_takeD (L := 999) (i := 27) (v := .bool false) (some 82) rfl rfl (by kernel_rfl) (by kernel_rfl) (by kernel_rfl) (by kernel_rfl) (fun _ _ _ h => h) (Or.inl ⟨by kernel_rfl, by intro u hSu; go_simp⟩) hS ?_
      try simp only [Act.put, List.setIfInBounds_toArray, List.set_cons_zero, List.set_cons_succ]
      refine wpAnyE_takeD (L := 999) (i := 28) (v := .bool false) (some 83) rfl rfl (by kernel_rfl) (by kernel_rfl) (by kernel_rfl) (by kernel_rfl) (fun _ _ _ h => h) (Or.inl ⟨by kernel_rfl, by intro u hSu; go_simp⟩) hS ?_
      try simp only [Act.put, List.setIfInBounds_toArray, List.set_cons_zero, List.set_cons_succ]
      refine wpAnyE_takeD (L := 999) (i := 29) (v := .pointer (some ⟨B, 1, none⟩)) (some 84) rfl rfl (by kernel_rfl) (by kernel_rfl) (by kernel_rfl) (by kernel_rfl) (fun _ _ _ h => h) (Or.inl ⟨by kernel_rfl, by intro u hSu; go_simp⟩) hS ?_
      try simp only [Act.put, List.setIfInBounds_toArray, List.set_cons_zero, List.set_cons_succ]
      refine wpAnyE_takeD (L := 999) (i := 30) (v := .slice ra (m + 1) rc) (some 85) rfl rfl (by kernel_rfl) (by kernel_rfl) (by kernel_rfl) (by kernel_rfl) (fun _ _ _ h => h) (Or.inl ⟨by kernel_rfl, by intro u hSu; have h0 := cell_below A1 hSu; go_simp⟩) hS ?_
      try simp only [Act.put, List.setIfInBounds_toArray, List.set_cons_zero, List.set_cons_succ]
      refine wpAnyE_takeD (L := 999) (i := 31) (v := .agg #[.int .i64 x, .int .i64 o2]) (some 86) rfl rfl (by kernel_rfl) (by kernel_rfl) (by kernel_rfl) (by kernel_rfl) (fun _ _ _ h => h) (Or.inl ⟨by kernel_rfl, by intro u hSu; have h0 := cell_below J0 hSu; have h1 := cell_below J1 hSu; go_simp⟩) hS ?_
      try simp only [Act.put, List.setIfInBounds_toArray, List.set_cons_zero, List.set_cons_succ]
      refine wpAnyE_ready (rs := [32]) (by kernel_rfl) (by simp) ?_
      refine AllReadyE.cons rfl (fun K hK => ?_) AllReadyE.nil
      rw [if_pos (by kernel_rfl)]
      go_simp
      refine (HK4.out _ (HO.out.below hS)).mono ?_
      rintro e u1 ⟨rfl, hbu⟩
      refine hK.out _ _ (below_then hS hbu) (fun hS9 => ?_)
      try simp only [Act.put, List.setIfInBounds_toArray, List.set_cons_zero, List.set_cons_succ]
      clear hK K hS hbu
      have hS := hS9
      clear hS9
      refine wpAnyE_takeD (L := 999) (i := 33) (v := .bool false) (some 88) rfl rfl (by kernel_rfl) (by kernel_rfl) (by kernel_rfl) (by kernel_rfl) (fun _ _ _ h => h) (Or.inl ⟨by kernel_rfl, by intro u hSu; go_simp⟩) hS ?_
      try simp only [Act.put, List.setIfInBounds_toArray, List.set_cons_zero, List.set_cons_succ]
      refine wpAnyE_takeD (L := 999) (i := 34) (v := .bool false) (some 89) rfl rfl (by kernel_rfl) (by kernel_rfl) (by kernel_rfl) (by kernel_rfl) (fun _ _ _ h => h) (Or.inl ⟨by kernel_rfl, by intro u hSu; go_simp⟩) hS ?_
      try simp only [Act.put, List.setIfInBounds_toArray, List.set_cons_zero, List.set_cons_succ]
      refine wpAnyE_takeD (L := 999) (i := 35) (v := .bool false) (some 90) rfl rfl (by kernel_rfl) (by kernel_rfl) (by kernel_rfl) (by kernel_rfl) (fun _ _ _ h => h) (Or.inl ⟨by kernel_rfl, by intro u hSu; go_simp⟩) hS ?_
      try simp only [Act.put, List.setIfInBounds_toArray, List.set_cons_zero, List.set_cons_succ]
      refine wpAnyE_takeD (L := 999) (i := 36) (v := .pointer (some ⟨B, 1, none⟩)) (some 91) rfl rfl (by kernel_rfl) (by kernel_rfl) (by kernel_rfl) (by kernel_rfl) (fun _ _ _ h => h) (Or.inl ⟨by kernel_rfl, by intro u hSu; go_simp⟩) hS ?_
      try simp only [Act.put, List.setIfInBounds_toArray, List.set_cons_zero, List.set_cons_succ]
      refine wpAnyE_takeD (L := 999) (i := 37) (v := .slice ra (m + 1) rc) (some 92) rfl rfl (by kernel_rfl) (by kernel_rfl) (by kernel_rfl) (by kernel_rfl) (fun _ _ _ h => h) (Or.inl ⟨by kernel_rfl, by intro u hSu; have h0 := cell_below A1 hSu; go_simp⟩) hS ?_
      try simp only [Act.put, List.setIfInBounds_toArray, List.set_cons_zero, List.set_cons_succ]
      refine wpAnyE_takeD (L := 999) (i := 38) (v := .agg #[.int .i64 x, .int .i64 o2]) (some 93) rfl rfl (by kernel_rfl) (by kernel_rfl) (by kernel_rfl) (by kernel_rfl) (fun _ _ _ h => h) (Or.inl ⟨by kernel_rfl, by intro u hSu; have h0 := cell_below J0 hSu; have h1 := cell_below J1 hSu; go_simp⟩) hS ?_
      try simp only [Act.put, List.setIfInBounds_toArray, List.set_cons_zero, List.set_cons_succ]
      refine wpAnyE_takeD (L := 999) (i := 40) (v := .slice (some ⟨g, 0, none⟩) n c) (some 95) rfl rfl (by kernel_rfl) (by kernel_rfl) (by kernel_rfl) (by kernel_rfl) (fun _ _ _ h => h) (Or.inl ⟨by kernel_rfl, by intro u hSu; go_simp⟩) hS ?_
      try simp only [Act.put, List.setIfInBounds_toArray, List.set_cons_zero, List.set_cons_succ]
      refine wpAnyE_takeD (L := 999) (i := 41) (v := .agg #[.int .i64 x, .int .i64 o2]) (some 96) rfl rfl (by kernel_rfl) (by kernel_rfl) (by kernel_rfl) (by kernel_rfl) (fun _ _ _ h => h) (Or.inl ⟨by kernel_rfl, by intro u hSu; have h0 := cell_below J0 hSu; have h1 := cell_below J1 hSu; go_simp⟩) hS ?_
      try simp only [Act.put, List.setIfInBounds_toArray, List.set_cons_zero, List.set_cons_succ]
      refine wpAnyE_ready (rs := [39]) (by kernel_rfl) (by simp) ?_
      refine AllReadyE.cons rfl (fun K hK => ?_) AllReadyE.nil
      rw [if_pos (by kernel_rfl)]
      go_simp
      refine (HK5.out _ (HO.out.below hS)).mono ?_
      rintro e u1 ⟨rfl, hbu⟩
      refine hK.out _ _ (below_then hS hbu) (fun hS9 => ?_)
      try simp only [Act.put, List.setIfInBounds_toArray, List.set_cons_zero, List.set_cons_succ]
      clear hK K hS hbu
      have hS := hS9
      clear hS9
      refine wpAnyE_ready (rs := [42]) (by kernel_rfl) (by simp) ?_
      refine AllReadyE.cons rfl (fun K hK => ?_) AllReadyE.nil
      rw [if_pos (by kernel_rfl)]
      go_simp
      refine (HK6.out _ (HV.out.below hS)).mono ?_
      rintro e u1 ⟨rfl, hbu⟩
      refine hK.out _ _ (below_then hS hbu) (fun hS9 => ?_)
      try simp only [Act.put, List.setIfInBounds_toArray, List.set_cons_zero, List.set_cons_succ]
      clear hK K hS hbu
      have hS := hS9
      clear hS9
      refine wpAnyE_takeD (L := 999) (i := 43) (v := .bool false) (some 98) rfl rfl (by kernel_rfl) (by kernel_rfl) (by kernel_rfl) (by kernel_rfl) (fun _ _ _ h => h) (Or.inl ⟨by kernel_rfl, by intro u hSu; go_simp⟩) hS ?_
      try simp only [Act.put, List.setIfInBounds_toArray, List.set_cons_zero, List.set_cons_succ]
      refine wpAnyE_takeD (L := 999) (i := 44) (v := .bool false) (some 99) rfl rfl (by kernel_rfl) (by kernel_rfl) (by kernel_rfl) (by kernel_rfl) (fun _ _ _ h => h) (Or.inl ⟨by kernel_rfl, by intro u hSu; go_simp⟩) hS ?_
      try simp only [Act.put, List.setIfInBounds_toArray, List.set_cons_zero, List.set_cons_succ]
      refine wpAnyE_done (by kernel_rfl) ?_ _
      go_simp
      replace D0 := cell_below D0 hS
      replace D1 := cell_below D1 hS
      replace A0 := cell_below A0 hS
      replace A1 := cell_below A1 hS
      replace E0 := cell_below E0 hS
      replace E1 := cell_below E1 hS
      replace G1 := cell_below G1 hS
      replace J0 := cell_below J0 hS
      replace J1 := cell_below J1 hS
      replace HV : Hid (VersAt u1 (some ⟨g, 0, none⟩) n R) := HV.out.below hS
      replace HO : Hid (VersAt u1 ra (m + 1) Sx) := HO.out.below hS
      replace HB : Hid (Below w.heap.size w u1) := below_then HB.out hS
      clear hS
      go_upto_region 13 with fail
      have hcm := implCoC_any (m + 1) Sx ra rc HRC.out o (x + 1) u1 (by have := HM.out; omega) HO.out
      by_cases hCC : coC (m + 1) Sx o (x + 1) = 0
      · have hcom : Committed n R x o false v m := HPD.out.commit (by rw [HSX.out]; exact hCC)
        have hCN := hcom.hN
        rw [HSX.out] at hCN
        rw [hCC, hCN] at hcm
        have HK9 : Hid (∀ (ca : Option Addr) (tc : Nat), Hid (∀ u, VersAt u ca (m + 1) (coS Sx (x + 1)) → Calls Try.prog 10 #[.slice ca (m + 1) tc, .agg #[.int .i64 (x + 1), .int .i64 o2]] u fun e w' => e = .returned (.agg #[.int .i64 0, .int .i64 v]) ∧ Below u.heap.size u w') ∧ Hid (∀ u, VersAt u ca (m + 1) (coS Sx (x + 1)) → Calls Try.prog 10 #[.slice ca (m + 1) tc, .agg #[.int .i64 x, .int .i64 o2]] u fun e w' => e = .returned (.agg #[.int .i64 c2, .int .i64 v2]) ∧ Below u.heap.size u w') ∧ Hid (∀ u, VersAt u ca (m + 1) (coS Sx (x + 1)) → Calls Try.prog 11 #[.slice ca (m + 1) tc, .agg #[.int .i64 x, .int .i64 o2]] u fun e w' => e = .returned (.int .i64 9) ∧ Below u.heap.size u w') ∧ Hid (∀ u, VersAt u ca (m + 1) (coS Sx (x + 1)) → Calls Try.prog 9 #[.slice ca (m + 1) tc] u fun e w' => e = .returned (.int .i64 0) ∧ Below u.heap.size u w')) := fun ca tc => by
          have e1 := hcom.late o2 (by have := HO2.out; omega) (by have := HO2.out; omega)
          have e2 := hcom.ot o2 HO2.out.2.2
          have e3 := hcom.mw o2 (by have := HO2.out; omega) (by have := HO2.out; omega)
          have e4 := hcom.f
          rw [HSX.out] at e1 e2 e3 e4
          have hm := HM.out
          refine ⟨fun u h => ?_, fun u h => ?_, fun u h => ?_, fun u h => ?_⟩
          · have h9 := implSe_any (m + 1) (coS Sx (x + 1)) ca tc (x + 1) o2 u (by omega) h
            rw [e1.1, e1.2] at h9
            exact h9
          · have h9 := implSe_any (m + 1) (coS Sx (x + 1)) ca tc x o2 u (by omega) h
            rw [e2.1, e2.2, HCV.out.1, HCV.out.2] at h9
            exact h9
          · have h9 := implMw_any (m + 1) (coS Sx (x + 1)) ca tc x o2 u (by omega) h
            rw [e3] at h9
            exact h9
          · have h9 := implChF_any (m + 1) (coS Sx (x + 1)) ca tc u (by omega) h
            rw [e4] at h9
            exact h9
        have HCM : Hid (Calls Try.prog 16 #[.slice ra (m + 1) rc, .int .i64 o, .int .i64 (x + 1)] u1 (CRes 0 (m + 1) (coS Sx (x + 1)) u1)) := hcm
        clear hcm hcom hCN hCC
        go_wp2_with fail
        refine HCM.out.mono ?_
        rintro e w7 ⟨ca, tc, rfl, hb, ho⟩
        replace D0 := cell_below D0 hb
        replace D1 := cell_below D1 hb
        replace A0 := cell_below A0 hb
        replace A1 := cell_below A1 hb
        replace E0 := cell_below E0 hb
        replace E1 := cell_below E1 hb
        replace G1 := cell_below G1 hb
        replace J0 := cell_below J0 hb
        replace J1 := cell_below J1 hb
        replace HV : Hid (VersAt w7 (some ⟨g, 0, none⟩) n R) := HV.out.below hb
        replace HO : Hid (VersAt w7 ra (m + 1) Sx) := HO.out.below hb
        replace HB : Hid (Below w.heap.size w w7) := below_then HB.out hb
        have HT : Hid (VersAt w7 ca (m + 1) (coS Sx (x + 1))) := ho.at
        clear ho
        clear hb HCM
        go_upto_region 14 with fail
        obtain ⟨W8, hW⟩ : ∃ y, y = w7.alloc (.cells #[.int .i64 0, .slice ca (m + 1) tc] 28) := ⟨_, rfl⟩
        have hb : Below w7.heap.size w7 W8 := by rw [hW]; exact below_new _ _
        replace D0 := cell_below D0 hb
        replace D1 := cell_below D1 hb
        replace A0 := cell_below A0 hb
        replace A1 := cell_below A1 hb
        replace E0 := cell_below E0 hb
        replace E1 := cell_below E1 hb
        replace G1 := cell_below G1 hb
        replace J0 := cell_below J0 hb
        replace J1 := cell_below J1 hb
        replace HV : Hid (VersAt W8 (some ⟨g, 0, none⟩) n R) := HV.out.below hb
        replace HO : Hid (VersAt W8 ra (m + 1) Sx) := HO.out.below hb
        replace HT : Hid (VersAt W8 ca (m + 1) (coS Sx (x + 1))) := HT.out.below hb
        replace HB : Hid (Below w.heap.size w W8) := below_then HB.out hb
        have L0 : W8.cell? ⟨w7.heap.size, 0, none⟩ = some (.int .i64 0) := by rw [hW]; simp [go_sem]
        have L1 : W8.cell? ⟨w7.heap.size, 1, none⟩ = some (.slice ca (m + 1) tc) := by rw [hW]; simp [go_sem]
        try rw [← hW]
        clear hW hb
        generalize w7.heap.size = B12 at *
        obtain ⟨HK9a, HK9b, HK9c, HK9d⟩ := HK9.out ca tc
        go_wp2_with fail
        refine (HK9a.out _ HT.out).mono ?_
        rintro e w9 ⟨rfl, hb⟩
        replace D0 := cell_below D0 hb
        replace D1 := cell_below D1 hb
        replace A0 := cell_below A0 hb
        replace A1 := cell_below A1 hb
        replace E0 := cell_below E0 hb
        replace E1 := cell_below E1 hb
        replace G1 := cell_below G1 hb
        replace J0 := cell_below J0 hb
        replace J1 := cell_below J1 hb
        replace L0 := cell_below L0 hb
        replace L1 := cell_below L1 hb
        replace HV : Hid (VersAt w9 (some ⟨g, 0, none⟩) n R) := HV.out.below hb
        replace HO : Hid (VersAt w9 ra (m + 1) Sx) := HO.out.below hb
        replace HT : Hid (VersAt w9 ca (m + 1) (coS Sx (x + 1))) := HT.out.below hb
        replace HB : Hid (Below w.heap.size w w9) := below_then HB.out hb
        clear hb
        go_upto_region 17 with fail
        obtain ⟨W9, hW⟩ : ∃ y, y = w9.alloc (.cells #[.int .i64 0, .int .i64 v] 34) := ⟨_, rfl⟩
        have hb : Below w9.heap.size w9 W9 := by rw [hW]; exact below_new _ _
        replace D0 := cell_below D0 hb
        replace D1 := cell_below D1 hb
        replace A0 := cell_below A0 hb
        replace A1 := cell_below A1 hb
        replace E0 := cell_below E0 hb
        replace E1 := cell_below E1 hb
        replace G1 := cell_below G1 hb
        replace J0 := cell_below J0 hb
        replace J1 := cell_below J1 hb
        replace L0 := cell_below L0 hb
        replace L1 := cell_below L1 hb
        replace HV : Hid (VersAt W9 (some ⟨g, 0, none⟩) n R) := HV.out.below hb
        replace HO : Hid (VersAt W9 ra (m + 1) Sx) := HO.out.below hb
        replace HT : Hid (VersAt W9 ca (m + 1) (coS Sx (x + 1))) := HT.out.below hb
        replace HB : Hid (Below w.heap.size w W9) := below_then HB.out hb
        have N0 : W9.cell? ⟨w9.heap.size, 0, none⟩ = some (.int .i64 0) := by rw [hW]; simp [go_sem]
        have N1 : W9.cell? ⟨w9.heap.size, 1, none⟩ = some (.int .i64 v) := by rw [hW]; simp [go_sem]
        try rw [← hW]
        clear hW hb
        generalize w9.heap.size = B13 at *
        go_wp2_with fail
        refine (HK8.out _ HO.out).mono ?_
        rintro e wa ⟨ba, bc, rfl, hb, ho⟩
        replace D0 := cell_below D0 hb
        replace D1 := cell_below D1 hb
        replace A0 := cell_below A0 hb
        replace A1 := cell_below A1 hb
        replace E0 := cell_below E0 hb
        replace E1 := cell_below E1 hb
        replace G1 := cell_below G1 hb
        replace J0 := cell_below J0 hb
        replace J1 := cell_below J1 hb
        replace L0 := cell_below L0 hb
        replace L1 := cell_below L1 hb
        replace N0 := cell_below N0 hb
        replace N1 := cell_below N1 hb
        replace HV : Hid (VersAt wa (some ⟨g, 0, none⟩) n R) := HV.out.below hb
        replace HO : Hid (VersAt wa ra (m + 1) Sx) := HO.out.below hb
        replace HT : Hid (VersAt wa ca (m + 1) (coS Sx (x + 1))) := HT.out.below hb
        replace HB : Hid (Below w.heap.size w wa) := below_then HB.out hb
        have HQ : Hid (VersAt wa ba m (fun i => Sx (i + 1))) := ho.at
        clear ho hb
        go_upto_region 18 with fail
        obtain ⟨WB, hW⟩ : ∃ y, y = wa.alloc (.cells #[.int .i64 0, .slice ba m bc] 28) := ⟨_, rfl⟩
        have hb : Below wa.heap.size wa WB := by rw [hW]; exact below_new _ _
        replace D0 := cell_below D0 hb
        replace D1 := cell_below D1 hb
        replace A0 := cell_below A0 hb
        replace A1 := cell_below A1 hb
        replace E0 := cell_below E0 hb
        replace E1 := cell_below E1 hb
        replace G1 := cell_below G1 hb
        replace J0 := cell_below J0 hb
        replace J1 := cell_below J1 hb
        replace L0 := cell_below L0 hb
        replace L1 := cell_below L1 hb
        replace N0 := cell_below N0 hb
        replace N1 := cell_below N1 hb
        replace HV : Hid (VersAt WB (some ⟨g, 0, none⟩) n R) := HV.out.below hb
        replace HO : Hid (VersAt WB ra (m + 1) Sx) := HO.out.below hb
        replace HT : Hid (VersAt WB ca (m + 1) (coS Sx (x + 1))) := HT.out.below hb
        replace HQ : Hid (VersAt WB ba m (fun i => Sx (i + 1))) := HQ.out.below hb
        replace HB : Hid (Below w.heap.size w WB) := below_then HB.out hb
        have M0 : WB.cell? ⟨wa.heap.size, 0, none⟩ = some (.int .i64 0) := by rw [hW]; simp [go_sem]
        have M1 : WB.cell? ⟨wa.heap.size, 1, none⟩ = some (.slice ba m bc) := by rw [hW]; simp [go_sem]
        try rw [← hW]
        clear hW hb
        generalize wa.heap.size = B14 at *
        replace HK10 := HK10.out ba bc
        refine wp_region_E 999 (S := fun u => Below WB.heap.size WB u) (by kernel_rfl) ((Below.refl _ _).drew) (fun hS => ?_)
        obtain ⟨u0, hu0⟩ : ∃ y, y = WB.drew := ⟨_, rfl⟩
        rw [← hu0] at hS ⊢
        clear hu0
        refine wpAnyE_takeD (L := 999) (i := 0) (v := .pointer (some ⟨B12, 1, none⟩)) (some 134) rfl rfl (by kernel_rfl) (by kernel_rfl) (by kernel_rfl) (by kernel_rfl) (fun _ _ _ h => h) (Or.inl ⟨by kernel_rfl, by intro u hSu; go_simp⟩) hS ?_
        try simp only [Act.put, List.setIfInBounds_toArray, List.set_cons_zero, List.set_cons_succ]
        refine wpAnyE_takeD (L := 999) (i := 1) (v := .slice ca (m + 1) tc) (some 135) rfl rfl (by kernel_rfl) (by kernel_rfl) (by kernel_rfl) (by kernel_rfl) (fun _ _ _ h => h) (Or.inl ⟨by kernel_rfl, by intro u hSu; have h0 := cell_below L1 hSu; go_simp⟩) hS ?_
        try simp only [Act.put, List.setIfInBounds_toArray, List.set_cons_zero, List.set_cons_succ]
        refine wpAnyE_takeD (L := 999) (i := 2) (v := .agg #[.int .i64 x, .int .i64 o2]) (some 136) rfl rfl (by kernel_rfl) (by kernel_rfl) (by kernel_rfl) (by kernel_rfl) (fun _ _ _ h => h) (Or.inl ⟨by kernel_rfl, by intro u hSu; have h0 := cell_below J0 hSu; have h1 := cell_below J1 hSu; go_simp⟩) hS ?_
        try simp only [Act.put, List.setIfInBounds_toArray, List.set_cons_zero, List.set_cons_succ]
        refine wpAnyE_takeD (L := 999) (i := 4) (v := .slice (some ⟨g, 0, none⟩) n c) (some 138) rfl rfl (by kernel_rfl) (by kernel_rfl) (by kernel_rfl) (by kernel_rfl) (fun _ _ _ h => h) (Or.inl ⟨by kernel_rfl, by intro u hSu; go_simp⟩) hS ?_
        try simp only [Act.put, List.setIfInBounds_toArray, List.set_cons_zero, List.set_cons_succ]
        refine wpAnyE_takeD (L := 999) (i := 5) (v := .agg #[.int .i64 x, .int .i64 o2]) (some 139) rfl rfl (by kernel_rfl) (by kernel_rfl) (by kernel_rfl) (by kernel_rfl) (fun _ _ _ h => h) (Or.inl ⟨by kernel_rfl, by intro u hSu; have h0 := cell_below J0 hSu; have h1 := cell_below J1 hSu; go_simp⟩) hS ?_
        try simp only [Act.put, List.setIfInBounds_toArray, List.set_cons_zero, List.set_cons_succ]
        refine wpAnyE_ready (rs := [3]) (by kernel_rfl) (by simp) ?_
        refine AllReadyE.cons rfl (fun K hK => ?_) AllReadyE.nil
        go_simp
        refine (HK9b.out _ (HT.out.below hS)).mono ?_
        rintro e u1 ⟨rfl, hbu⟩
        refine hK.out _ _ (below_then hS hbu) (fun hS9 => ?_)
        try simp only [Act.put, List.setIfInBounds_toArray, List.set_cons_zero, List.set_cons_succ]
        clear hK K hS hbu
        have hS := hS9
        clear hS9
        refine wpAnyE_ready (rs := [6]) (by kernel_rfl) (by simp) ?_
        refine AllReadyE.cons rfl (fun K hK => ?_) AllReadyE.nil
        go_simp
        refine (HK6.out _ (HV.out.below hS)).mono ?_
        rintro e u1 ⟨rfl, hbu⟩
        refine hK.out _ _ (below_then hS hbu) (fun hS9 => ?_)
        try simp only [Act.put, List.setIfInBounds_toArray, List.set_cons_zero, List.set_cons_succ]
        clear hK K hS hbu
        have hS := hS9
        clear hS9
        refine wpAnyE_takeD (L := 999) (i := 7) (v := .bool true) (some 141) rfl rfl (by kernel_rfl) (by kernel_rfl) (by kernel_rfl) (by kernel_rfl) (fun _ _ _ h => h) (Or.inl ⟨by kernel_rfl, by intro u hSu; go_simp⟩) hS ?_
        try simp only [Act.put, List.setIfInBounds_toArray, List.set_cons_zero, List.set_cons_succ]
        refine wpAnyE_takeD (L := 999) (i := 8) (v := .bool true) (some 142) rfl rfl (by kernel_rfl) (by kernel_rfl) (by kernel_rfl) (by kernel_rfl) (fun _ _ _ h => h) (Or.inl ⟨by kernel_rfl, by intro u hSu; go_simp⟩) hS ?_
        try simp only [Act.put, List.setIfInBounds_toArray, List.set_cons_zero, List.set_cons_succ]
        refine wpAnyE_takeD (L := 999) (i := 9) (v := .bool false) (some 143) rfl rfl (by kernel_rfl) (by kernel_rfl) (by kernel_rfl) (by kernel_rfl) (fun _ _ _ h => h) (Or.inl ⟨by kernel_rfl, by intro u hSu; go_simp⟩) hS ?_
        try simp only [Act.put, List.setIfInBounds_toArray, List.set_cons_zero, List.set_cons_succ]
        refine wpAnyE_takeD (L := 999) (i := 10) (v := .pointer (some ⟨B13, 0, none⟩)) (some 144) rfl rfl (by kernel_rfl) (by kernel_rfl) (by kernel_rfl) (by kernel_rfl) (fun _ _ _ h => h) (Or.inl ⟨by kernel_rfl, by intro u hSu; go_simp⟩) hS ?_
        try simp only [Act.put, List.setIfInBounds_toArray, List.set_cons_zero, List.set_cons_succ]
        refine wpAnyE_takeD (L := 999) (i := 11) (v := .int .i64 0) (some 145) rfl rfl (by kernel_rfl) (by kernel_rfl) (by kernel_rfl) (by kernel_rfl) (fun _ _ _ h => h) (Or.inl ⟨by kernel_rfl, by intro u hSu; have h0 := cell_below N0 hSu; go_simp⟩) hS ?_
        try simp only [Act.put, List.setIfInBounds_toArray, List.set_cons_zero, List.set_cons_succ]
        refine wpAnyE_takeD (L := 999) (i := 12) (v := .bool false) (some 146) rfl rfl (by kernel_rfl) (by kernel_rfl) (by kernel_rfl) (by kernel_rfl) (fun _ _ _ h => h) (Or.inl ⟨by kernel_rfl, by intro u hSu; go_simp⟩) hS ?_
        try simp only [Act.put, List.setIfInBounds_toArray, List.set_cons_zero, List.set_cons_succ]
        refine wpAnyE_takeD (L := 999) (i := 13) (v := .bool true) (some 147) rfl rfl (by kernel_rfl) (by kernel_rfl) (by kernel_rfl) (by kernel_rfl) (fun _ _ _ h => h) (Or.inl ⟨by kernel_rfl, by intro u hSu; go_simp⟩) hS ?_
        try simp only [Act.put, List.setIfInBounds_toArray, List.set_cons_zero, List.set_cons_succ]
        refine wpAnyE_takeD (L := 999) (i := 14) (v := .bool true) (some 148) rfl rfl (by kernel_rfl) (by kernel_rfl) (by kernel_rfl) (by kernel_rfl) (fun _ _ _ h => h) (Or.inl ⟨by kernel_rfl, by intro u hSu; go_simp⟩) hS ?_
        try simp only [Act.put, List.setIfInBounds_toArray, List.set_cons_zero, List.set_cons_succ]
        refine wpAnyE_takeD (L := 999) (i := 15) (v := .bool true) (some 149) rfl rfl (by kernel_rfl) (by kernel_rfl) (by kernel_rfl) (by kernel_rfl) (fun _ _ _ h => h) (Or.inl ⟨by kernel_rfl, by intro u hSu; go_simp⟩) hS ?_
        try simp only [Act.put, List.setIfInBounds_toArray, List.set_cons_zero, List.set_cons_succ]
        refine wpAnyE_takeD (L := 999) (i := 16) (v := .bool false) (some 150) rfl rfl (by kernel_rfl) (by kernel_rfl) (by kernel_rfl) (by kernel_rfl) (fun _ _ _ h => h) (Or.inl ⟨by kernel_rfl, by intro u hSu; go_simp⟩) hS ?_
        try simp only [Act.put, List.setIfInBounds_toArray, List.set_cons_zero, List.set_cons_succ]
        refine wpAnyE_takeD (L := 999) (i := 17) (v := .bool false) (some 151) rfl rfl (by kernel_rfl) (by kernel_rfl) (by kernel_rfl) (by kernel_rfl) (fun _ _ _ h => h) (Or.inl ⟨by kernel_rfl, by intro u hSu; go_simp⟩) hS ?_
        try simp only [Act.put, List.setIfInBounds_toArray, List.set_cons_zero, List.set_cons_succ]
        refine wpAnyE_takeD (L := 999) (i := 18) (v := .pointer (some ⟨B13, 1, none⟩)) (some 152) rfl rfl (by kernel_rfl) (by kernel_rfl) (by kernel_rfl) (by kernel_rfl) (fun _ _ _ h => h) (Or.inl ⟨by kernel_rfl, by intro u hSu; go_simp⟩) hS ?_
        try simp only [Act.put, List.setIfInBounds_toArray, List.set_cons_zero, List.set_cons_succ]
        refine wpAnyE_takeD (L := 999) (i := 19) (v := .int .i64 v) (some 153) rfl rfl (by kernel_rfl) (by kernel_rfl) (by kernel_rfl) (by kernel_rfl) (fun _ _ _ h => h) (Or.inl ⟨by kernel_rfl, by intro u hSu; have h0 := cell_below N1 hSu; go_simp⟩) hS ?_
        try simp only [Act.put, List.setIfInBounds_toArray, List.set_cons_zero, List.set_cons_succ]
        refine wpAnyE_takeD (L := 999) (i := 20) (v := .int .i64 v) (some 154) rfl rfl (by kernel_rfl) (by kernel_rfl) (by kernel_rfl) (by kernel_rfl) (fun _ _ _ h => h) (Or.inl ⟨by kernel_rfl, by intro u hSu; go_simp⟩) hS ?_
        try simp only [Act.put, List.setIfInBounds_toArray, List.set_cons_zero, List.set_cons_succ]
        refine wpAnyE_takeD (L := 999) (i := 21) (v := .bool true) (some 155) rfl rfl (by kernel_rfl) (by kernel_rfl) (by kernel_rfl) (by kernel_rfl) (fun _ _ _ h => h) (Or.inl ⟨by kernel_rfl, by intro u hSu; go_simp⟩) hS ?_
        try simp only [Act.put, List.setIfInBounds_toArray, List.set_cons_zero, List.set_cons_succ]
        refine wpAnyE_takeD (L := 999) (i := 22) (v := .bool true) (some 156) rfl rfl (by kernel_rfl) (by kernel_rfl) (by kernel_rfl) (by kernel_rfl) (fun _ _ _ h => h) (Or.inl ⟨by kernel_rfl, by intro u hSu; go_simp⟩) hS ?_
        try simp only [Act.put, List.setIfInBounds_toArray, List.set_cons_zero, List.set_cons_succ]
        refine wpAnyE_takeD (L := 999) (i := 23) (v := .bool true) (some 157) rfl rfl (by kernel_rfl) (by kernel_rfl) (by kernel_rfl) (by kernel_rfl) (fun _ _ _ h => h) (Or.inl ⟨by kernel_rfl, by intro u hSu; go_simp⟩) hS ?_
        try simp only [Act.put, List.setIfInBounds_toArray, List.set_cons_zero, List.set_cons_succ]
        refine wpAnyE_takeD (L := 999) (i := 24) (v := .bool true) (some 158) rfl rfl (by kernel_rfl) (by kernel_rfl) (by kernel_rfl) (by kernel_rfl) (fun _ _ _ h => h) (Or.inl ⟨by kernel_rfl, by intro u hSu; go_simp⟩) hS ?_
        try simp only [Act.put, List.setIfInBounds_toArray, List.set_cons_zero, List.set_cons_succ]
        refine wpAnyE_takeD (L := 999) (i := 25) (v := .pointer (some ⟨B12, 1, none⟩)) (some 159) rfl rfl (by kernel_rfl) (by kernel_rfl) (by kernel_rfl) (by kernel_rfl) (fun _ _ _ h => h) (Or.inl ⟨by kernel_rfl, by intro u hSu; go_simp⟩) hS ?_
        try simp only [Act.put, List.setIfInBounds_toArray, List.set_cons_zero, List.set_cons_succ]
        refine wpAnyE_takeD (L := 999) (i := 26) (v := .slice ca (m + 1) tc) (some 160) rfl rfl (by kernel_rfl) (by kernel_rfl) (by kernel_rfl) (by kernel_rfl) (fun _ _ _ h => h) (Or.inl ⟨by kernel_rfl, by intro u hSu; have h0 := cell_below L1 hSu; go_simp⟩) hS ?_
        try simp only [Act.put, List.setIfInBounds_toArray, List.set_cons_zero, List.set_cons_succ]
        refine wpAnyE_takeD (L := 999) (i := 27) (v := .agg #[.int .i64 x, .int .i64 o2]) (some 161) rfl rfl (by kernel_rfl) (by kernel_rfl) (by kernel_rfl) (by kernel_rfl) (fun _ _ _ h => h) (Or.inl ⟨by kernel_rfl, by intro u hSu; have h0 := cell_below J0 hSu; have h1 := cell_below J1 hSu; go_simp⟩) hS ?_
        try simp only [Act.put, List.setIfInBounds_toArray, List.set_cons_zero, List.set_cons_succ]
        refine wpAnyE_ready (rs := [28]) (by kernel_rfl) (by simp) ?_
        refine AllReadyE.cons rfl (fun K hK => ?_) AllReadyE.nil
        rw [if_pos (by kernel_rfl)]
        go_simp
        refine (HK9c.out _ (HT.out.below hS)).mono ?_
        rintro e u1 ⟨rfl, hbu⟩
        refine hK.out _ _ (below_then hS hbu) (fun hS9 => ?_)
        try simp only [Act.put, List.setIfInBounds_toArray, List.set_cons_zero, List.set_cons_succ]
        clear hK K hS hbu
        have hS := hS9
        clear hS9
        refine wpAnyE_takeD (L := 999) (i := 29) (v := .bool true) (some 163) rfl rfl (by kernel_rfl) (by kernel_rfl) (by kernel_rfl) (by kernel_rfl) (fun _ _ _ h => h) (Or.inl ⟨by kernel_rfl, by intro u hSu; go_simp⟩) hS ?_
        try simp only [Act.put, List.setIfInBounds_toArray, List.set_cons_zero, List.set_cons_succ]
        refine wpAnyE_takeD (L := 999) (i := 30) (v := .bool true) (some 164) rfl rfl (by kernel_rfl) (by kernel_rfl) (by kernel_rfl) (by kernel_rfl) (fun _ _ _ h => h) (Or.inl ⟨by kernel_rfl, by intro u hSu; go_simp⟩) hS ?_
        try simp only [Act.put, List.setIfInBounds_toArray, List.set_cons_zero, List.set_cons_succ]
        refine wpAnyE_takeD (L := 999) (i := 31) (v := .bool true) (some 165) rfl rfl (by kernel_rfl) (by kernel_rfl) (by kernel_rfl) (by kernel_rfl) (fun _ _ _ h => h) (Or.inl ⟨by kernel_rfl, by intro u hSu; go_simp⟩) hS ?_
        try simp only [Act.put, List.setIfInBounds_toArray, List.set_cons_zero, List.set_cons_succ]
        refine wpAnyE_takeD (L := 999) (i := 32) (v := .pointer (some ⟨B12, 1, none⟩)) (some 166) rfl rfl (by kernel_rfl) (by kernel_rfl) (by kernel_rfl) (by kernel_rfl) (fun _ _ _ h => h) (Or.inl ⟨by kernel_rfl, by intro u hSu; go_simp⟩) hS ?_
        try simp only [Act.put, List.setIfInBounds_toArray, List.set_cons_zero, List.set_cons_succ]
        refine wpAnyE_takeD (L := 999) (i := 33) (v := .slice ca (m + 1) tc) (some 167) rfl rfl (by kernel_rfl) (by kernel_rfl) (by kernel_rfl) (by kernel_rfl) (fun _ _ _ h => h) (Or.inl ⟨by kernel_rfl, by intro u hSu; have h0 := cell_below L1 hSu; go_simp⟩) hS ?_
        try simp only [Act.put, List.setIfInBounds_toArray, List.set_cons_zero, List.set_cons_succ]
        refine wpAnyE_ready (rs := [34]) (by kernel_rfl) (by simp) ?_
        refine AllReadyE.cons rfl (fun K hK => ?_) AllReadyE.nil
        rw [if_pos (by kernel_rfl)]
        go_simp
        refine (HK9d.out _ (HT.out.below hS)).mono ?_
        rintro e u1 ⟨rfl, hbu⟩
        refine hK.out _ _ (below_then hS hbu) (fun hS9 => ?_)
        try simp only [Act.put, List.setIfInBounds_toArray, List.set_cons_zero, List.set_cons_succ]
        clear hK K hS hbu
        have hS := hS9
        clear hS9
        refine wpAnyE_takeD (L := 999) (i := 35) (v := .bool true) (some 169) rfl rfl (by kernel_rfl) (by kernel_rfl) (by kernel_rfl) (by kernel_rfl) (fun _ _ _ h => h) (Or.inl ⟨by kernel_rfl, by intro u hSu; go_simp⟩) hS ?_
        try simp only [Act.put, List.setIfInBounds_toArray, List.set_cons_zero, List.set_cons_succ]
        refine wpAnyE_takeD (L := 999) (i := 36) (v := .bool true) (some 170) rfl rfl (by kernel_rfl) (by kernel_rfl) (by kernel_rfl) (by kernel_rfl) (fun _ _ _ h => h) (Or.inl ⟨by kernel_rfl, by intro u hSu; go_simp⟩) hS ?_
        try simp only [Act.put, List.setIfInBounds_toArray, List.set_cons_zero, List.set_cons_succ]
        refine wpAnyE_takeD (L := 999) (i := 37) (v := .bool true) (some 171) rfl rfl (by kernel_rfl) (by kernel_rfl) (by kernel_rfl) (by kernel_rfl) (fun _ _ _ h => h) (Or.inl ⟨by kernel_rfl, by intro u hSu; go_simp⟩) hS ?_
        try simp only [Act.put, List.setIfInBounds_toArray, List.set_cons_zero, List.set_cons_succ]
        refine wpAnyE_takeD (L := 999) (i := 38) (v := .pointer (some ⟨B14, 0, none⟩)) (some 172) rfl rfl (by kernel_rfl) (by kernel_rfl) (by kernel_rfl) (by kernel_rfl) (fun _ _ _ h => h) (Or.inl ⟨by kernel_rfl, by intro u hSu; go_simp⟩) hS ?_
        try simp only [Act.put, List.setIfInBounds_toArray, List.set_cons_zero, List.set_cons_succ]
        refine wpAnyE_takeD (L := 999) (i := 39) (v := .int .i64 0) (some 173) rfl rfl (by kernel_rfl) (by kernel_rfl) (by kernel_rfl) (by kernel_rfl) (fun _ _ _ h => h) (Or.inl ⟨by kernel_rfl, by intro u hSu; have h0 := cell_below M0 hSu; go_simp⟩) hS ?_
        try simp only [Act.put, List.setIfInBounds_toArray, List.set_cons_zero, List.set_cons_succ]
        refine wpAnyE_takeD (L := 999) (i := 40) (v := .bool true) (some 174) rfl rfl (by kernel_rfl) (by kernel_rfl) (by kernel_rfl) (by kernel_rfl) (fun _ _ _ h => h) (Or.inl ⟨by kernel_rfl, by intro u hSu; go_simp⟩) hS ?_
        try simp only [Act.put, List.setIfInBounds_toArray, List.set_cons_zero, List.set_cons_succ]
        refine wpAnyE_takeD (L := 999) (i := 41) (v := .bool true) (some 175) rfl rfl (by kernel_rfl) (by kernel_rfl) (by kernel_rfl) (by kernel_rfl) (fun _ _ _ h => h) (Or.inl ⟨by kernel_rfl, by intro u hSu; go_simp⟩) hS ?_
        try simp only [Act.put, List.setIfInBounds_toArray, List.set_cons_zero, List.set_cons_succ]
        refine wpAnyE_takeD (L := 999) (i := 42) (v := .bool true) (some 176) rfl rfl (by kernel_rfl) (by kernel_rfl) (by kernel_rfl) (by kernel_rfl) (fun _ _ _ h => h) (Or.inl ⟨by kernel_rfl, by intro u hSu; go_simp⟩) hS ?_
        try simp only [Act.put, List.setIfInBounds_toArray, List.set_cons_zero, List.set_cons_succ]
        refine wpAnyE_takeD (L := 999) (i := 43) (v := .pointer (some ⟨B14, 1, none⟩)) (some 177) rfl rfl (by kernel_rfl) (by kernel_rfl) (by kernel_rfl) (by kernel_rfl) (fun _ _ _ h => h) (Or.inl ⟨by kernel_rfl, by intro u hSu; go_simp⟩) hS ?_
        try simp only [Act.put, List.setIfInBounds_toArray, List.set_cons_zero, List.set_cons_succ]
        refine wpAnyE_takeD (L := 999) (i := 44) (v := .slice ba m bc) (some 178) rfl rfl (by kernel_rfl) (by kernel_rfl) (by kernel_rfl) (by kernel_rfl) (fun _ _ _ h => h) (Or.inl ⟨by kernel_rfl, by intro u hSu; have h0 := cell_below M1 hSu; go_simp⟩) hS ?_
        try simp only [Act.put, List.setIfInBounds_toArray, List.set_cons_zero, List.set_cons_succ]
        refine wpAnyE_takeD (L := 999) (i := 45) (v := .agg #[.int .i64 x, .int .i64 o2]) (some 179) rfl rfl (by kernel_rfl) (by kernel_rfl) (by kernel_rfl) (by kernel_rfl) (fun _ _ _ h => h) (Or.inl ⟨by kernel_rfl, by intro u hSu; have h0 := cell_below J0 hSu; have h1 := cell_below J1 hSu; go_simp⟩) hS ?_
        try simp only [Act.put, List.setIfInBounds_toArray, List.set_cons_zero, List.set_cons_succ]
        refine wpAnyE_takeD (L := 999) (i := 47) (v := .slice (some ⟨g, 0, none⟩) n c) (some 181) rfl rfl (by kernel_rfl) (by kernel_rfl) (by kernel_rfl) (by kernel_rfl) (fun _ _ _ h => h) (Or.inl ⟨by kernel_rfl, by intro u hSu; go_simp⟩) hS ?_
        try simp only [Act.put, List.setIfInBounds_toArray, List.set_cons_zero, List.set_cons_succ]
        refine wpAnyE_takeD (L := 999) (i := 48) (v := .agg #[.int .i64 x, .int .i64 o2]) (some 182) rfl rfl (by kernel_rfl) (by kernel_rfl) (by kernel_rfl) (by kernel_rfl) (fun _ _ _ h => h) (Or.inl ⟨by kernel_rfl, by intro u hSu; have h0 := cell_below J0 hSu; have h1 := cell_below J1 hSu; go_simp⟩) hS ?_
        try simp only [Act.put, List.setIfInBounds_toArray, List.set_cons_zero, List.set_cons_succ]
        refine wpAnyE_ready (rs := [46]) (by kernel_rfl) (by simp) ?_
        refine AllReadyE.cons rfl (fun K hK => ?_) AllReadyE.nil
        rw [if_pos (by kernel_rfl)]
        go_simp
        refine (HK10.out _ (HQ.out.below hS)).mono ?_
        rintro e u1 ⟨rfl, hbu⟩
        refine hK.out _ _ (below_then hS hbu) (fun hS9 => ?_)
        try simp only [Act.put, List.setIfInBounds_toArray, List.set_cons_zero, List.set_cons_succ]
        clear hK K hS hbu
        have hS := hS9
        clear hS9
        refine wpAnyE_ready (rs := [49]) (by kernel_rfl) (by simp) ?_
        refine AllReadyE.cons rfl (fun K hK => ?_) AllReadyE.nil
        rw [if_pos (by kernel_rfl)]
        go_simp
        refine (HK6.out _ (HV.out.below hS)).mono ?_
        rintro e u1 ⟨rfl, hbu⟩
        refine hK.out _ _ (below_then hS hbu) (fun hS9 => ?_)
        try simp only [Act.put, List.setIfInBounds_toArray, List.set_cons_zero, List.set_cons_succ]
        clear hK K hS hbu
        have hS := hS9
        clear hS9
        refine wpAnyE_takeD (L := 999) (i := 50) (v := .bool true) (some 184) rfl rfl (by kernel_rfl) (by kernel_rfl) (by kernel_rfl) (by kernel_rfl) (fun _ _ _ h => h) (Or.inl ⟨by kernel_rfl, by intro u hSu; go_simp⟩) hS ?_
        try simp only [Act.put, List.setIfInBounds_toArray, List.set_cons_zero, List.set_cons_succ]
        refine wpAnyE_takeD (L := 999) (i := 51) (v := .bool true) (some 185) rfl rfl (by kernel_rfl) (by kernel_rfl) (by kernel_rfl) (by kernel_rfl) (fun _ _ _ h => h) (Or.inl ⟨by kernel_rfl, by intro u hSu; go_simp⟩) hS ?_
        try simp only [Act.put, List.setIfInBounds_toArray, List.set_cons_zero, List.set_cons_succ]
        refine wpAnyE_takeD (L := 999) (i := 52) (v := .bool true) (some 2) rfl rfl (by kernel_rfl) (by kernel_rfl) (by kernel_rfl) (by kernel_rfl) (fun _ _ _ h => h) (Or.inl ⟨by kernel_rfl, by intro u hSu; go_simp⟩) hS ?_
        try simp only [Act.put, List.setIfInBounds_toArray, List.set_cons_zero, List.set_cons_succ]
        refine wpAnyE_done (by kernel_rfl) ?_ _
        go_simp
        go_wp2_with fail
        go_ret
        exact ⟨ret_bool (by simp), below_then HB.out hS⟩
      · obtain ⟨CC, hCCe⟩ : ∃ y, y = coC (m + 1) Sx o (x + 1) := ⟨_, rfl⟩
        obtain ⟨CM, hCMe⟩ : ∃ y, y = coN (m + 1) Sx o (x + 1) := ⟨_, rfl⟩
        have HK7s : Hid (∀ u, VersAt u ra (m + 1) Sx → Calls Try.prog 17 #[.slice ra (m + 1) rc, .int .i64 o, .int .i64 (x + 1)] u (CRes CC CM (coS Sx (x + 1)) u)) := fun u h => by
          have h9 := specCoC_any (m + 1) Sx ra rc HRC.out o (x + 1) u (by have := HM.out; omega) h
          rw [← hCCe, ← hCMe] at h9
          exact h9
        rw [← hCCe, ← hCMe] at hcm
        rw [← hCCe] at hCC
        have HCM : Hid (Calls Try.prog 16 #[.slice ra (m + 1) rc, .int .i64 o, .int .i64 (x + 1)] u1 (CRes CC CM (coS Sx (x + 1)) u1)) := hcm
        clear hcm hCCe hCMe
        have hcc1 : (CC != 0) = true := by simp [hCC]
        go_wp2_with fail
        refine HCM.out.mono ?_
        rintro e w7 ⟨ca, tc, rfl, hb, -⟩
        replace D0 := cell_below D0 hb
        replace D1 := cell_below D1 hb
        replace A0 := cell_below A0 hb
        replace A1 := cell_below A1 hb
        replace E0 := cell_below E0 hb
        replace E1 := cell_below E1 hb
        replace G1 := cell_below G1 hb
        replace J0 := cell_below J0 hb
        replace J1 := cell_below J1 hb
        replace HV : Hid (VersAt w7 (some ⟨g, 0, none⟩) n R) := HV.out.below hb
        replace HO : Hid (VersAt w7 ra (m + 1) Sx) := HO.out.below hb
        replace HB : Hid (Below w.heap.size w w7) := below_then HB.out hb
        clear hb HCM
        go_upto_region 14 with fail
        obtain ⟨W8, hW⟩ : ∃ y, y = w7.alloc (.cells #[.int .i64 CC, .slice ca CM tc] 28) := ⟨_, rfl⟩
        have hb : Below w7.heap.size w7 W8 := by rw [hW]; exact below_new _ _
        replace D0 := cell_below D0 hb
        replace D1 := cell_below D1 hb
        replace A0 := cell_below A0 hb
        replace A1 := cell_below A1 hb
        replace E0 := cell_below E0 hb
        replace E1 := cell_below E1 hb
        replace G1 := cell_below G1 hb
        replace J0 := cell_below J0 hb
        replace J1 := cell_below J1 hb
        replace HV : Hid (VersAt W8 (some ⟨g, 0, none⟩) n R) := HV.out.below hb
        replace HO : Hid (VersAt W8 ra (m + 1) Sx) := HO.out.below hb
        replace HB : Hid (Below w.heap.size w W8) := below_then HB.out hb
        have L0 : W8.cell? ⟨w7.heap.size, 0, none⟩ = some (.int .i64 CC) := by rw [hW]; simp [go_sem]
        try rw [← hW]
        clear hW hb
        generalize w7.heap.size = B12 at *
        go_upto_region 15 with fail
        refine wp_region_E 999 (S := fun u => Below W8.heap.size W8 u) (by kernel_rfl) ((Below.refl _ _).drew) (fun hS => ?_)
        obtain ⟨u0, hu0⟩ : ∃ y, y = W8.drew := ⟨_, rfl⟩
        rw [← hu0] at hS ⊢
        clear hu0
        refine wpAnyE_takeD (L := 999) (i := 0) (v := .pointer (some ⟨B, 1, none⟩)) (some 112) rfl rfl (by kernel_rfl) (by kernel_rfl) (by kernel_rfl) (by kernel_rfl) (fun _ _ _ h => h) (Or.inl ⟨by kernel_rfl, by intro u hSu; go_simp⟩) hS ?_
        try simp only [Act.put, List.setIfInBounds_toArray, List.set_cons_zero, List.set_cons_succ]
        refine wpAnyE_takeD (L := 999) (i := 1) (v := .slice ra (m + 1) rc) (some 113) rfl rfl (by kernel_rfl) (by kernel_rfl) (by kernel_rfl) (by kernel_rfl) (fun _ _ _ h => h) (Or.inl ⟨by kernel_rfl, by intro u hSu; have h0 := cell_below A1 hSu; go_simp⟩) hS ?_
        try simp only [Act.put, List.setIfInBounds_toArray, List.set_cons_zero, List.set_cons_succ]
        refine wpAnyE_takeD (L := 999) (i := 2) (v := .pointer (some ⟨V, 1, none⟩)) (some 114) rfl rfl (by kernel_rfl) (by kernel_rfl) (by kernel_rfl) (by kernel_rfl) (fun _ _ _ h => h) (Or.inl ⟨by kernel_rfl, by intro u hSu; go_simp⟩) hS ?_
        try simp only [Act.put, List.setIfInBounds_toArray, List.set_cons_zero, List.set_cons_succ]
        refine wpAnyE_takeD (L := 999) (i := 3) (v := .int .i64 o) (some 115) rfl rfl (by kernel_rfl) (by kernel_rfl) (by kernel_rfl) (by kernel_rfl) (fun _ _ _ h => h) (Or.inl ⟨by kernel_rfl, by intro u hSu; have h0 := cell_below D1 hSu; go_simp⟩) hS ?_
        try simp only [Act.put, List.setIfInBounds_toArray, List.set_cons_zero, List.set_cons_succ]
        refine wpAnyE_takeD (L := 999) (i := 4) (v := .int .i64 (x + 1)) (some 116) rfl rfl (by kernel_rfl) (by kernel_rfl) (by kernel_rfl) (by kernel_rfl) (fun _ _ _ h => h) (Or.inl ⟨by kernel_rfl, by intro u hSu; go_simp⟩) hS ?_
        try simp only [Act.put, List.setIfInBounds_toArray, List.set_cons_zero, List.set_cons_succ]
        refine wpAnyE_takeD (L := 999) (i := 7) (v := .pointer (some ⟨B12, 0, none⟩)) (some 119) rfl rfl (by kernel_rfl) (by kernel_rfl) (by kernel_rfl) (by kernel_rfl) (fun _ _ _ h => h) (Or.inl ⟨by kernel_rfl, by intro u hSu; go_simp⟩) hS ?_
        try simp only [Act.put, List.setIfInBounds_toArray, List.set_cons_zero, List.set_cons_succ]
        refine wpAnyE_takeD (L := 999) (i := 8) (v := .int .i64 CC) (some 120) rfl rfl (by kernel_rfl) (by kernel_rfl) (by kernel_rfl) (by kernel_rfl) (fun _ _ _ h => h) (Or.inl ⟨by kernel_rfl, by intro u hSu; have h0 := cell_below L0 hSu; go_simp⟩) hS ?_
        try simp only [Act.put, List.setIfInBounds_toArray, List.set_cons_zero, List.set_cons_succ]
        refine wpAnyE_ready (rs := [5]) (by kernel_rfl) (by simp) ?_
        refine AllReadyE.cons rfl (fun K hK => ?_) AllReadyE.nil
        go_simp
        refine (HK7s.out _ (HO.out.below hS)).mono ?_
        rintro e u1 ⟨sa, sc, rfl, hbu, -⟩
        refine hK.out _ _ (below_then hS hbu) (fun hS9 => ?_)
        try simp only [Act.put, List.setIfInBounds_toArray, List.set_cons_zero, List.set_cons_succ]
        clear hK K hS hbu
        have hS := hS9
        clear hS9
        refine wpAnyE_takeD (L := 999) (i := 6) (v := .int .i64 CC) (some 118) rfl rfl (by kernel_rfl) (by kernel_rfl) (by kernel_rfl) (by kernel_rfl) (fun _ _ _ h => h) (Or.inl ⟨by kernel_rfl, by intro u hSu; have hf : (Instr.field 28 (.agg #[.int .i64 CC, .slice sa CM sc]) 0).run Try.prog u = .ok (.int .i64 CC) u := (by kernel_rfl); go_simp⟩) hS ?_
        try simp only [Act.put, List.setIfInBounds_toArray, List.set_cons_zero, List.set_cons_succ]
        refine wpAnyE_takeD (L := 999) (i := 9) (v := .bool (CC == CC)) (some 121) rfl rfl (by kernel_rfl) (by kernel_rfl) (by kernel_rfl) (by kernel_rfl) (fun _ _ _ h => h) (Or.inl ⟨by kernel_rfl, by intro u hSu; go_simp⟩) hS ?_
        try simp only [Act.put, List.setIfInBounds_toArray, List.set_cons_zero, List.set_cons_succ]
        refine wpAnyE_takeD (L := 999) (i := 10) (v := .bool (CC == CC)) (some 2) rfl rfl (by kernel_rfl) (by kernel_rfl) (by kernel_rfl) (by kernel_rfl) (fun _ _ _ h => h) (Or.inl ⟨by kernel_rfl, by intro u hSu; go_simp⟩) hS ?_
        try simp only [Act.put, List.setIfInBounds_toArray, List.set_cons_zero, List.set_cons_succ]
        refine wpAnyE_done (by kernel_rfl) ?_ _
        go_simp
        go_wp2_with fail
        go_ret
        exact ⟨ret_bool (by simp), below_then HB.out hS⟩
  · obtain ⟨C, hCe⟩ : ∃ y, y = pvC n R x o gn v := ⟨_, rfl⟩
    obtain ⟨M, hMe⟩ : ∃ y, y = pvN n R x o gn v := ⟨_, rfl⟩
    have HSP : Hid (∀ u, VersAt u (some ⟨g, 0, none⟩) n R → Calls Try.prog 14 #[.slice (some ⟨g, 0, none⟩) n c, .agg #[.int .i64 x, .int .i64 o], .bool gn, .int .i64 v] u (CRes C M (pvS n R o gn v) u)) := fun u h => by
      have h9 := specPvC_any n R (some ⟨g, 0, none⟩) c HNC.out.2 x o gn v u (by have := HNC.out.1; omega) h
      rw [← hCe, ← hMe] at h9
      exact h9
    rw [← hCe, ← hMe] at hcall
    rw [← hCe] at hC
    have HCALL : Hid (Calls Try.prog 13 #[.slice (some ⟨g, 0, none⟩) n c, .agg #[.int .i64 x, .int .i64 o], .bool gn, .int .i64 v] W1 (CResC C M (pvS n R o gn v) W1)) := hcall
    clear hcall hCe hMe
    have hc1 : (C != 0) = true := by simp [hC]
    go_wp2_with fail
    refine Calls.mono HCALL.out ?_
    rintro e w2 ⟨ra, rc, rfl, -, hb, -⟩
    replace D0 := cell_below D0 hb
    replace D1 := cell_below D1 hb
    replace HV : Hid (VersAt w2 (some ⟨g, 0, none⟩) n R) := HV.out.below hb
    replace HB : Hid (Below w.heap.size w w2) := below_then HB.out hb
    clear hb HCALL
    go_upto_region 5 with fail
    obtain ⟨W3, hW⟩ : ∃ y, y = w2.alloc (.cells #[.int .i64 C, .slice ra M rc] 28) := ⟨_, rfl⟩
    have hb : Below w2.heap.size w2 W3 := by rw [hW]; exact below_new _ _
    replace D0 := cell_below D0 hb
    replace D1 := cell_below D1 hb
    replace HV : Hid (VersAt W3 (some ⟨g, 0, none⟩) n R) := HV.out.below hb
    replace HB : Hid (Below w.heap.size w W3) := below_then HB.out hb
    have A0 : W3.cell? ⟨w2.heap.size, 0, none⟩ = some (.int .i64 C) := by rw [hW]; simp [go_sem]
    try rw [← hW]
    clear hW hb
    generalize w2.heap.size = B at *
    go_upto_region 6 with fail
    refine wp_region_E 999 (S := fun u => Below W3.heap.size W3 u) (by kernel_rfl) ((Below.refl _ _).drew) (fun hS => ?_)
    obtain ⟨u0, hu0⟩ : ∃ y, y = W3.drew := ⟨_, rfl⟩
    rw [← hu0] at hS ⊢
    clear hu0
    refine wpAnyE_takeD (L := 999) (i := 0) (v := .slice (some ⟨g, 0, none⟩) n c) (some 32) rfl rfl (by kernel_rfl) (by kernel_rfl) (by kernel_rfl) (by kernel_rfl) (fun _ _ _ h => h) (Or.inl ⟨by kernel_rfl, by intro u hSu; go_simp⟩) hS ?_
    try simp only [Act.put, List.setIfInBounds_toArray, List.set_cons_zero, List.set_cons_succ]
    refine wpAnyE_takeD (L := 999) (i := 1) (v := .agg #[.int .i64 x, .int .i64 o]) (some 33) rfl rfl (by kernel_rfl) (by kernel_rfl) (by kernel_rfl) (by kernel_rfl) (fun _ _ _ h => h) (Or.inl ⟨by kernel_rfl, by intro u hSu; have h0 := cell_below D0 hSu; have h1 := cell_below D1 hSu; go_simp⟩) hS ?_
    try simp only [Act.put, List.setIfInBounds_toArray, List.set_cons_zero, List.set_cons_succ]
    refine wpAnyE_takeD (L := 999) (i := 2) (v := .bool gn) (some 34) rfl rfl (by kernel_rfl) (by kernel_rfl) (by kernel_rfl) (by kernel_rfl) (fun _ _ _ h => h) (Or.inl ⟨by kernel_rfl, by intro u hSu; go_simp⟩) hS ?_
    try simp only [Act.put, List.setIfInBounds_toArray, List.set_cons_zero, List.set_cons_succ]
    refine wpAnyE_takeD (L := 999) (i := 3) (v := .int .i64 v) (some 35) rfl rfl (by kernel_rfl) (by kernel_rfl) (by kernel_rfl) (by kernel_rfl) (fun _ _ _ h => h) (Or.inl ⟨by kernel_rfl, by intro u hSu; go_simp⟩) hS ?_
    try simp only [Act.put, List.setIfInBounds_toArray, List.set_cons_zero, List.set_cons_succ]
    refine wpAnyE_takeD (L := 999) (i := 6) (v := .pointer (some ⟨B, 0, none⟩)) (some 38) rfl rfl (by kernel_rfl) (by kernel_rfl) (by kernel_rfl) (by kernel_rfl) (fun _ _ _ h => h) (Or.inl ⟨by kernel_rfl, by intro u hSu; go_simp⟩) hS ?_
    try simp only [Act.put, List.setIfInBounds_toArray, List.set_cons_zero, List.set_cons_succ]
    refine wpAnyE_takeD (L := 999) (i := 7) (v := .int .i64 C) (some 39) rfl rfl (by kernel_rfl) (by kernel_rfl) (by kernel_rfl) (by kernel_rfl) (fun _ _ _ h => h) (Or.inl ⟨by kernel_rfl, by intro u hSu; have h0 := cell_below A0 hSu; go_simp⟩) hS ?_
    try simp only [Act.put, List.setIfInBounds_toArray, List.set_cons_zero, List.set_cons_succ]
    refine wpAnyE_ready (rs := [4]) (by kernel_rfl) (by simp) ?_
    refine AllReadyE.cons rfl (fun K hK => ?_) AllReadyE.nil
    go_simp
    refine (HSP.out _ (HV.out.below hS)).mono ?_
    rintro e u1 ⟨sa, sc, rfl, hbu, -⟩
    refine hK.out _ _ (below_then hS hbu) (fun hS9 => ?_)
    try simp only [Act.put, List.setIfInBounds_toArray, List.set_cons_zero, List.set_cons_succ]
    clear hK K hS hbu
    have hS := hS9
    clear hS9
    refine wpAnyE_takeD (L := 999) (i := 5) (v := .int .i64 C) (some 37) rfl rfl (by kernel_rfl) (by kernel_rfl) (by kernel_rfl) (by kernel_rfl) (fun _ _ _ h => h) (Or.inl ⟨by kernel_rfl, by intro u hSu; have hf : (Instr.field 28 (.agg #[.int .i64 C, .slice sa M sc]) 0).run Try.prog u = .ok (.int .i64 C) u := (by kernel_rfl); go_simp⟩) hS ?_
    try simp only [Act.put, List.setIfInBounds_toArray, List.set_cons_zero, List.set_cons_succ]
    refine wpAnyE_takeD (L := 999) (i := 8) (v := .bool (C == C)) (some 40) rfl rfl (by kernel_rfl) (by kernel_rfl) (by kernel_rfl) (by kernel_rfl) (fun _ _ _ h => h) (Or.inl ⟨by kernel_rfl, by intro u hSu; go_simp⟩) hS ?_
    try simp only [Act.put, List.setIfInBounds_toArray, List.set_cons_zero, List.set_cons_succ]
    refine wpAnyE_takeD (L := 999) (i := 9) (v := .bool (C == C)) (some 2) rfl rfl (by kernel_rfl) (by kernel_rfl) (by kernel_rfl) (by kernel_rfl) (fun _ _ _ h => h) (Or.inl ⟨by kernel_rfl, by intro u hSu; go_simp⟩) hS ?_
    try simp only [Act.put, List.setIfInBounds_toArray, List.set_cons_zero, List.set_cons_succ]
    refine wpAnyE_done (by kernel_rfl) ?_ _
    go_simp
    go_wp2_with fail
    go_ret
    exact ⟨ret_bool (by simp), below_then HB.out hS⟩
end Go.Proofs.Ytiabblmjgfkijaa
