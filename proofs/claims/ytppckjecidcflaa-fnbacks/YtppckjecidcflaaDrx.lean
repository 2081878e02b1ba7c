/- Drk in one. -/
import Derived.Test.YtppckjecidcflaaDrn
namespace Go.Proofs.Ytppckjecidcflaa
open Go.RowKit Go.Deep
set_option linter.unusedVariables false
set_option linter.unusedSimpArgs false
set_option maxRecDepth 20000

set_option maxHeartbeats 8000000 in
theorem fnBacks_small (kk : Nat) (z : Nat → Int) (a : Option Addr) (cap : Nat) (w : World) (hbig : kk ≤ 1048576) (hz : Byt kk z) (HA0 : BytesAt w a kk z) :
    Calls Try.prog 5 #[.slice a kk cap] w fun e w' => e = .returned (.bool true) ∧ Below w.heap.size w w' := by
  have HD : Hid (Calls Try.prog 26 #[.slice a kk cap] w (DcA w)) := drawCb_any a kk cap z w hbig hz HA0
  have hbg : decide ((1048576 : Int) < (kk : Int)) = false := by simp; omega
  clear hz HA0
  go_enter Try.func5, Try.ntmps5
  go_wp2_with (go_at_call 25; refine (lwBig_any _ _ _ _).mono ?_; rintro e w' ⟨rfl, hw⟩; have hw1 := hw.symm; clear hw; subst hw1; rw [hbg])
  refine HD.out.mono ?_
  intro e w1 hpost
  unfold DcA at hpost
  obtain ⟨n, R, ra, rc, x, he, hn4, hnr, hb1, hra⟩ := hpost
  subst he
  have HB1 : Hid (Below w.heap.size w w1) := hb1
  have HRA1 : Hid (RecsAt w1 ra n R) := hra
  have HSP : Hid (∀ u : World, RecsAt u ra n R → Calls Try.prog 17 #[.slice ra n rc, .int .i64 x] u (IRes (cbC R x n) (bkL R x n n) u)) := fun u h => specCb_any n R ra rc x u (by omega) h
  have HIM : Hid (Calls Try.prog 19 #[.slice ra n rc, .int .i64 x] w1 (IResC (cbC R x n) (bkL R x n n) w1)) := implCbC_any n R ra rc x w1 (by omega) hra
  have HN4 : Hid (n ≤ 401 ∧ n ≤ rc) := ⟨hn4, hnr⟩
  clear hb1 hra HD hbg hnr
  go_wp2_with fail
  refine HIM.out.mono ?_
  intro e w2 hpost
  by_cases hc : cbC R x n = 0
  · obtain ⟨la, lc, he, hlcp, hb2, hol⟩ := iresOkC hpost hc
    subst he
    obtain ⟨L, hL⟩ : ∃ L, L = bkL R x n n := ⟨_, rfl⟩
    have HLE : Hid (bkL R x n n = L) := hL.symm
    rw [← hL] at hol hlcp ⊢
    have HCP : Hid (L.length ≤ lc) := hlcp
    clear hlcp
    have HCZ : Hid (cbC R x n = 0) := hc
    have HMEM : Hid (∀ k, k < L.length → ∃ j : Nat, j < n ∧ zI L k = ((j + 1 : Nat) : Int) ∧ (R j).t = x ∧ (R j).k = 2) := fun k hk => by
      have hm : zI L k ∈ bkL R x n n := by
        rw [HLE.out]
        unfold zI
        rw [List.getD_eq_getElem?_getD, List.getElem?_eq_getElem hk]
        exact List.getElem_mem hk
      obtain ⟨j, -, h2, h3, h4, h5⟩ := bkL_mem R x n n (Nat.le_refl _) _ hm
      exact ⟨j, h2, h3, h4, h5⟩
    have HFALL : Hid (∀ k, k + 1 < L.length → zI L (k + 1) < zI L k) := fun k hk => by
      have hp := bkL_falls R x n n (Nat.le_refl _)
      rw [HLE.out] at hp
      have := List.pairwise_iff_getElem.1 hp k (k + 1) (by omega) hk (by omega)
      unfold zI
      rw [List.getD_eq_getElem?_getD, List.getD_eq_getElem?_getD, List.getElem?_eq_getElem hk, List.getElem?_eq_getElem (show k < L.length by omega)]
      exact this
    have HLL : Hid (L.length ≤ 401) := by
      have h1 := bkL_len R x n n
      rw [HLE.out] at h1
      show L.length ≤ 401
      omega
    have HO2 : Hid (OwnI w2 w1.heap.size w2.heap.size la L.length (zI L)) := hol
    have HB2 : Hid (Below w.heap.size w w2) := below_then HB1.out hb2
    have HRA2 : Hid (RecsAt w2 ra n R) := HRA1.out.below hb2
    clear hpost hb2 hol hc hL HB1 HRA1 HIM
    go_wp2_with fail
    obtain ⟨W3, hW3⟩ : ∃ y, y = w2.alloc (.cells #[.int .i64 0, .slice la L.length lc] 44) := ⟨_, rfl⟩
    have A0 : W3.cell? ⟨w2.heap.size, 0, none⟩ = some (.int .i64 0) := by rw [hW3]; simp [go_sem]
    have A1 : W3.cell? ⟨w2.heap.size, 1, none⟩ = some (.slice la L.length lc) := by rw [hW3]; simp [go_sem]
    have hb3 : Below w2.heap.size w2 W3 := by rw [hW3]; exact below_new _ _
    have HB3 : Hid (Below w.heap.size w W3) := below_then HB2.out hb3
    have HRA3 : Hid (RecsAt W3 ra n R) := HRA2.out.below hb3
    have HO3 : Hid (IntsAt W3 la L.length (zI L)) := HO2.out.at.below hb3
    try rw [← hW3]
    clear hW3 hb3 HB2 HRA2 HO2
    go_loopw [6] (fun i wr => ∃ k : Nat, k ≤ L.length ∧ i = .int .i64 k ∧ Hid (Below W3.heap.size W3 wr)) (fun i _ => L.length - (intOf i).toNat)
    case atStart => exact ⟨0, Nat.zero_le _, rfl, Below.refl _ _⟩
    case round =>
      obtain ⟨k, hk, rfl, HBr⟩ := hrel
      have B1 := cell_below A1 HBr.out
      have hll := HLL.out
      by_cases hlt : k < L.length
      · have hlt' : (k : Int) < (L.length : Int) := by omega
        have hk0 : (0 : Int) ≤ (k : Int) := by omega
        obtain ⟨j, hj, hzj, hjt, hjk⟩ := HMEM.out k hlt
        rcases HRA3.out.below HBr.out with h | ⟨rb, ro, rfl, hrl, hrc⟩
        · omega
        rcases HO3.out.below HBr.out with h | ⟨lb, lo, rfl, hll2, hlc⟩
        · omega
        obtain ⟨c0, c1, c2, c3, c4, c5, c6, c7⟩ := hrc j hj
        rw [hjk] at c0
        rw [hjt] at c1
        have y0 := hlc k hlt
        rw [hzj] at y0
        have hj' : (j : Int) < (n : Int) := by omega
        have hj0 : (0 : Int) ≤ (j : Int) := by omega
        have hyc : ((j + 1 : Nat) : Int) = (j : Int) + 1 := by omega
        rw [hyc] at y0
        have hwj : IntKind.i64.wrap ((j : Int) + 1 - 1) = (j : Int) := by rw [IntKind.wrap_i64]; omega
        have hwj2 : IntKind.i64.wrap (j : Int) = (j : Int) := by rw [IntKind.wrap_i64]; omega
        have hxx : (x != x) = false := by simp
        cases k with
        | zero =>
          clear hrc hlc hjt hjk hzj hyc hlt
          rw [Nat.add_zero] at y0
          go_wp2_with fail
          go_quiet (fail)
          go_wp2_with fail
          go_roundw
          case rel => exact ⟨1, by omega, by go_num, below_then HBr.out (below_drewN (below_new _ _) _)⟩
          case measure => simp [intOf]; omega
        | succ k =>
          have hfall := HFALL.out k hlt
          rw [hzj, hyc] at hfall
          have y1 := hlc k (by omega)
          generalize zI L k = yk at *
          have hge : ¬ (yk ≤ (j : Int) + 1) := by omega
          have hkc : ((k + 1 : Nat) : Int) = (k : Int) + 1 := by omega
          have hkp : (0 : Int) < (k : Int) + 1 := by omega
          have hwk : IntKind.i64.wrap ((k : Int) + 1 - 1) = (k : Int) := by rw [IntKind.wrap_i64]; omega
          have hwk2 : IntKind.i64.wrap (k : Int) = (k : Int) := by rw [IntKind.wrap_i64]; omega
          have hk2 : (k : Int) < (L.length : Int) := by omega
          have hk3 : (0 : Int) ≤ (k : Int) := by omega
          have hkB := fun o : Obj => cell_alloc B1 o
          have hky0 := fun o : Obj => cell_alloc y0 o
          have hky1 := fun o : Obj => cell_alloc y1 o
          clear hrc hlc hjt hjk hzj hyc hlt hfall
          go_wp2_with fail
          go_quiet (fail)
          go_wp2_with fail
          go_roundw
          case rel => exact ⟨k + 2, by omega, by go_num, below_then HBr.out (below_drewN (below_new _ _) _)⟩
          case measure => simp [intOf]; omega
      · have hkn : k = L.length := by omega
        have hb5 := HBr.out
        obtain ⟨w5, rfl⟩ : ∃ y, y = wr := ⟨wr, rfl⟩
        have HB5 : Hid (Below w.heap.size w w5) := below_then HB3.out hb5
        have HRA5 : Hid (RecsAt w5 ra n R) := HRA3.out.below hb5
        have HO5 : Hid (IntsAt w5 la L.length (zI L)) := HO3.out.below hb5
        have hnl : ¬ ((k : Int) < (L.length : Int)) := by omega
        clear hb5 HBr HB3 HRA3 HO3 HFALL A0 A1
        by_cases hend : L.length = 0 ∨ 400 ≤ n
        · have HCL : Hid (L.length = 0 ∨ 400 ≤ n) := hend
          by_cases h0 : L.length = 0
          · have h00 : ((L.length : Int) == 0) = true := by simp [h0]
            clear hend h0
            go_upto_region 14 with fail
            refine wp_region_E 999 (S := fun u => Below w5.heap.size w5 u) (by kernel_rfl) ((Below.refl _ _).drew) (fun hS => ?_)
            obtain ⟨u0, hu0⟩ : ∃ y, y = w5.drew := ⟨_, rfl⟩
            rw [← hu0] at hS ⊢
            clear hu0
            refine wpAnyE_takeD (L := 999) (i := 0) (v := .slice ra n rc) (some 83) rfl rfl (by kernel_rfl) (by kernel_rfl) (by kernel_rfl) (by kernel_rfl) (fun _ _ _ h => h) (Or.inl ⟨by kernel_rfl, by intro u hSu; go_simp⟩) hS ?_
            try simp only [Act.put, List.setIfInBounds_toArray, List.set_cons_zero, List.set_cons_succ]
            refine wpAnyE_takeD (L := 999) (i := 1) (v := .int .i64 x) (some 84) rfl rfl (by kernel_rfl) (by kernel_rfl) (by kernel_rfl) (by kernel_rfl) (fun _ _ _ h => h) (Or.inl ⟨by kernel_rfl, by intro u hSu; go_simp⟩) hS ?_
            try simp only [Act.put, List.setIfInBounds_toArray, List.set_cons_zero, List.set_cons_succ]
            refine wpAnyE_takeD (L := 999) (i := 5) (v := .pointer (some ⟨w2.heap.size, 1, none⟩)) (some 88) rfl rfl (by kernel_rfl) (by kernel_rfl) (by kernel_rfl) (by kernel_rfl) (fun _ _ _ h => h) (Or.inl ⟨by kernel_rfl, by intro u hSu; go_simp⟩) hS ?_
            try simp only [Act.put, List.setIfInBounds_toArray, List.set_cons_zero, List.set_cons_succ]
            refine wpAnyE_takeD (L := 999) (i := 6) (v := .slice la L.length lc) (some 89) rfl rfl (by kernel_rfl) (by kernel_rfl) (by kernel_rfl) (by kernel_rfl) (fun _ _ _ h => h) (Or.inl ⟨by kernel_rfl, by intro u hSu; have h1 := cell_below B1 hSu; go_simp⟩) hS ?_
            try simp only [Act.put, List.setIfInBounds_toArray, List.set_cons_zero, List.set_cons_succ]
            refine wpAnyE_takeD (L := 999) (i := 7) (v := .int .i64 (L.length : Int)) (some 90) rfl rfl (by kernel_rfl) (by kernel_rfl) (by kernel_rfl) (by kernel_rfl) (fun _ _ _ h => h) (Or.inl ⟨by kernel_rfl, by intro u hSu; go_simp⟩) hS ?_
            try simp only [Act.put, List.setIfInBounds_toArray, List.set_cons_zero, List.set_cons_succ]
            refine wpAnyE_ready (rs := [2]) (by kernel_rfl) (by simp) ?_
            refine AllReadyE.cons rfl (fun K hK => ?_) AllReadyE.nil
            go_simp
            refine (HSP.out _ (HRA5.out.below hS)).mono ?_
            intro e u1 hpost
            obtain ⟨sa, sc, he, hbu, -⟩ := iresOk hpost HCZ.out
            rw [HLE.out] at he
            subst he
            clear hpost
            refine hK.out _ _ (below_then hS hbu) (fun hS9 => ?_)
            try simp only [Act.put, List.setIfInBounds_toArray, List.set_cons_zero, List.set_cons_succ]
            clear hK K hS
            have hS := hS9
            clear hS9
            refine wpAnyE_takeD (L := 999) (i := 3) (v := .slice sa L.length sc) (some 86) rfl rfl (by kernel_rfl) (by kernel_rfl) (by kernel_rfl) (by kernel_rfl) (fun _ _ _ h => h) (Or.inl ⟨by kernel_rfl, by intro u hSu; have hf : (Instr.field 44 (.agg #[.int .i64 0, .slice sa L.length sc]) 1).run Try.prog u = .ok (.slice sa L.length sc) u := (by kernel_rfl); go_simp⟩) hS ?_
            try simp only [Act.put, List.setIfInBounds_toArray, List.set_cons_zero, List.set_cons_succ]
            refine wpAnyE_takeD (L := 999) (i := 4) (v := .int .i64 (L.length : Int)) (some 87) rfl rfl (by kernel_rfl) (by kernel_rfl) (by kernel_rfl) (by kernel_rfl) (fun _ _ _ h => h) (Or.inl ⟨by kernel_rfl, by intro u hSu; go_simp⟩) hS ?_
            try simp only [Act.put, List.setIfInBounds_toArray, List.set_cons_zero, List.set_cons_succ]
            refine wpAnyE_takeD (L := 999) (i := 8) (v := .bool ((L.length : Int) == (L.length : Int))) (some 91) rfl rfl (by kernel_rfl) (by kernel_rfl) (by kernel_rfl) (by kernel_rfl) (fun _ _ _ h => h) (Or.inl ⟨by kernel_rfl, by intro u hSu; go_simp⟩) hS ?_
            try simp only [Act.put, List.setIfInBounds_toArray, List.set_cons_zero, List.set_cons_succ]
            refine wpAnyE_takeD (L := 999) (i := 9) (v := .bool ((L.length : Int) == (L.length : Int))) (some 2) rfl rfl (by kernel_rfl) (by kernel_rfl) (by kernel_rfl) (by kernel_rfl) (fun _ _ _ h => h) (Or.inl ⟨by kernel_rfl, by intro u hSu; go_simp⟩) hS ?_
            try simp only [Act.put, List.setIfInBounds_toArray, List.set_cons_zero, List.set_cons_succ]
            refine wpAnyE_done (by kernel_rfl) ?_ _
            go_simp
            go_wp2_with fail
            go_ret
            exact ⟨ret_bool (by simp), below_then HB5.out hS⟩
          · have h00 : ((L.length : Int) == 0) = false := by simp [h0]
            have h40 : (400 : Int) ≤ (n : Int) := by omega
            clear hend h0
            go_upto_region 14 with fail
            refine wp_region_E 999 (S := fun u => Below w5.heap.size w5 u) (by kernel_rfl) ((Below.refl _ _).drew) (fun hS => ?_)
            obtain ⟨u0, hu0⟩ : ∃ y, y = w5.drew := ⟨_, rfl⟩
            rw [← hu0] at hS ⊢
            clear hu0
            refine wpAnyE_takeD (L := 999) (i := 0) (v := .slice ra n rc) (some 83) rfl rfl (by kernel_rfl) (by kernel_rfl) (by kernel_rfl) (by kernel_rfl) (fun _ _ _ h => h) (Or.inl ⟨by kernel_rfl, by intro u hSu; go_simp⟩) hS ?_
            try simp only [Act.put, List.setIfInBounds_toArray, List.set_cons_zero, List.set_cons_succ]
            refine wpAnyE_takeD (L := 999) (i := 1) (v := .int .i64 x) (some 84) rfl rfl (by kernel_rfl) (by kernel_rfl) (by kernel_rfl) (by kernel_rfl) (fun _ _ _ h => h) (Or.inl ⟨by kernel_rfl, by intro u hSu; go_simp⟩) hS ?_
            try simp only [Act.put, List.setIfInBounds_toArray, List.set_cons_zero, List.set_cons_succ]
            refine wpAnyE_takeD (L := 999) (i := 5) (v := .pointer (some ⟨w2.heap.size, 1, none⟩)) (some 88) rfl rfl (by kernel_rfl) (by kernel_rfl) (by kernel_rfl) (by kernel_rfl) (fun _ _ _ h => h) (Or.inl ⟨by kernel_rfl, by intro u hSu; go_simp⟩) hS ?_
            try simp only [Act.put, List.setIfInBounds_toArray, List.set_cons_zero, List.set_cons_succ]
            refine wpAnyE_takeD (L := 999) (i := 6) (v := .slice la L.length lc) (some 89) rfl rfl (by kernel_rfl) (by kernel_rfl) (by kernel_rfl) (by kernel_rfl) (fun _ _ _ h => h) (Or.inl ⟨by kernel_rfl, by intro u hSu; have h1 := cell_below B1 hSu; go_simp⟩) hS ?_
            try simp only [Act.put, List.setIfInBounds_toArray, List.set_cons_zero, List.set_cons_succ]
            refine wpAnyE_takeD (L := 999) (i := 7) (v := .int .i64 (L.length : Int)) (some 90) rfl rfl (by kernel_rfl) (by kernel_rfl) (by kernel_rfl) (by kernel_rfl) (fun _ _ _ h => h) (Or.inl ⟨by kernel_rfl, by intro u hSu; go_simp⟩) hS ?_
            try simp only [Act.put, List.setIfInBounds_toArray, List.set_cons_zero, List.set_cons_succ]
            refine wpAnyE_ready (rs := [2]) (by kernel_rfl) (by simp) ?_
            refine AllReadyE.cons rfl (fun K hK => ?_) AllReadyE.nil
            go_simp
            refine (HSP.out _ (HRA5.out.below hS)).mono ?_
            intro e u1 hpost
            obtain ⟨sa, sc, he, hbu, -⟩ := iresOk hpost HCZ.out
            rw [HLE.out] at he
            subst he
            clear hpost
            refine hK.out _ _ (below_then hS hbu) (fun hS9 => ?_)
            try simp only [Act.put, List.setIfInBounds_toArray, List.set_cons_zero, List.set_cons_succ]
            clear hK K hS
            have hS := hS9
            clear hS9
            refine wpAnyE_takeD (L := 999) (i := 3) (v := .slice sa L.length sc) (some 86) rfl rfl (by kernel_rfl) (by kernel_rfl) (by kernel_rfl) (by kernel_rfl) (fun _ _ _ h => h) (Or.inl ⟨by kernel_rfl, by intro u hSu; have hf : (Instr.field 44 (.agg #[.int .i64 0, .slice sa L.length sc]) 1).run Try.prog u = .ok (.slice sa L.length sc) u := (by kernel_rfl); go_simp⟩) hS ?_
            try simp only [Act.put, List.setIfInBounds_toArray, List.set_cons_zero, List.set_cons_succ]
            refine wpAnyE_takeD (L := 999) (i := 4) (v := .int .i64 (L.length : Int)) (some 87) rfl rfl (by kernel_rfl) (by kernel_rfl) (by kernel_rfl) (by kernel_rfl) (fun _ _ _ h => h) (Or.inl ⟨by kernel_rfl, by intro u hSu; go_simp⟩) hS ?_
            try simp only [Act.put, List.setIfInBounds_toArray, List.set_cons_zero, List.set_cons_succ]
            refine wpAnyE_takeD (L := 999) (i := 8) (v := .bool ((L.length : Int) == (L.length : Int))) (some 91) rfl rfl (by kernel_rfl) (by kernel_rfl) (by kernel_rfl) (by kernel_rfl) (fun _ _ _ h => h) (Or.inl ⟨by kernel_rfl, by intro u hSu; go_simp⟩) hS ?_
            try simp only [Act.put, List.setIfInBounds_toArray, List.set_cons_zero, List.set_cons_succ]
            refine wpAnyE_takeD (L := 999) (i := 9) (v := .bool ((L.length : Int) == (L.length : Int))) (some 2) rfl rfl (by kernel_rfl) (by kernel_rfl) (by kernel_rfl) (by kernel_rfl) (fun _ _ _ h => h) (Or.inl ⟨by kernel_rfl, by intro u hSu; go_simp⟩) hS ?_
            try simp only [Act.put, List.setIfInBounds_toArray, List.set_cons_zero, List.set_cons_succ]
            refine wpAnyE_done (by kernel_rfl) ?_ _
            go_simp
            go_wp2_with fail
            go_ret
            exact ⟨ret_bool (by simp), below_then HB5.out hS⟩
        · have h00 : ((L.length : Int) == 0) = false := by rw [beq_eq_false_iff_ne]; omega
          have h40 : ¬ ((400 : Int) ≤ (n : Int)) := by omega
          obtain ⟨y, xs, hLx⟩ : ∃ y xs, L = y :: xs := by
            cases L with
            | nil => exact absurd (Or.inl rfl) hend
            | cons y xs => exact ⟨y, xs, rfl⟩
          have HLX : Hid (L = y :: xs) := hLx
          clear hLx
          have hl0 : 0 < L.length := by omega
          obtain ⟨j, hj, hzj, hjt, hjk⟩ := HMEM.out 0 hl0
          have HN9 : Hid (n < 400 ∧ n ≤ 401) := ⟨by omega, hn4⟩
          rcases HRA5.out with h | ⟨rb, ro, rfl, hrl, hrc⟩
          · omega
          rcases HO5.out with h | ⟨lb, lo, rfl, hlb, hlc⟩
          · omega
          have HRC : Hid (∀ i, i < n → C8 w5 rb (ro + i * 8) (R i)) := hrc
          have HLC : Hid (∀ i, i < L.length → w5.cell? ⟨lb, lo + i, none⟩ = some (.int .i64 (zI L i))) := hlc
          obtain ⟨c0, c1, c2, c3, c4, c5, c6, c7⟩ := hrc j hj
          have y0 := hlc 0 hl0
          rw [hzj, Nat.add_zero] at y0
          have hyc : ((j + 1 : Nat) : Int) = (j : Int) + 1 := by omega
          rw [hyc] at y0
          have hj' : (j : Int) < (n : Int) := by omega
          have hj0 : (0 : Int) ≤ (j : Int) := by omega
          have hl0' : (0 : Int) < (L.length : Int) := by omega
          have hwj : IntKind.i64.wrap ((j : Int) + 1 - 1) = (j : Int) := by rw [IntKind.wrap_i64]; omega
          have hwj2 : IntKind.i64.wrap (j : Int) = (j : Int) := by rw [IntKind.wrap_i64]; omega
          have HJ : Hid (j < n ∧ (R j).k = 2 ∧ (R j).t = x ∧ zI L 0 = ((j + 1 : Nat) : Int)) := ⟨hj, hjk, hjt, hzj⟩
          clear hrc hlc hzj hjt hjk hyc hend
          go_upto_region 16 with fail
          obtain ⟨W6, hW6⟩ : ∃ y, y = w5.alloc (.cells #[.int .i64 (R j).k, .int .i64 (R j).t, .int .i64 (R j).key, .bool (R j).hd, .int .i64 (R j).old, .bool (R j).hs, .int .i64 (R j).nw, .int .i64 (R j).bk] 33) := ⟨_, rfl⟩
          have hb6 : Below w5.heap.size w5 W6 := by rw [hW6]; exact below_new _ _
          have E2 : W6.cell? ⟨w5.heap.size, 2, none⟩ = some (.int .i64 (R j).key) := by rw [hW6]; simp [go_sem]
          have E3 : W6.cell? ⟨w5.heap.size, 3, none⟩ = some (.bool (R j).hd) := by rw [hW6]; simp [go_sem]
          have E4 : W6.cell? ⟨w5.heap.size, 4, none⟩ = some (.int .i64 (R j).old) := by rw [hW6]; simp [go_sem]
          have E5 : W6.cell? ⟨w5.heap.size, 5, none⟩ = some (.bool (R j).hs) := by rw [hW6]; simp [go_sem]
          have E6 : W6.cell? ⟨w5.heap.size, 6, none⟩ = some (.int .i64 (R j).nw) := by rw [hW6]; simp [go_sem]
          have EB := cell_below B1 hb6
          have EY := cell_below y0 hb6
          have HRC6 : Hid (∀ i, i < n → C8 W6 rb (ro + i * 8) (R i)) := fun i hi => (HRC.out i hi).block (hb6.block _ hrl)
          have HRL : Hid (rb < W6.heap.size) := Nat.lt_of_lt_of_le hrl hb6.size
          have HLC6 : Hid (IntsAt W6 (some ⟨lb, lo, none⟩) L.length (zI L)) := HO5.out.below hb6
          have HB6 : Hid (Below w.heap.size w W6) := below_then HB5.out hb6
          rw [← hW6]
          clear hW6 hb6 c0 c1 c2 c3 c4 c5 c6 c7 y0 B1 HB5 HRC HLC HO5 HRA5 hrl hlb hwj hwj2
          refine wp_region_E 999 (S := fun u => Below W6.heap.size W6 u) (by kernel_rfl) ((Below.refl _ _).drew) (fun hS => ?_)
          obtain ⟨u0, hu0⟩ : ∃ y, y = W6.drew := ⟨_, rfl⟩
          rw [← hu0] at hS ⊢
          clear hu0
          refine wpAnyE_takeD (L := 999) (i := 1) (v := .slice (some ⟨rb, ro, none⟩) n rc) (some 101) rfl rfl (by kernel_rfl) (by kernel_rfl) (by kernel_rfl) (by kernel_rfl) (fun _ _ _ h => h) (Or.inl ⟨by kernel_rfl, by intro u hSu; go_simp⟩) hS ?_
          try simp only [Act.put, List.setIfInBounds_toArray, List.set_cons_zero, List.set_cons_succ]
          refine wpAnyE_takeD (L := 999) (i := 3) (v := .int .i64 x) (some 103) rfl rfl (by kernel_rfl) (by kernel_rfl) (by kernel_rfl) (by kernel_rfl) (fun _ _ _ h => h) (Or.inl ⟨by kernel_rfl, by intro u hSu; go_simp⟩) hS ?_
          try simp only [Act.put, List.setIfInBounds_toArray, List.set_cons_zero, List.set_cons_succ]
          refine wpAnyE_takeD (L := 999) (i := 4) (v := .pointer (some ⟨w5.heap.size, 2, none⟩)) (some 104) rfl rfl (by kernel_rfl) (by kernel_rfl) (by kernel_rfl) (by kernel_rfl) (fun _ _ _ h => h) (Or.inl ⟨by kernel_rfl, by intro u hSu; go_simp⟩) hS ?_
          try simp only [Act.put, List.setIfInBounds_toArray, List.set_cons_zero, List.set_cons_succ]
          refine wpAnyE_takeD (L := 999) (i := 5) (v := .int .i64 (R j).key) (some 105) rfl rfl (by kernel_rfl) (by kernel_rfl) (by kernel_rfl) (by kernel_rfl) (fun _ _ _ h => h) (Or.inl ⟨by kernel_rfl, by intro u hSu; have h0 := cell_below E2 hSu; go_simp⟩) hS ?_
          try simp only [Act.put, List.setIfInBounds_toArray, List.set_cons_zero, List.set_cons_succ]
          refine wpAnyE_takeD (L := 999) (i := 6) (v := .pointer (some ⟨w5.heap.size, 5, none⟩)) (some 106) rfl rfl (by kernel_rfl) (by kernel_rfl) (by kernel_rfl) (by kernel_rfl) (fun _ _ _ h => h) (Or.inl ⟨by kernel_rfl, by intro u hSu; go_simp⟩) hS ?_
          try simp only [Act.put, List.setIfInBounds_toArray, List.set_cons_zero, List.set_cons_succ]
          refine wpAnyE_takeD (L := 999) (i := 7) (v := .bool (R j).hs) (some 107) rfl rfl (by kernel_rfl) (by kernel_rfl) (by kernel_rfl) (by kernel_rfl) (fun _ _ _ h => h) (Or.inl ⟨by kernel_rfl, by intro u hSu; have h0 := cell_below E5 hSu; go_simp⟩) hS ?_
          try simp only [Act.put, List.setIfInBounds_toArray, List.set_cons_zero, List.set_cons_succ]
          refine wpAnyE_takeD (L := 999) (i := 8) (v := .pointer (some ⟨w5.heap.size, 6, none⟩)) (some 108) rfl rfl (by kernel_rfl) (by kernel_rfl) (by kernel_rfl) (by kernel_rfl) (fun _ _ _ h => h) (Or.inl ⟨by kernel_rfl, by intro u hSu; go_simp⟩) hS ?_
          try simp only [Act.put, List.setIfInBounds_toArray, List.set_cons_zero, List.set_cons_succ]
          refine wpAnyE_takeD (L := 999) (i := 9) (v := .int .i64 (R j).nw) (some 109) rfl rfl (by kernel_rfl) (by kernel_rfl) (by kernel_rfl) (by kernel_rfl) (fun _ _ _ h => h) (Or.inl ⟨by kernel_rfl, by intro u hSu; have h0 := cell_below E6 hSu; go_simp⟩) hS ?_
          try simp only [Act.put, List.setIfInBounds_toArray, List.set_cons_zero, List.set_cons_succ]
          refine wpAnyE_takeD (L := 999) (i := 10) (v := .pointer (some ⟨w5.heap.size, 3, none⟩)) (some 110) rfl rfl (by kernel_rfl) (by kernel_rfl) (by kernel_rfl) (by kernel_rfl) (fun _ _ _ h => h) (Or.inl ⟨by kernel_rfl, by intro u hSu; go_simp⟩) hS ?_
          try simp only [Act.put, List.setIfInBounds_toArray, List.set_cons_zero, List.set_cons_succ]
          refine wpAnyE_takeD (L := 999) (i := 11) (v := .bool (R j).hd) (some 111) rfl rfl (by kernel_rfl) (by kernel_rfl) (by kernel_rfl) (by kernel_rfl) (fun _ _ _ h => h) (Or.inl ⟨by kernel_rfl, by intro u hSu; have h0 := cell_below E3 hSu; go_simp⟩) hS ?_
          try simp only [Act.put, List.setIfInBounds_toArray, List.set_cons_zero, List.set_cons_succ]
          refine wpAnyE_takeD (L := 999) (i := 12) (v := .pointer (some ⟨w5.heap.size, 4, none⟩)) (some 112) rfl rfl (by kernel_rfl) (by kernel_rfl) (by kernel_rfl) (by kernel_rfl) (fun _ _ _ h => h) (Or.inl ⟨by kernel_rfl, by intro u hSu; go_simp⟩) hS ?_
          try simp only [Act.put, List.setIfInBounds_toArray, List.set_cons_zero, List.set_cons_succ]
          refine wpAnyE_takeD (L := 999) (i := 13) (v := .int .i64 (R j).old) (some 113) rfl rfl (by kernel_rfl) (by kernel_rfl) (by kernel_rfl) (by kernel_rfl) (fun _ _ _ h => h) (Or.inl ⟨by kernel_rfl, by intro u hSu; have h0 := cell_below E4 hSu; go_simp⟩) hS ?_
          try simp only [Act.put, List.setIfInBounds_toArray, List.set_cons_zero, List.set_cons_succ]
          refine wpAnyE_takeD (L := 999) (i := 14) (v := .pointer (some ⟨w2.heap.size, 1, none⟩)) (some 114) rfl rfl (by kernel_rfl) (by kernel_rfl) (by kernel_rfl) (by kernel_rfl) (fun _ _ _ h => h) (Or.inl ⟨by kernel_rfl, by intro u hSu; go_simp⟩) hS ?_
          try simp only [Act.put, List.setIfInBounds_toArray, List.set_cons_zero, List.set_cons_succ]
          refine wpAnyE_takeD (L := 999) (i := 15) (v := .slice (some ⟨lb, lo, none⟩) L.length lc) (some 115) rfl rfl (by kernel_rfl) (by kernel_rfl) (by kernel_rfl) (by kernel_rfl) (fun _ _ _ h => h) (Or.inl ⟨by kernel_rfl, by intro u hSu; have h0 := cell_below EB hSu; go_simp⟩) hS ?_
          try simp only [Act.put, List.setIfInBounds_toArray, List.set_cons_zero, List.set_cons_succ]
          refine wpAnyE_takeD (L := 999) (i := 16) (v := .pointer (some ⟨lb, lo, none⟩)) (some 116) rfl rfl (by kernel_rfl) (by kernel_rfl) (by kernel_rfl) (by kernel_rfl) (fun _ _ _ h => h) (Or.inl ⟨by kernel_rfl, by intro u hSu; go_simp⟩) hS ?_
          try simp only [Act.put, List.setIfInBounds_toArray, List.set_cons_zero, List.set_cons_succ]
          refine wpAnyE_takeD (L := 999) (i := 17) (v := .int .i64 ((j : Int) + 1)) (some 117) rfl rfl (by kernel_rfl) (by kernel_rfl) (by kernel_rfl) (by kernel_rfl) (fun _ _ _ h => h) (Or.inl ⟨by kernel_rfl, by intro u hSu; have h0 := cell_below EY hSu; go_simp⟩) hS ?_
          try simp only [Act.put, List.setIfInBounds_toArray, List.set_cons_zero, List.set_cons_succ]
          refine wpAnyE_takeD (L := 999) (i := 18) (v := rV ⟨5, x, (R j).key, (R j).hs, (R j).nw, (R j).hd, (R j).old, (j : Int) + 1⟩) (some 118) rfl rfl (by kernel_rfl) (by kernel_rfl) (by kernel_rfl) (by kernel_rfl) (fun _ _ _ h => h) (Or.inl ⟨by kernel_rfl, by intro u hSu; unfold rV; go_simp⟩) hS ?_
          try simp only [Act.put, List.setIfInBounds_toArray, List.set_cons_zero, List.set_cons_succ]
          refine wpAnyE_ready (rs := [0, 19]) (by kernel_rfl) (by simp) ?_
          refine AllReadyE.cons rfl (fun K hK => ?_) (AllReadyE.cons rfl (fun K hK => ?_) AllReadyE.nil)
          · refine step_bs08 _ (some 100) rfl rfl rfl W6.heap.size hS.size (fun vA u1 hoA hvA hbu1 => ?_)
            refine hK.out _ _ (below_then hS hbu1) (fun hS9 => ?_)
            try simp only [Act.put, List.setIfInBounds_toArray, List.set_cons_zero, List.set_cons_succ]
            clear hK K hS
            have hS := hS9
            clear hS9
            refine wpAnyE_ready (rs := [2, 19]) (by kernel_rfl) (by simp) ?_
            refine AllReadyE.cons rfl (fun K hK => ?_) (AllReadyE.cons rfl (fun K hK => ?_) AllReadyE.nil)
            · refine step_app8m _ (some 102) rfl rfl (.tmp 100) (.tmp 101) rfl W6.heap.size _ rfl hoA rb ro n rc R rfl (fun i hi => (HRC6.out i hi).block (hS.block _ HRL.out)) (by have := HN9.out; omega) hS.size (fun vM u2 hoM hgM => ?_)
              have hbmu2 := grown_below hS hgM (fun q hq => ((hoA).lt q hq).1)
              refine hK.out _ _ hbmu2 (fun hS9 => ?_)
              try simp only [Act.put, List.setIfInBounds_toArray, List.set_cons_zero, List.set_cons_succ]
              clear hK K hS
              have hS := hS9
              clear hS9
              refine wpAnyE_ready (rs := [19]) (by kernel_rfl) (by simp) ?_
              refine AllReadyE.cons rfl (fun K hK => ?_) AllReadyE.nil
              refine step_bs8 _ (some 119) rfl rfl _ rfl ⟨5, x, (R j).key, (R j).hs, (R j).nw, (R j).hd, (R j).old, (j : Int) + 1⟩ rfl (fun X u3 hCX hXge hbu3 => ?_)
              refine hK.out _ _ (below_then hS hbu3) (fun hS9 => ?_)
              try simp only [Act.put, List.setIfInBounds_toArray, List.set_cons_zero, List.set_cons_succ]
              clear hK K hS
              have hS := hS9
              clear hS9
              have hoM' := ownI_keep hoM fun q hq => hbu3.block q ((hoM).lt q hq).2
              refine wpAnyE_ready (rs := [20]) (by kernel_rfl) (by simp) ?_
              refine AllReadyE.cons rfl (fun K hK => ?_) AllReadyE.nil
              refine step_app8 _ (some 120) rfl rfl (.tmp 102) (.tmp 119) rfl W6.heap.size _ n R rfl hoM' X 0 1 ⟨5, x, (R j).key, (R j).hs, (R j).nw, (R j).hd, (R j).old, (j : Int) + 1⟩ rfl hCX (by have := HN9.out; omega) hS.size (fun vN uN hoN hgN => ?_)
              have hbN := grown_below hS hgN (fun q hq => ((hoM').lt q hq).1)
              obtain ⟨na, nc, rfl, hnc, hrow⟩ := row8_of_own hoN
              have HMO : Hid (RecsAt uN na (n + 1) (upR R n ⟨5, x, (R j).key, (R j).hs, (R j).nw, (R j).hd, (R j).old, (j : Int) + 1⟩)) := recs_of hrow
              have HBN : Hid (Below W6.heap.size W6 uN) := hbN
              refine hK.out _ _ hbN (fun hS9 => ?_)
              try simp only [Act.put, List.setIfInBounds_toArray, List.set_cons_zero, List.set_cons_succ]
              clear hK K hS
              have hS := hS9
              clear hS9
              refine wpAnyE_takeD (L := 999) (i := 21) (v := .slice na (n + 1) nc) (some 9) rfl rfl (by kernel_rfl) (by kernel_rfl) (by kernel_rfl) (by kernel_rfl) (fun _ _ _ h => h) (Or.inl ⟨by kernel_rfl, by intro u hSu; go_simp⟩) hS ?_
              try simp only [Act.put, List.setIfInBounds_toArray, List.set_cons_zero, List.set_cons_succ]
              refine wpAnyE_done (by kernel_rfl) ?_ _
              go_simp
              go_wp2_with fail
              refine (implCbC_any (n + 1) (upR R n ⟨5, x, (R j).key, (R j).hs, (R j).nw, (R j).hd, (R j).old, (j : Int) + 1⟩) na nc x uN (by have := HN9.out; omega) HMO.out).mono ?_
              intro e w7 hpost
              have hJ := HJ.out
              have hup : ∀ i, i < n → upR R n ⟨5, x, (R j).key, (R j).hs, (R j).nw, (R j).hd, (R j).old, (j : Int) + 1⟩ i = R i := fun i hi => by simp [upR, Nat.ne_of_lt hi]
              have hun : upR R n ⟨5, x, (R j).key, (R j).hs, (R j).nw, (R j).hd, (R j).old, (j : Int) + 1⟩ n = ⟨5, x, (R j).key, (R j).hs, (R j).nw, (R j).hd, (R j).old, (j : Int) + 1⟩ := by simp [upR]
              have hyy : y = ((j + 1 : Nat) : Int) := by have := hJ.2.2.2; rw [HLX.out] at this; simpa [zI] using this
              have hz0 : cbC (upR R n ⟨5, x, (R j).key, (R j).hs, (R j).nw, (R j).hd, (R j).old, (j : Int) + 1⟩) x (n + 1) = 0 := cbC_more (j := j) (y := (j : Int) + 1) HCZ.out HN9.out.1 hup hJ.1 hJ.2.1 (by omega) hun
              have hbx : bkL (upR R n ⟨5, x, (R j).key, (R j).hs, (R j).nw, (R j).hd, (R j).old, (j : Int) + 1⟩) x (n + 1) (n + 1) = xs := bkL_undo (x := y) hup (by rw [hun]; exact ⟨rfl, rfl, by rw [hyy]; simp⟩) (by rw [HLE.out, HLX.out])
              obtain ⟨ma, mc, he, -, hb7, hom⟩ := iresOkC hpost hz0
              rw [hbx] at he hom
              subst he
              obtain ⟨m, hm⟩ : ∃ m, m = xs.length := ⟨_, rfl⟩
              have hLm : L.length = m + 1 := by rw [HLX.out, hm]; rfl
              have hzi : ∀ i, i < m → zI L (i + 1) = zI xs i := fun i hi => by rw [HLX.out]; simp [zI]
              rw [← hm] at hom ⊢
              have HM7 : Hid (IntsAt w7 ma m (zI xs)) := hom.at
              have hb67 : Below W6.heap.size W6 w7 := below_then HBN.out hb7
              have EB7 := cell_below EB hb67
              rw [hLm] at EB7
              have HT7 : Hid (∀ o, o = (if lc = 1 then lo else lo + 1) → IntsAt w7 (some ⟨lb, o, none⟩) m (zI xs)) := fun o ho => by
                by_cases hm0 : m = 0
                · exact .inl hm0
                · have hc1 : lc ≠ 1 := by have := HCP.out; omega
                  rw [if_neg hc1] at ho
                  subst ho
                  rcases HLC6.out.below hb67 with h | ⟨b', o', e', hl', hc'⟩
                  · omega
                  · simp only [Option.some.injEq, Addr.mk.injEq, and_true] at e'
                    obtain ⟨rfl, rfl⟩ := e'
                    exact .inr ⟨lb, lo + 1, rfl, hl', fun i hi => by rw [← hzi i hi, show lo + 1 + i = lo + (i + 1) by omega]; exact hc' (i + 1) (by omega)⟩
              have HB7 : Hid (Below w.heap.size w w7) := below_then HB6.out hb67
              have HM9 : Hid (m ≤ 401 ∧ m + 1 ≤ lc) := ⟨by have := HLL.out; omega, by have := HCP.out; omega⟩
              clear hpost hJ hup hun hyy hz0 hbx hb7 hom hm hLm hzi hb67 hS
              go_upto_region 18 with fail
              obtain ⟨W8, hW8⟩ : ∃ y, y = w7.alloc (.cells #[.int .i64 0, .slice ma m mc] 44) := ⟨_, rfl⟩
              have hb8 : Below w7.heap.size w7 W8 := by rw [hW8]; exact below_new _ _
              have F0 : W8.cell? ⟨w7.heap.size, 0, none⟩ = some (.int .i64 0) := by rw [hW8]; simp [go_sem]
              have F1 : W8.cell? ⟨w7.heap.size, 1, none⟩ = some (.slice ma m mc) := by rw [hW8]; simp [go_sem]
              have FB := cell_below EB7 hb8
              have HM8 : Hid (IntsAt W8 ma m (zI xs)) := HM7.out.below hb8
              have HT8 : Hid (∀ o, o = (if lc = 1 then lo else lo + 1) → IntsAt W8 (some ⟨lb, o, none⟩) m (zI xs)) := fun o ho => (HT7.out o ho).below hb8
              have HB8 : Hid (Below w.heap.size w W8) := below_then HB7.out hb8
              rw [← hW8]
              clear hW8 hb8 EB7 HM7 HT7 HB7
              have hm1 : (1 : Int) ≤ (m : Int) + 1 := by omega
              have hm2 : (m : Int) + 1 ≤ (lc : Int) := by have := HM9.out; omega
              by_cases hl1 : lc = 1
              · have HT9 : Hid (IntsAt W8 (some ⟨lb, lo, none⟩) m (zI xs)) := HT8.out lo (by rw [if_pos hl1])
                clear HT8
                have hm0 : m = 0 := by have := HM9.out; omega
                subst hl1
                subst hm0
                simp only [Nat.zero_add] at FB
                clear hm1 hm2
                refine wp_region_E 999 (S := fun u => Below W8.heap.size W8 u) (by kernel_rfl) ((Below.refl _ _).drew) (fun hS => ?_)
                obtain ⟨u0, hu0⟩ : ∃ y, y = W8.drew := ⟨_, rfl⟩
                rw [← hu0] at hS ⊢
                clear hu0
                refine wpAnyE_takeD (L := 999) (i := 0) (v := .pointer (some ⟨w7.heap.size, 0, none⟩)) (some 124) rfl rfl (by kernel_rfl) (by kernel_rfl) (by kernel_rfl) (by kernel_rfl) (fun _ _ _ h => h) (Or.inl ⟨by kernel_rfl, by intro u hSu; go_simp⟩) hS ?_
                try simp only [Act.put, List.setIfInBounds_toArray, List.set_cons_zero, List.set_cons_succ]
                refine wpAnyE_takeD (L := 999) (i := 1) (v := .int .i64 0) (some 125) rfl rfl (by kernel_rfl) (by kernel_rfl) (by kernel_rfl) (by kernel_rfl) (fun _ _ _ h => h) (Or.inl ⟨by kernel_rfl, by intro u hSu; have h0 := cell_below F0 hSu; go_simp⟩) hS ?_
                try simp only [Act.put, List.setIfInBounds_toArray, List.set_cons_zero, List.set_cons_succ]
                refine wpAnyE_takeD (L := 999) (i := 2) (v := .bool true) (some 126) rfl rfl (by kernel_rfl) (by kernel_rfl) (by kernel_rfl) (by kernel_rfl) (fun _ _ _ h => h) (Or.inl ⟨by kernel_rfl, by intro u hSu; go_simp⟩) hS ?_
                try simp only [Act.put, List.setIfInBounds_toArray, List.set_cons_zero, List.set_cons_succ]
                refine wpAnyE_takeD (L := 999) (i := 3) (v := .bool true) (some 127) rfl rfl (by kernel_rfl) (by kernel_rfl) (by kernel_rfl) (by kernel_rfl) (fun _ _ _ h => h) (Or.inl ⟨by kernel_rfl, by intro u hSu; go_simp⟩) hS ?_
                try simp only [Act.put, List.setIfInBounds_toArray, List.set_cons_zero, List.set_cons_succ]
                refine wpAnyE_takeD (L := 999) (i := 4) (v := .pointer (some ⟨w7.heap.size, 1, none⟩)) (some 128) rfl rfl (by kernel_rfl) (by kernel_rfl) (by kernel_rfl) (by kernel_rfl) (fun _ _ _ h => h) (Or.inl ⟨by kernel_rfl, by intro u hSu; go_simp⟩) hS ?_
                try simp only [Act.put, List.setIfInBounds_toArray, List.set_cons_zero, List.set_cons_succ]
                refine wpAnyE_takeD (L := 999) (i := 5) (v := .slice ma 0 mc) (some 129) rfl rfl (by kernel_rfl) (by kernel_rfl) (by kernel_rfl) (by kernel_rfl) (fun _ _ _ h => h) (Or.inl ⟨by kernel_rfl, by intro u hSu; have h0 := cell_below F1 hSu; go_simp⟩) hS ?_
                try simp only [Act.put, List.setIfInBounds_toArray, List.set_cons_zero, List.set_cons_succ]
                refine wpAnyE_takeD (L := 999) (i := 6) (v := .pointer (some ⟨w2.heap.size, 1, none⟩)) (some 130) rfl rfl (by kernel_rfl) (by kernel_rfl) (by kernel_rfl) (by kernel_rfl) (fun _ _ _ h => h) (Or.inl ⟨by kernel_rfl, by intro u hSu; go_simp⟩) hS ?_
                try simp only [Act.put, List.setIfInBounds_toArray, List.set_cons_zero, List.set_cons_succ]
                refine wpAnyE_takeD (L := 999) (i := 7) (v := .slice (some ⟨lb, lo, none⟩) 1 1) (some 131) rfl rfl (by kernel_rfl) (by kernel_rfl) (by kernel_rfl) (by kernel_rfl) (fun _ _ _ h => h) (Or.inl ⟨by kernel_rfl, by intro u hSu; have h0 := cell_below FB hSu; go_simp⟩) hS ?_
                try simp only [Act.put, List.setIfInBounds_toArray, List.set_cons_zero, List.set_cons_succ]
                refine wpAnyE_takeD (L := 999) (i := 8) (v := .slice (some ⟨lb, lo, none⟩) 0 0) (some 132) rfl rfl (by kernel_rfl) (by kernel_rfl) (by kernel_rfl) (by kernel_rfl) (fun _ _ _ h => h) (Or.inl ⟨by kernel_rfl, by intro u hSu; go_simp⟩) hS ?_
                try simp only [Act.put, List.setIfInBounds_toArray, List.set_cons_zero, List.set_cons_succ]
                refine wpAnyE_ready (rs := [9]) (by kernel_rfl) (by simp) ?_
                refine AllReadyE.cons rfl (fun K hK => ?_) AllReadyE.nil
                go_simp
                refine (lwNums_same 0 (zI xs) ma (some ⟨lb, lo, none⟩) mc 0 _ (by have := HM9.out; omega) (HM8.out.below hS) (HT9.out.below hS)).mono ?_
                rintro e u9 ⟨rfl, hb9⟩
                refine hK.out _ _ (below_then hS hb9) (fun hS9 => ?_)
                try simp only [Act.put, List.setIfInBounds_toArray, List.set_cons_zero, List.set_cons_succ]
                clear hK K hS
                have hS := hS9
                clear hS9
                refine wpAnyE_takeD (L := 999) (i := 10) (v := .bool true) (some 134) rfl rfl (by kernel_rfl) (by kernel_rfl) (by kernel_rfl) (by kernel_rfl) (fun _ _ _ h => h) (Or.inl ⟨by kernel_rfl, by intro u hSu; go_simp⟩) hS ?_
                try simp only [Act.put, List.setIfInBounds_toArray, List.set_cons_zero, List.set_cons_succ]
                refine wpAnyE_takeD (L := 999) (i := 11) (v := .bool true) (some 2) rfl rfl (by kernel_rfl) (by kernel_rfl) (by kernel_rfl) (by kernel_rfl) (fun _ _ _ h => h) (Or.inl ⟨by kernel_rfl, by intro u hSu; go_simp⟩) hS ?_
                try simp only [Act.put, List.setIfInBounds_toArray, List.set_cons_zero, List.set_cons_succ]
                refine wpAnyE_done (by kernel_rfl) ?_ _
                go_simp
                go_wp2_with fail
                go_ret
                exact ⟨rfl, below_then HB8.out hS⟩
              · have HT9 : Hid (IntsAt W8 (some ⟨lb, lo + 1, none⟩) m (zI xs)) := HT8.out (lo + 1) (by rw [if_neg hl1])
                clear HT8
                refine wp_region_E 999 (S := fun u => Below W8.heap.size W8 u) (by kernel_rfl) ((Below.refl _ _).drew) (fun hS => ?_)
                obtain ⟨u0, hu0⟩ : ∃ y, y = W8.drew := ⟨_, rfl⟩
                rw [← hu0] at hS ⊢
                clear hu0
                refine wpAnyE_takeD (L := 999) (i := 0) (v := .pointer (some ⟨w7.heap.size, 0, none⟩)) (some 124) rfl rfl (by kernel_rfl) (by kernel_rfl) (by kernel_rfl) (by kernel_rfl) (fun _ _ _ h => h) (Or.inl ⟨by kernel_rfl, by intro u hSu; go_simp⟩) hS ?_
                try simp only [Act.put, List.setIfInBounds_toArray, List.set_cons_zero, List.set_cons_succ]
                refine wpAnyE_takeD (L := 999) (i := 1) (v := .int .i64 0) (some 125) rfl rfl (by kernel_rfl) (by kernel_rfl) (by kernel_rfl) (by kernel_rfl) (fun _ _ _ h => h) (Or.inl ⟨by kernel_rfl, by intro u hSu; have h0 := cell_below F0 hSu; go_simp⟩) hS ?_
                try simp only [Act.put, List.setIfInBounds_toArray, List.set_cons_zero, List.set_cons_succ]
                refine wpAnyE_takeD (L := 999) (i := 2) (v := .bool true) (some 126) rfl rfl (by kernel_rfl) (by kernel_rfl) (by kernel_rfl) (by kernel_rfl) (fun _ _ _ h => h) (Or.inl ⟨by kernel_rfl, by intro u hSu; go_simp⟩) hS ?_
                try simp only [Act.put, List.setIfInBounds_toArray, List.set_cons_zero, List.set_cons_succ]
                refine wpAnyE_takeD (L := 999) (i := 3) (v := .bool true) (some 127) rfl rfl (by kernel_rfl) (by kernel_rfl) (by kernel_rfl) (by kernel_rfl) (fun _ _ _ h => h) (Or.inl ⟨by kernel_rfl, by intro u hSu; go_simp⟩) hS ?_
                try simp only [Act.put, List.setIfInBounds_toArray, List.set_cons_zero, List.set_cons_succ]
                refine wpAnyE_takeD (L := 999) (i := 4) (v := .pointer (some ⟨w7.heap.size, 1, none⟩)) (some 128) rfl rfl (by kernel_rfl) (by kernel_rfl) (by kernel_rfl) (by kernel_rfl) (fun _ _ _ h => h) (Or.inl ⟨by kernel_rfl, by intro u hSu; go_simp⟩) hS ?_
                try simp only [Act.put, List.setIfInBounds_toArray, List.set_cons_zero, List.set_cons_succ]
                refine wpAnyE_takeD (L := 999) (i := 5) (v := .slice ma m mc) (some 129) rfl rfl (by kernel_rfl) (by kernel_rfl) (by kernel_rfl) (by kernel_rfl) (fun _ _ _ h => h) (Or.inl ⟨by kernel_rfl, by intro u hSu; have h0 := cell_below F1 hSu; go_simp⟩) hS ?_
                try simp only [Act.put, List.setIfInBounds_toArray, List.set_cons_zero, List.set_cons_succ]
                refine wpAnyE_takeD (L := 999) (i := 6) (v := .pointer (some ⟨w2.heap.size, 1, none⟩)) (some 130) rfl rfl (by kernel_rfl) (by kernel_rfl) (by kernel_rfl) (by kernel_rfl) (fun _ _ _ h => h) (Or.inl ⟨by kernel_rfl, by intro u hSu; go_simp⟩) hS ?_
                try simp only [Act.put, List.setIfInBounds_toArray, List.set_cons_zero, List.set_cons_succ]
                refine wpAnyE_takeD (L := 999) (i := 7) (v := .slice (some ⟨lb, lo, none⟩) (m + 1) lc) (some 131) rfl rfl (by kernel_rfl) (by kernel_rfl) (by kernel_rfl) (by kernel_rfl) (fun _ _ _ h => h) (Or.inl ⟨by kernel_rfl, by intro u hSu; have h0 := cell_below FB hSu; go_simp⟩) hS ?_
                try simp only [Act.put, List.setIfInBounds_toArray, List.set_cons_zero, List.set_cons_succ]
                refine wpAnyE_takeD (L := 999) (i := 8) (v := .slice (some ⟨lb, lo + 1, none⟩) m (lc - 1)) (some 132) rfl rfl (by kernel_rfl) (by kernel_rfl) (by kernel_rfl) (by kernel_rfl) (fun _ _ _ h => h) (Or.inl ⟨by kernel_rfl, by intro u hSu; go_simp⟩) hS ?_
                try simp only [Act.put, List.setIfInBounds_toArray, List.set_cons_zero, List.set_cons_succ]
                refine wpAnyE_ready (rs := [9]) (by kernel_rfl) (by simp) ?_
                refine AllReadyE.cons rfl (fun K hK => ?_) AllReadyE.nil
                go_simp
                refine (lwNums_same m (zI xs) ma (some ⟨lb, lo + 1, none⟩) mc (lc - 1) _ (by have := HM9.out; omega) (HM8.out.below hS) (HT9.out.below hS)).mono ?_
                rintro e u9 ⟨rfl, hb9⟩
                refine hK.out _ _ (below_then hS hb9) (fun hS9 => ?_)
                try simp only [Act.put, List.setIfInBounds_toArray, List.set_cons_zero, List.set_cons_succ]
                clear hK K hS
                have hS := hS9
                clear hS9
                refine wpAnyE_takeD (L := 999) (i := 10) (v := .bool true) (some 134) rfl rfl (by kernel_rfl) (by kernel_rfl) (by kernel_rfl) (by kernel_rfl) (fun _ _ _ h => h) (Or.inl ⟨by kernel_rfl, by intro u hSu; go_simp⟩) hS ?_
                try simp only [Act.put, List.setIfInBounds_toArray, List.set_cons_zero, List.set_cons_succ]
                refine wpAnyE_takeD (L := 999) (i := 11) (v := .bool true) (some 2) rfl rfl (by kernel_rfl) (by kernel_rfl) (by kernel_rfl) (by kernel_rfl) (fun _ _ _ h => h) (Or.inl ⟨by kernel_rfl, by intro u hSu; go_simp⟩) hS ?_
                try simp only [Act.put, List.setIfInBounds_toArray, List.set_cons_zero, List.set_cons_succ]
                refine wpAnyE_done (by kernel_rfl) ?_ _
                go_simp
                go_wp2_with fail
                go_ret
                exact ⟨rfl, below_then HB8.out hS⟩
            · refine step_bs8 _ (some 119) rfl rfl _ rfl ⟨5, x, (R j).key, (R j).hs, (R j).nw, (R j).hd, (R j).old, (j : Int) + 1⟩ rfl (fun X u2 hCX hXge hbu2 => ?_)
              refine hK.out _ _ (below_then hS hbu2) (fun hS9 => ?_)
              try simp only [Act.put, List.setIfInBounds_toArray, List.set_cons_zero, List.set_cons_succ]
              clear hK K hS
              have hS := hS9
              clear hS9
              have hoA' := ownI_keep hoA fun q hq => hbu2.block q ((hoA).lt q hq).2
              refine wpAnyE_ready (rs := [2]) (by kernel_rfl) (by simp) ?_
              refine AllReadyE.cons rfl (fun K hK => ?_) AllReadyE.nil
              refine step_app8m _ (some 102) rfl rfl (.tmp 100) (.tmp 101) rfl W6.heap.size _ rfl hoA' rb ro n rc R rfl (fun i hi => (HRC6.out i hi).block (hS.block _ HRL.out)) (by have := HN9.out; omega) hS.size (fun vM u3 hoM hgM => ?_)
              have hbmu3 := grown_below hS hgM (fun q hq => ((hoA').lt q hq).1)
              refine hK.out _ _ hbmu3 (fun hS9 => ?_)
              try simp only [Act.put, List.setIfInBounds_toArray, List.set_cons_zero, List.set_cons_succ]
              have hCX' := hCX.block (hgM.block X (Go.block_lt_of_cell hCX.1) (fun e => (by have h1 := ((hoA).lt X e.symm).2; have h2 := hXge; omega)))
              clear hK K hS
              have hS := hS9
              clear hS9
              refine wpAnyE_ready (rs := [20]) (by kernel_rfl) (by simp) ?_
              refine AllReadyE.cons rfl (fun K hK => ?_) AllReadyE.nil
              refine step_app8 _ (some 120) rfl rfl (.tmp 102) (.tmp 119) rfl W6.heap.size _ n R rfl hoM X 0 1 ⟨5, x, (R j).key, (R j).hs, (R j).nw, (R j).hd, (R j).old, (j : Int) + 1⟩ rfl hCX' (by have := HN9.out; omega) hS.size (fun vN uN hoN hgN => ?_)
              have hbN := grown_below hS hgN (fun q hq => ((hoM).lt q hq).1)
              obtain ⟨na, nc, rfl, hnc, hrow⟩ := row8_of_own hoN
              have HMO : Hid (RecsAt uN na (n + 1) (upR R n ⟨5, x, (R j).key, (R j).hs, (R j).nw, (R j).hd, (R j).old, (j : Int) + 1⟩)) := recs_of hrow
              have HBN : Hid (Below W6.heap.size W6 uN) := hbN
              refine hK.out _ _ hbN (fun hS9 => ?_)
              try simp only [Act.put, List.setIfInBounds_toArray, List.set_cons_zero, List.set_cons_succ]
              clear hK K hS
              have hS := hS9
              clear hS9
              refine wpAnyE_takeD (L := 999) (i := 21) (v := .slice na (n + 1) nc) (some 9) rfl rfl (by kernel_rfl) (by kernel_rfl) (by kernel_rfl) (by kernel_rfl) (fun _ _ _ h => h) (Or.inl ⟨by kernel_rfl, by intro u hSu; go_simp⟩) hS ?_
              try simp only [Act.put, List.setIfInBounds_toArray, List.set_cons_zero, List.set_cons_succ]
              refine wpAnyE_done (by kernel_rfl) ?_ _
              go_simp
              go_wp2_with fail
              refine (implCbC_any (n + 1) (upR R n ⟨5, x, (R j).key, (R j).hs, (R j).nw, (R j).hd, (R j).old, (j : Int) + 1⟩) na nc x uN (by have := HN9.out; omega) HMO.out).mono ?_
              intro e w7 hpost
              have hJ := HJ.out
              have hup : ∀ i, i < n → upR R n ⟨5, x, (R j).key, (R j).hs, (R j).nw, (R j).hd, (R j).old, (j : Int) + 1⟩ i = R i := fun i hi => by simp [upR, Nat.ne_of_lt hi]
              have hun : upR R n ⟨5, x, (R j).key, (R j).hs, (R j).nw, (R j).hd, (R j).old, (j : Int) + 1⟩ n = ⟨5, x, (R j).key, (R j).hs, (R j).nw, (R j).hd, (R j).old, (j : Int) + 1⟩ := by simp [upR]
              have hyy : y = ((j + 1 : Nat) : Int) := by have := hJ.2.2.2; rw [HLX.out] at this; simpa [zI] using this
              have hz0 : cbC (upR R n ⟨5, x, (R j).key, (R j).hs, (R j).nw, (R j).hd, (R j).old, (j : Int) + 1⟩) x (n + 1) = 0 := cbC_more (j := j) (y := (j : Int) + 1) HCZ.out HN9.out.1 hup hJ.1 hJ.2.1 (by omega) hun
              have hbx : bkL (upR R n ⟨5, x, (R j).key, (R j).hs, (R j).nw, (R j).hd, (R j).old, (j : Int) + 1⟩) x (n + 1) (n + 1) = xs := bkL_undo (x := y) hup (by rw [hun]; exact ⟨rfl, rfl, by rw [hyy]; simp⟩) (by rw [HLE.out, HLX.out])
              obtain ⟨ma, mc, he, -, hb7, hom⟩ := iresOkC hpost hz0
              rw [hbx] at he hom
              subst he
              obtain ⟨m, hm⟩ : ∃ m, m = xs.length := ⟨_, rfl⟩
              have hLm : L.length = m + 1 := by rw [HLX.out, hm]; rfl
              have hzi : ∀ i, i < m → zI L (i + 1) = zI xs i := fun i hi => by rw [HLX.out]; simp [zI]
              rw [← hm] at hom ⊢
              have HM7 : Hid (IntsAt w7 ma m (zI xs)) := hom.at
              have hb67 : Below W6.heap.size W6 w7 := below_then HBN.out hb7
              have EB7 := cell_below EB hb67
              rw [hLm] at EB7
              have HT7 : Hid (∀ o, o = (if lc = 1 then lo else lo + 1) → IntsAt w7 (some ⟨lb, o, none⟩) m (zI xs)) := fun o ho => by
                by_cases hm0 : m = 0
                · exact .inl hm0
                · have hc1 : lc ≠ 1 := by have := HCP.out; omega
                  rw [if_neg hc1] at ho
                  subst ho
                  rcases HLC6.out.below hb67 with h | ⟨b', o', e', hl', hc'⟩
                  · omega
                  · simp only [Option.some.injEq, Addr.mk.injEq, and_true] at e'
                    obtain ⟨rfl, rfl⟩ := e'
                    exact .inr ⟨lb, lo + 1, rfl, hl', fun i hi => by rw [← hzi i hi, show lo + 1 + i = lo + (i + 1) by omega]; exact hc' (i + 1) (by omega)⟩
              have HB7 : Hid (Below w.heap.size w w7) := below_then HB6.out hb67
              have HM9 : Hid (m ≤ 401 ∧ m + 1 ≤ lc) := ⟨by have := HLL.out; omega, by have := HCP.out; omega⟩
              clear hpost hJ hup hun hyy hz0 hbx hb7 hom hm hLm hzi hb67 hS
              go_upto_region 18 with fail
              obtain ⟨W8, hW8⟩ : ∃ y, y = w7.alloc (.cells #[.int .i64 0, .slice ma m mc] 44) := ⟨_, rfl⟩
              have hb8 : Below w7.heap.size w7 W8 := by rw [hW8]; exact below_new _ _
              have F0 : W8.cell? ⟨w7.heap.size, 0, none⟩ = some (.int .i64 0) := by rw [hW8]; simp [go_sem]
              have F1 : W8.cell? ⟨w7.heap.size, 1, none⟩ = some (.slice ma m mc) := by rw [hW8]; simp [go_sem]
              have FB := cell_below EB7 hb8
              have HM8 : Hid (IntsAt W8 ma m (zI xs)) := HM7.out.below hb8
              have HT8 : Hid (∀ o, o = (if lc = 1 then lo else lo + 1) → IntsAt W8 (some ⟨lb, o, none⟩) m (zI xs)) := fun o ho => (HT7.out o ho).below hb8
              have HB8 : Hid (Below w.heap.size w W8) := below_then HB7.out hb8
              rw [← hW8]
              clear hW8 hb8 EB7 HM7 HT7 HB7
              have hm1 : (1 : Int) ≤ (m : Int) + 1 := by omega
              have hm2 : (m : Int) + 1 ≤ (lc : Int) := by have := HM9.out; omega
              by_cases hl1 : lc = 1
              · have HT9 : Hid (IntsAt W8 (some ⟨lb, lo, none⟩) m (zI xs)) := HT8.out lo (by rw [if_pos hl1])
                clear HT8
                have hm0 : m = 0 := by have := HM9.out; omega
                subst hl1
                subst hm0
                simp only [Nat.zero_add] at FB
                clear hm1 hm2
                refine wp_region_E 999 (S := fun u => Below W8.heap.size W8 u) (by kernel_rfl) ((Below.refl _ _).drew) (fun hS => ?_)
                obtain ⟨u0, hu0⟩ : ∃ y, y = W8.drew := ⟨_, rfl⟩
                rw [← hu0] at hS ⊢
                clear hu0
                refine wpAnyE_takeD (L := 999) (i := 0) (v := .pointer (some ⟨w7.heap.size, 0, none⟩)) (some 124) rfl rfl (by kernel_rfl) (by kernel_rfl) (by kernel_rfl) (by kernel_rfl) (fun _ _ _ h => h) (Or.inl ⟨by kernel_rfl, by intro u hSu; go_simp⟩) hS ?_
                try simp only [Act.put, List.setIfInBounds_toArray, List.set_cons_zero, List.set_cons_succ]
                refine wpAnyE_takeD (L := 999) (i := 1) (v := .int .i64 0) (some 125) rfl rfl (by kernel_rfl) (by kernel_rfl) (by kernel_rfl) (by kernel_rfl) (fun _ _ _ h => h) (Or.inl ⟨by kernel_rfl, by intro u hSu; have h0 := cell_below F0 hSu; go_simp⟩) hS ?_
                try simp only [Act.put, List.setIfInBounds_toArray, List.set_cons_zero, List.set_cons_succ]
                refine wpAnyE_takeD (L := 999) (i := 2) (v := .bool true) (some 126) rfl rfl (by kernel_rfl) (by kernel_rfl) (by kernel_rfl) (by kernel_rfl) (fun _ _ _ h => h) (Or.inl ⟨by kernel_rfl, by intro u hSu; go_simp⟩) hS ?_
                try simp only [Act.put, List.setIfInBounds_toArray, List.set_cons_zero, List.set_cons_succ]
                refine wpAnyE_takeD (L := 999) (i := 3) (v := .bool true) (some 127) rfl rfl (by kernel_rfl) (by kernel_rfl) (by kernel_rfl) (by kernel_rfl) (fun _ _ _ h => h) (Or.inl ⟨by kernel_rfl, by intro u hSu; go_simp⟩) hS ?_
                try simp only [Act.put, List.setIfInBounds_toArray, List.set_cons_zero, List.set_cons_succ]
                refine wpAnyE_takeD (L := 999) (i := 4) (v := .pointer (some ⟨w7.heap.size, 1, none⟩)) (some 128) rfl rfl (by kernel_rfl) (by kernel_rfl) (by kernel_rfl) (by kernel_rfl) (fun _ _ _ h => h) (Or.inl ⟨by kernel_rfl, by intro u hSu; go_simp⟩) hS ?_
                try simp only [Act.put, List.setIfInBounds_toArray, List.set_cons_zero, List.set_cons_succ]
                refine wpAnyE_takeD (L := 999) (i := 5) (v := .slice ma 0 mc) (some 129) rfl rfl (by kernel_rfl) (by kernel_rfl) (by kernel_rfl) (by kernel_rfl) (fun _ _ _ h => h) (Or.inl ⟨by kernel_rfl, by intro u hSu; have h0 := cell_below F1 hSu; go_simp⟩) hS ?_
                try simp only [Act.put, List.setIfInBounds_toArray, List.set_cons_zero, List.set_cons_succ]
                refine wpAnyE_takeD (L := 999) (i := 6) (v := .pointer (some ⟨w2.heap.size, 1, none⟩)) (some 130) rfl rfl (by kernel_rfl) (by kernel_rfl) (by kernel_rfl) (by kernel_rfl) (fun _ _ _ h => h) (Or.inl ⟨by kernel_rfl, by intro u hSu; go_simp⟩) hS ?_
                try simp only [Act.put, List.setIfInBounds_toArray, List.set_cons_zero, List.set_cons_succ]
                refine wpAnyE_takeD (L := 999) (i := 7) (v := .slice (some ⟨lb, lo, none⟩) 1 1) (some 131) rfl rfl (by kernel_rfl) (by kernel_rfl) (by kernel_rfl) (by kernel_rfl) (fun _ _ _ h => h) (Or.inl ⟨by kernel_rfl, by intro u hSu; have h0 := cell_below FB hSu; go_simp⟩) hS ?_
                try simp only [Act.put, List.setIfInBounds_toArray, List.set_cons_zero, List.set_cons_succ]
                refine wpAnyE_takeD (L := 999) (i := 8) (v := .slice (some ⟨lb, lo, none⟩) 0 0) (some 132) rfl rfl (by kernel_rfl) (by kernel_rfl) (by kernel_rfl) (by kernel_rfl) (fun _ _ _ h => h) (Or.inl ⟨by kernel_rfl, by intro u hSu; go_simp⟩) hS ?_
                try simp only [Act.put, List.setIfInBounds_toArray, List.set_cons_zero, List.set_cons_succ]
                refine wpAnyE_ready (rs := [9]) (by kernel_rfl) (by simp) ?_
                refine AllReadyE.cons rfl (fun K hK => ?_) AllReadyE.nil
                go_simp
                refine (lwNums_same 0 (zI xs) ma (some ⟨lb, lo, none⟩) mc 0 _ (by have := HM9.out; omega) (HM8.out.below hS) (HT9.out.below hS)).mono ?_
                rintro e u9 ⟨rfl, hb9⟩
                refine hK.out _ _ (below_then hS hb9) (fun hS9 => ?_)
                try simp only [Act.put, List.setIfInBounds_toArray, List.set_cons_zero, List.set_cons_succ]
                clear hK K hS
                have hS := hS9
                clear hS9
                refine wpAnyE_takeD (L := 999) (i := 10) (v := .bool true) (some 134) rfl rfl (by kernel_rfl) (by kernel_rfl) (by kernel_rfl) (by kernel_rfl) (fun _ _ _ h => h) (Or.inl ⟨by kernel_rfl, by intro u hSu; go_simp⟩) hS ?_
                try simp only [Act.put, List.setIfInBounds_toArray, List.set_cons_zero, List.set_cons_succ]
                refine wpAnyE_takeD (L := 999) (i := 11) (v := .bool true) (some 2) rfl rfl (by kernel_rfl) (by kernel_rfl) (by kernel_rfl) (by kernel_rfl) (fun _ _ _ h => h) (Or.inl ⟨by kernel_rfl, by intro u hSu; go_simp⟩) hS ?_
                try simp only [Act.put, List.setIfInBounds_toArray, List.set_cons_zero, List.set_cons_succ]
                refine wpAnyE_done (by kernel_rfl) ?_ _
                go_simp
                go_wp2_with fail
                go_ret
                exact ⟨rfl, below_then HB8.out hS⟩
              · have HT9 : Hid (IntsAt W8 (some ⟨lb, lo + 1, none⟩) m (zI xs)) := HT8.out (lo + 1) (by rw [if_neg hl1])
                clear HT8
                refine wp_region_E 999 (S := fun u => Below W8.heap.size W8 u) (by kernel_rfl) ((Below.refl _ _).drew) (fun hS => ?_)
                obtain ⟨u0, hu0⟩ : ∃ y, y = W8.drew := ⟨_, rfl⟩
                rw [← hu0] at hS ⊢
                clear hu0
                refine wpAnyE_takeD (L := 999) (i := 0) (v := .pointer (some ⟨w7.heap.size, 0, none⟩)) (some 124) rfl rfl (by kernel_rfl) (by kernel_rfl) (by kernel_rfl) (by kernel_rfl) (fun _ _ _ h => h) (Or.inl ⟨by kernel_rfl, by intro u hSu; go_simp⟩) hS ?_
                try simp only [Act.put, List.setIfInBounds_toArray, List.set_cons_zero, List.set_cons_succ]
                refine wpAnyE_takeD (L := 999) (i := 1) (v := .int .i64 0) (some 125) rfl rfl (by kernel_rfl) (by kernel_rfl) (by kernel_rfl) (by kernel_rfl) (fun _ _ _ h => h) (Or.inl ⟨by kernel_rfl, by intro u hSu; have h0 := cell_below F0 hSu; go_simp⟩) hS ?_
                try simp only [Act.put, List.setIfInBounds_toArray, List.set_cons_zero, List.set_cons_succ]
                refine wpAnyE_takeD (L := 999) (i := 2) (v := .bool true) (some 126) rfl rfl (by kernel_rfl) (by kernel_rfl) (by kernel_rfl) (by kernel_rfl) (fun _ _ _ h => h) (Or.inl ⟨by kernel_rfl, by intro u hSu; go_simp⟩) hS ?_
                try simp only [Act.put, List.setIfInBounds_toArray, List.set_cons_zero, List.set_cons_succ]
                refine wpAnyE_takeD (L := 999) (i := 3) (v := .bool true) (some 127) rfl rfl (by kernel_rfl) (by kernel_rfl) (by kernel_rfl) (by kernel_rfl) (fun _ _ _ h => h) (Or.inl ⟨by kernel_rfl, by intro u hSu; go_simp⟩) hS ?_
                try simp only [Act.put, List.setIfInBounds_toArray, List.set_cons_zero, List.set_cons_succ]
                refine wpAnyE_takeD (L := 999) (i := 4) (v := .pointer (some ⟨w7.heap.size, 1, none⟩)) (some 128) rfl rfl (by kernel_rfl) (by kernel_rfl) (by kernel_rfl) (by kernel_rfl) (fun _ _ _ h => h) (Or.inl ⟨by kernel_rfl, by intro u hSu; go_simp⟩) hS ?_
                try simp only [Act.put, List.setIfInBounds_toArray, List.set_cons_zero, List.set_cons_succ]
                refine wpAnyE_takeD (L := 999) (i := 5) (v := .slice ma m mc) (some 129) rfl rfl (by kernel_rfl) (by kernel_rfl) (by kernel_rfl) (by kernel_rfl) (fun _ _ _ h => h) (Or.inl ⟨by kernel_rfl, by intro u hSu; have h0 := cell_below F1 hSu; go_simp⟩) hS ?_
                try simp only [Act.put, List.setIfInBounds_toArray, List.set_cons_zero, List.set_cons_succ]
                refine wpAnyE_takeD (L := 999) (i := 6) (v := .pointer (some ⟨w2.heap.size, 1, none⟩)) (some 130) rfl rfl (by kernel_rfl) (by kernel_rfl) (by kernel_rfl) (by kernel_rfl) (fun _ _ _ h => h) (Or.inl ⟨by kernel_rfl, by intro u hSu; go_simp⟩) hS ?_
                try simp only [Act.put, List.setIfInBounds_toArray, List.set_cons_zero, List.set_cons_succ]
                refine wpAnyE_takeD (L := 999) (i := 7) (v := .slice (some ⟨lb, lo, none⟩) (m + 1) lc) (some 131) rfl rfl (by kernel_rfl) (by kernel_rfl) (by kernel_rfl) (by kernel_rfl) (fun _ _ _ h => h) (Or.inl ⟨by kernel_rfl, by intro u hSu; have h0 := cell_below FB hSu; go_simp⟩) hS ?_
                try simp only [Act.put, List.setIfInBounds_toArray, List.set_cons_zero, List.set_cons_succ]
                refine wpAnyE_takeD (L := 999) (i := 8) (v := .slice (some ⟨lb, lo + 1, none⟩) m (lc - 1)) (some 132) rfl rfl (by kernel_rfl) (by kernel_rfl) (by kernel_rfl) (by kernel_rfl) (fun _ _ _ h => h) (Or.inl ⟨by kernel_rfl, by intro u hSu; go_simp⟩) hS ?_
                try simp only [Act.put, List.setIfInBounds_toArray, List.set_cons_zero, List.set_cons_succ]
                refine wpAnyE_ready (rs := [9]) (by kernel_rfl) (by simp) ?_
                refine AllReadyE.cons rfl (fun K hK => ?_) AllReadyE.nil
                go_simp
                refine (lwNums_same m (zI xs) ma (some ⟨lb, lo + 1, none⟩) mc (lc - 1) _ (by have := HM9.out; omega) (HM8.out.below hS) (HT9.out.below hS)).mono ?_
                rintro e u9 ⟨rfl, hb9⟩
                refine hK.out _ _ (below_then hS hb9) (fun hS9 => ?_)
                try simp only [Act.put, List.setIfInBounds_toArray, List.set_cons_zero, List.set_cons_succ]
                clear hK K hS
                have hS := hS9
                clear hS9
                refine wpAnyE_takeD (L := 999) (i := 10) (v := .bool true) (some 134) rfl rfl (by kernel_rfl) (by kernel_rfl) (by kernel_rfl) (by kernel_rfl) (fun _ _ _ h => h) (Or.inl ⟨by kernel_rfl, by intro u hSu; go_simp⟩) hS ?_
                try simp only [Act.put, List.setIfInBounds_toArray, List.set_cons_zero, List.set_cons_succ]
                refine wpAnyE_takeD (L := 999) (i := 11) (v := .bool true) (some 2) rfl rfl (by kernel_rfl) (by kernel_rfl) (by kernel_rfl) (by kernel_rfl) (fun _ _ _ h => h) (Or.inl ⟨by kernel_rfl, by intro u hSu; go_simp⟩) hS ?_
                try simp only [Act.put, List.setIfInBounds_toArray, List.set_cons_zero, List.set_cons_succ]
                refine wpAnyE_done (by kernel_rfl) ?_ _
                go_simp
                go_wp2_with fail
                go_ret
                exact ⟨rfl, below_then HB8.out hS⟩
          · refine step_bs8 _ (some 119) rfl rfl _ rfl ⟨5, x, (R j).key, (R j).hs, (R j).nw, (R j).hd, (R j).old, (j : Int) + 1⟩ rfl (fun X u1 hCX hXge hbu1 => ?_)
            refine hK.out _ _ (below_then hS hbu1) (fun hS9 => ?_)
            try simp only [Act.put, List.setIfInBounds_toArray, List.set_cons_zero, List.set_cons_succ]
            clear hK K hS
            have hS := hS9
            clear hS9
            refine wpAnyE_ready (rs := [0]) (by kernel_rfl) (by simp) ?_
            refine AllReadyE.cons rfl (fun K hK => ?_) AllReadyE.nil
            refine step_bs08 _ (some 100) rfl rfl rfl W6.heap.size hS.size (fun vA u2 hoA hvA hbu2 => ?_)
            refine hK.out _ _ (below_then hS hbu2) (fun hS9 => ?_)
            try simp only [Act.put, List.setIfInBounds_toArray, List.set_cons_zero, List.set_cons_succ]
            clear hK K hS
            have hS := hS9
            clear hS9
            have hCX' := hCX.block (hbu2.block X (Go.block_lt_of_cell hCX.1))
            refine wpAnyE_ready (rs := [2]) (by kernel_rfl) (by simp) ?_
            refine AllReadyE.cons rfl (fun K hK => ?_) AllReadyE.nil
            refine step_app8m _ (some 102) rfl rfl (.tmp 100) (.tmp 101) rfl W6.heap.size _ rfl hoA rb ro n rc R rfl (fun i hi => (HRC6.out i hi).block (hS.block _ HRL.out)) (by have := HN9.out; omega) hS.size (fun vM u3 hoM hgM => ?_)
            have hbmu3 := grown_below hS hgM (fun q hq => ((hoA).lt q hq).1)
            refine hK.out _ _ hbmu3 (fun hS9 => ?_)
            try simp only [Act.put, List.setIfInBounds_toArray, List.set_cons_zero, List.set_cons_succ]
            have hCX'' := hCX'.block (hgM.block X (Go.block_lt_of_cell hCX'.1) (fun e => (by have e9 : some X = vA.ownBlock := e; rw [hvA] at e9; have h2 : X < _ := Go.block_lt_of_cell hCX.1; simp only [Option.some.injEq] at e9; omega)))
            clear hK K hS
            have hS := hS9
            clear hS9
            refine wpAnyE_ready (rs := [20]) (by kernel_rfl) (by simp) ?_
            refine AllReadyE.cons rfl (fun K hK => ?_) AllReadyE.nil
            refine step_app8 _ (some 120) rfl rfl (.tmp 102) (.tmp 119) rfl W6.heap.size _ n R rfl hoM X 0 1 ⟨5, x, (R j).key, (R j).hs, (R j).nw, (R j).hd, (R j).old, (j : Int) + 1⟩ rfl hCX'' (by have := HN9.out; omega) hS.size (fun vN uN hoN hgN => ?_)
            have hbN := grown_below hS hgN (fun q hq => ((hoM).lt q hq).1)
            obtain ⟨na, nc, rfl, hnc, hrow⟩ := row8_of_own hoN
            have HMO : Hid (RecsAt uN na (n + 1) (upR R n ⟨5, x, (R j).key, (R j).hs, (R j).nw, (R j).hd, (R j).old, (j : Int) + 1⟩)) := recs_of hrow
            have HBN : Hid (Below W6.heap.size W6 uN) := hbN
            refine hK.out _ _ hbN (fun hS9 => ?_)
            try simp only [Act.put, List.setIfInBounds_toArray, List.set_cons_zero, List.set_cons_succ]
            clear hK K hS
            have hS := hS9
            clear hS9
            refine wpAnyE_takeD (L := 999) (i := 21) (v := .slice na (n + 1) nc) (some 9) rfl rfl (by kernel_rfl) (by kernel_rfl) (by kernel_rfl) (by kernel_rfl) (fun _ _ _ h => h) (Or.inl ⟨by kernel_rfl, by intro u hSu; go_simp⟩) hS ?_
            try simp only [Act.put, List.setIfInBounds_toArray, List.set_cons_zero, List.set_cons_succ]
            refine wpAnyE_done (by kernel_rfl) ?_ _
            go_simp
            go_wp2_with fail
            refine (implCbC_any (n + 1) (upR R n ⟨5, x, (R j).key, (R j).hs, (R j).nw, (R j).hd, (R j).old, (j : Int) + 1⟩) na nc x uN (by have := HN9.out; omega) HMO.out).mono ?_
            intro e w7 hpost
            have hJ := HJ.out
            have hup : ∀ i, i < n → upR R n ⟨5, x, (R j).key, (R j).hs, (R j).nw, (R j).hd, (R j).old, (j : Int) + 1⟩ i = R i := fun i hi => by simp [upR, Nat.ne_of_lt hi]
            have hun : upR R n ⟨5, x, (R j).key, (R j).hs, (R j).nw, (R j).hd, (R j).old, (j : Int) + 1⟩ n = ⟨5, x, (R j).key, (R j).hs, (R j).nw, (R j).hd, (R j).old, (j : Int) + 1⟩ := by simp [upR]
            have hyy : y = ((j + 1 : Nat) : Int) := by have := hJ.2.2.2; rw [HLX.out] at this; simpa [zI] using this
            have hz0 : cbC (upR R n ⟨5, x, (R j).key, (R j).hs, (R j).nw, (R j).hd, (R j).old, (j : Int) + 1⟩) x (n + 1) = 0 := cbC_more (j := j) (y := (j : Int) + 1) HCZ.out HN9.out.1 hup hJ.1 hJ.2.1 (by omega) hun
            have hbx : bkL (upR R n ⟨5, x, (R j).key, (R j).hs, (R j).nw, (R j).hd, (R j).old, (j : Int) + 1⟩) x (n + 1) (n + 1) = xs := bkL_undo (x := y) hup (by rw [hun]; exact ⟨rfl, rfl, by rw [hyy]; simp⟩) (by rw [HLE.out, HLX.out])
            obtain ⟨ma, mc, he, -, hb7, hom⟩ := iresOkC hpost hz0
            rw [hbx] at he hom
            subst he
            obtain ⟨m, hm⟩ : ∃ m, m = xs.length := ⟨_, rfl⟩
            have hLm : L.length = m + 1 := by rw [HLX.out, hm]; rfl
            have hzi : ∀ i, i < m → zI L (i + 1) = zI xs i := fun i hi => by rw [HLX.out]; simp [zI]
            rw [← hm] at hom ⊢
            have HM7 : Hid (IntsAt w7 ma m (zI xs)) := hom.at
            have hb67 : Below W6.heap.size W6 w7 := below_then HBN.out hb7
            have EB7 := cell_below EB hb67
            rw [hLm] at EB7
            have HT7 : Hid (∀ o, o = (if lc = 1 then lo else lo + 1) → IntsAt w7 (some ⟨lb, o, none⟩) m (zI xs)) := fun o ho => by
              by_cases hm0 : m = 0
              · exact .inl hm0
              · have hc1 : lc ≠ 1 := by have := HCP.out; omega
                rw [if_neg hc1] at ho
                subst ho
                rcases HLC6.out.below hb67 with h | ⟨b', o', e', hl', hc'⟩
                · omega
                · simp only [Option.some.injEq, Addr.mk.injEq, and_true] at e'
                  obtain ⟨rfl, rfl⟩ := e'
                  exact .inr ⟨lb, lo + 1, rfl, hl', fun i hi => by rw [← hzi i hi, show lo + 1 + i = lo + (i + 1) by omega]; exact hc' (i + 1) (by omega)⟩
            have HB7 : Hid (Below w.heap.size w w7) := below_then HB6.out hb67
            have HM9 : Hid (m ≤ 401 ∧ m + 1 ≤ lc) := ⟨by have := HLL.out; omega, by have := HCP.out; omega⟩
            clear hpost hJ hup hun hyy hz0 hbx hb7 hom hm hLm hzi hb67 hS
            go_upto_region 18 with fail
            obtain ⟨W8, hW8⟩ : ∃ y, y = w7.alloc (.cells #[.int .i64 0, .slice ma m mc] 44) := ⟨_, rfl⟩
            have hb8 : Below w7.heap.size w7 W8 := by rw [hW8]; exact below_new _ _
            have F0 : W8.cell? ⟨w7.heap.size, 0, none⟩ = some (.int .i64 0) := by rw [hW8]; simp [go_sem]
            have F1 : W8.cell? ⟨w7.heap.size, 1, none⟩ = some (.slice ma m mc) := by rw [hW8]; simp [go_sem]
            have FB := cell_below EB7 hb8
            have HM8 : Hid (IntsAt W8 ma m (zI xs)) := HM7.out.below hb8
            have HT8 : Hid (∀ o, o = (if lc = 1 then lo else lo + 1) → IntsAt W8 (some ⟨lb, o, none⟩) m (zI xs)) := fun o ho => (HT7.out o ho).below hb8
            have HB8 : Hid (Below w.heap.size w W8) := below_then HB7.out hb8
            rw [← hW8]
            clear hW8 hb8 EB7 HM7 HT7 HB7
            have hm1 : (1 : Int) ≤ (m : Int) + 1 := by omega
            have hm2 : (m : Int) + 1 ≤ (lc : Int) := by have := HM9.out; omega
            by_cases hl1 : lc = 1
            · have HT9 : Hid (IntsAt W8 (some ⟨lb, lo, none⟩) m (zI xs)) := HT8.out lo (by rw [if_pos hl1])
              clear HT8
              have hm0 : m = 0 := by have := HM9.out; omega
              subst hl1
              subst hm0
              simp only [Nat.zero_add] at FB
              clear hm1 hm2
              refine wp_region_E 999 (S := fun u => Below W8.heap.size W8 u) (by kernel_rfl) ((Below.refl _ _).drew) (fun hS => ?_)
              obtain ⟨u0, hu0⟩ : ∃ y, y = W8.drew := ⟨_, rfl⟩
              rw [← hu0] at hS ⊢
              clear hu0
              refine wpAnyE_takeD (L := 999) (i := 0) (v := .pointer (some ⟨w7.heap.size, 0, none⟩)) (some 124) rfl rfl (by kernel_rfl) (by kernel_rfl) (by kernel_rfl) (by kernel_rfl) (fun _ _ _ h => h) (Or.inl ⟨by kernel_rfl, by intro u hSu; go_simp⟩) hS ?_
              try simp only [Act.put, List.setIfInBounds_toArray, List.set_cons_zero, List.set_cons_succ]
              refine wpAnyE_takeD (L := 999) (i := 1) (v := .int .i64 0) (some 125) rfl rfl (by kernel_rfl) (by kernel_rfl) (by kernel_rfl) (by kernel_rfl) (fun _ _ _ h => h) (Or.inl ⟨by kernel_rfl, by intro u hSu; have h0 := cell_below F0 hSu; go_simp⟩) hS ?_
              try simp only [Act.put, List.setIfInBounds_toArray, List.set_cons_zero, List.set_cons_succ]
              refine wpAnyE_takeD (L := 999) (i := 2) (v := .bool true) (some 126) rfl rfl (by kernel_rfl) (by kernel_rfl) (by kernel_rfl) (by kernel_rfl) (fun _ _ _ h => h) (Or.inl ⟨by kernel_rfl, by intro u hSu; go_simp⟩) hS ?_
              try simp only [Act.put, List.setIfInBounds_toArray, List.set_cons_zero, List.set_cons_succ]
              refine wpAnyE_takeD (L := 999) (i := 3) (v := .bool true) (some 127) rfl rfl (by kernel_rfl) (by kernel_rfl) (by kernel_rfl) (by kernel_rfl) (fun _ _ _ h => h) (Or.inl ⟨by kernel_rfl, by intro u hSu; go_simp⟩) hS ?_
              try simp only [Act.put, List.setIfInBounds_toArray, List.set_cons_zero, List.set_cons_succ]
              refine wpAnyE_takeD (L := 999) (i := 4) (v := .pointer (some ⟨w7.heap.size, 1, none⟩)) (some 128) rfl rfl (by kernel_rfl) (by kernel_rfl) (by kernel_rfl) (by kernel_rfl) (fun _ _ _ h => h) (Or.inl ⟨by kernel_rfl, by intro u hSu; go_simp⟩) hS ?_
              try simp only [Act.put, List.setIfInBounds_toArray, List.set_cons_zero, List.set_cons_succ]
              refine wpAnyE_takeD (L := 999) (i := 5) (v := .slice ma 0 mc) (some 129) rfl rfl (by kernel_rfl) (by kernel_rfl) (by kernel_rfl) (by kernel_rfl) (fun _ _ _ h => h) (Or.inl ⟨by kernel_rfl, by intro u hSu; have h0 := cell_below F1 hSu; go_simp⟩) hS ?_
              try simp only [Act.put, List.setIfInBounds_toArray, List.set_cons_zero, List.set_cons_succ]
              refine wpAnyE_takeD (L := 999) (i := 6) (v := .pointer (some ⟨w2.heap.size, 1, none⟩)) (some 130) rfl rfl (by kernel_rfl) (by kernel_rfl) (by kernel_rfl) (by kernel_rfl) (fun _ _ _ h => h) (Or.inl ⟨by kernel_rfl, by intro u hSu; go_simp⟩) hS ?_
              try simp only [Act.put, List.setIfInBounds_toArray, List.set_cons_zero, List.set_cons_succ]
              refine wpAnyE_takeD (L := 999) (i := 7) (v := .slice (some ⟨lb, lo, none⟩) 1 1) (some 131) rfl rfl (by kernel_rfl) (by kernel_rfl) (by kernel_rfl) (by kernel_rfl) (fun _ _ _ h => h) (Or.inl ⟨by kernel_rfl, by intro u hSu; have h0 := cell_below FB hSu; go_simp⟩) hS ?_
              try simp only [Act.put, List.setIfInBounds_toArray, List.set_cons_zero, List.set_cons_succ]
              refine wpAnyE_takeD (L := 999) (i := 8) (v := .slice (some ⟨lb, lo, none⟩) 0 0) (some 132) rfl rfl (by kernel_rfl) (by kernel_rfl) (by kernel_rfl) (by kernel_rfl) (fun _ _ _ h => h) (Or.inl ⟨by kernel_rfl, by intro u hSu; go_simp⟩) hS ?_
              try simp only [Act.put, List.setIfInBounds_toArray, List.set_cons_zero, List.set_cons_succ]
              refine wpAnyE_ready (rs := [9]) (by kernel_rfl) (by simp) ?_
              refine AllReadyE.cons rfl (fun K hK => ?_) AllReadyE.nil
              go_simp
              refine (lwNums_same 0 (zI xs) ma (some ⟨lb, lo, none⟩) mc 0 _ (by have := HM9.out; omega) (HM8.out.below hS) (HT9.out.below hS)).mono ?_
              rintro e u9 ⟨rfl, hb9⟩
              refine hK.out _ _ (below_then hS hb9) (fun hS9 => ?_)
              try simp only [Act.put, List.setIfInBounds_toArray, List.set_cons_zero, List.set_cons_succ]
              clear hK K hS
              have hS := hS9
              clear hS9
              refine wpAnyE_takeD (L := 999) (i := 10) (v := .bool true) (some 134) rfl rfl (by kernel_rfl) (by kernel_rfl) (by kernel_rfl) (by kernel_rfl) (fun _ _ _ h => h) (Or.inl ⟨by kernel_rfl, by intro u hSu; go_simp⟩) hS ?_
              try simp only [Act.put, List.setIfInBounds_toArray, List.set_cons_zero, List.set_cons_succ]
              refine wpAnyE_takeD (L := 999) (i := 11) (v := .bool true) (some 2) rfl rfl (by kernel_rfl) (by kernel_rfl) (by kernel_rfl) (by kernel_rfl) (fun _ _ _ h => h) (Or.inl ⟨by kernel_rfl, by intro u hSu; go_simp⟩) hS ?_
              try simp only [Act.put, List.setIfInBounds_toArray, List.set_cons_zero, List.set_cons_succ]
              refine wpAnyE_done (by kernel_rfl) ?_ _
              go_simp
              go_wp2_with fail
              go_ret
              exact ⟨rfl, below_then HB8.out hS⟩
            · have HT9 : Hid (IntsAt W8 (some ⟨lb, lo + 1, none⟩) m (zI xs)) := HT8.out (lo + 1) (by rw [if_neg hl1])
              clear HT8
              refine wp_region_E 999 (S := fun u => Below W8.heap.size W8 u) (by kernel_rfl) ((Below.refl _ _).drew) (fun hS => ?_)
              obtain ⟨u0, hu0⟩ : ∃ y, y = W8.drew := ⟨_, rfl⟩
              rw [← hu0] at hS ⊢
              clear hu0
              refine wpAnyE_takeD (L := 999) (i := 0) (v := .pointer (some ⟨w7.heap.size, 0, none⟩)) (some 124) rfl rfl (by kernel_rfl) (by kernel_rfl) (by kernel_rfl) (by kernel_rfl) (fun _ _ _ h => h) (Or.inl ⟨by kernel_rfl, by intro u hSu; go_simp⟩) hS ?_
              try simp only [Act.put, List.setIfInBounds_toArray, List.set_cons_zero, List.set_cons_succ]
              refine wpAnyE_takeD (L := 999) (i := 1) (v := .int .i64 0) (some 125) rfl rfl (by kernel_rfl) (by kernel_rfl) (by kernel_rfl) (by kernel_rfl) (fun _ _ _ h => h) (Or.inl ⟨by kernel_rfl, by intro u hSu; have h0 := cell_below F0 hSu; go_simp⟩) hS ?_
              try simp only [Act.put, List.setIfInBounds_toArray, List.set_cons_zero, List.set_cons_succ]
              refine wpAnyE_takeD (L := 999) (i := 2) (v := .bool true) (some 126) rfl rfl (by kernel_rfl) (by kernel_rfl) (by kernel_rfl) (by kernel_rfl) (fun _ _ _ h => h) (Or.inl ⟨by kernel_rfl, by intro u hSu; go_simp⟩) hS ?_
              try simp only [Act.put, List.setIfInBounds_toArray, List.set_cons_zero, List.set_cons_succ]
              refine wpAnyE_takeD (L := 999) (i := 3) (v := .bool true) (some 127) rfl rfl (by kernel_rfl) (by kernel_rfl) (by kernel_rfl) (by kernel_rfl) (fun _ _ _ h => h) (Or.inl ⟨by kernel_rfl, by intro u hSu; go_simp⟩) hS ?_
              try simp only [Act.put, List.setIfInBounds_toArray, List.set_cons_zero, List.set_cons_succ]
              refine wpAnyE_takeD (L := 999) (i := 4) (v := .pointer (some ⟨w7.heap.size, 1, none⟩)) (some 128) rfl rfl (by kernel_rfl) (by kernel_rfl) (by kernel_rfl) (by kernel_rfl) (fun _ _ _ h => h) (Or.inl ⟨by kernel_rfl, by intro u hSu; go_simp⟩) hS ?_
              try simp only [Act.put, List.setIfInBounds_toArray, List.set_cons_zero, List.set_cons_succ]
              refine wpAnyE_takeD (L := 999) (i := 5) (v := .slice ma m mc) (some 129) rfl rfl (by kernel_rfl) (by kernel_rfl) (by kernel_rfl) (by kernel_rfl) (fun _ _ _ h => h) (Or.inl ⟨by kernel_rfl, by intro u hSu; have h0 := cell_below F1 hSu; go_simp⟩) hS ?_
              try simp only [Act.put, List.setIfInBounds_toArray, List.set_cons_zero, List.set_cons_succ]
              refine wpAnyE_takeD (L := 999) (i := 6) (v := .pointer (some ⟨w2.heap.size, 1, none⟩)) (some 130) rfl rfl (by kernel_rfl) (by kernel_rfl) (by kernel_rfl) (by kernel_rfl) (fun _ _ _ h => h) (Or.inl ⟨by kernel_rfl, by intro u hSu; go_simp⟩) hS ?_
              try simp only [Act.put, List.setIfInBounds_toArray, List.set_cons_zero, List.set_cons_succ]
              refine wpAnyE_takeD (L := 999) (i := 7) (v := .slice (some ⟨lb, lo, none⟩) (m + 1) lc) (some 131) rfl rfl (by kernel_rfl) (by kernel_rfl) (by kernel_rfl) (by kernel_rfl) (fun _ _ _ h => h) (Or.inl ⟨by kernel_rfl, by intro u hSu; have h0 := cell_below FB hSu; go_simp⟩) hS ?_
              try simp only [Act.put, List.setIfInBounds_toArray, List.set_cons_zero, List.set_cons_succ]
              refine wpAnyE_takeD (L := 999) (i := 8) (v := .slice (some ⟨lb, lo + 1, none⟩) m (lc - 1)) (some 132) rfl rfl (by kernel_rfl) (by kernel_rfl) (by kernel_rfl) (by kernel_rfl) (fun _ _ _ h => h) (Or.inl ⟨by kernel_rfl, by intro u hSu; go_simp⟩) hS ?_
              try simp only [Act.put, List.setIfInBounds_toArray, List.set_cons_zero, List.set_cons_succ]
              refine wpAnyE_ready (rs := [9]) (by kernel_rfl) (by simp) ?_
              refine AllReadyE.cons rfl (fun K hK => ?_) AllReadyE.nil
              go_simp
              refine (lwNums_same m (zI xs) ma (some ⟨lb, lo + 1, none⟩) mc (lc - 1) _ (by have := HM9.out; omega) (HM8.out.below hS) (HT9.out.below hS)).mono ?_
              rintro e u9 ⟨rfl, hb9⟩
              refine hK.out _ _ (below_then hS hb9) (fun hS9 => ?_)
              try simp only [Act.put, List.setIfInBounds_toArray, List.set_cons_zero, List.set_cons_succ]
              clear hK K hS
              have hS := hS9
              clear hS9
              refine wpAnyE_takeD (L := 999) (i := 10) (v := .bool true) (some 134) rfl rfl (by kernel_rfl) (by kernel_rfl) (by kernel_rfl) (by kernel_rfl) (fun _ _ _ h => h) (Or.inl ⟨by kernel_rfl, by intro u hSu; go_simp⟩) hS ?_
              try simp only [Act.put, List.setIfInBounds_toArray, List.set_cons_zero, List.set_cons_succ]
              refine wpAnyE_takeD (L := 999) (i := 11) (v := .bool true) (some 2) rfl rfl (by kernel_rfl) (by kernel_rfl) (by kernel_rfl) (by kernel_rfl) (fun _ _ _ h => h) (Or.inl ⟨by kernel_rfl, by intro u hSu; go_simp⟩) hS ?_
              try simp only [Act.put, List.setIfInBounds_toArray, List.set_cons_zero, List.set_cons_succ]
              refine wpAnyE_done (by kernel_rfl) ?_ _
              go_simp
              go_wp2_with fail
              go_ret
              exact ⟨rfl, below_then HB8.out hS⟩
  · obtain ⟨la, lc, he, hb2⟩ := iresErr hpost.res hc
    subst he
    obtain ⟨c, hcE⟩ : ∃ c, c = cbC R x n := ⟨_, rfl⟩
    have HCE : Hid (cbC R x n = c) := hcE.symm
    have HCN : Hid (cbC R x n ≠ 0) := hc
    have hne : (c != 0) = true := by rw [hcE]; simp [hc]
    rw [← hcE]
    have HB2 : Hid (Below w.heap.size w w2) := below_then HB1.out hb2
    have HRA2 : Hid (RecsAt w2 ra n R) := HRA1.out.below hb2
    clear hpost hb2 hc hcE HB1 HRA1 HIM
    go_upto_region 6 with fail
    obtain ⟨W3, hW3⟩ : ∃ y, y = w2.alloc (.cells #[.int .i64 c, .slice la 0 lc] 44) := ⟨_, rfl⟩
    have B0 : W3.cell? ⟨w2.heap.size, 0, none⟩ = some (.int .i64 c) := by rw [hW3]; simp [go_sem]
    have hb3 : Below w2.heap.size w2 W3 := by rw [hW3]; exact below_new _ _
    have HB3 : Hid (Below w.heap.size w W3) := below_then HB2.out hb3
    have HRA : Hid (RecsAt W3 ra n R) := HRA2.out.below hb3
    rw [← hW3]
    clear hW3 hb3 HB2 HRA2 hne
    refine wp_region_E 999 (S := fun u => Below W3.heap.size W3 u) (by kernel_rfl) ((Below.refl _ _).drew) (fun hS => ?_)
    obtain ⟨u0, hu0⟩ : ∃ y, y = W3.drew := ⟨_, rfl⟩
    rw [← hu0] at hS ⊢
    clear hu0
    refine wpAnyE_takeD (L := 999) (i := 0) (v := .slice ra n rc) (some 24) rfl rfl (by kernel_rfl) (by kernel_rfl) (by kernel_rfl) (by kernel_rfl) (fun _ _ _ h => h) (Or.inl ⟨by kernel_rfl, by intro u hSu; go_simp⟩) hS ?_
    try simp only [Act.put, List.setIfInBounds_toArray, List.set_cons_zero, List.set_cons_succ]
    refine wpAnyE_takeD (L := 999) (i := 1) (v := .int .i64 x) (some 25) rfl rfl (by kernel_rfl) (by kernel_rfl) (by kernel_rfl) (by kernel_rfl) (fun _ _ _ h => h) (Or.inl ⟨by kernel_rfl, by intro u hSu; go_simp⟩) hS ?_
    try simp only [Act.put, List.setIfInBounds_toArray, List.set_cons_zero, List.set_cons_succ]
    refine wpAnyE_takeD (L := 999) (i := 4) (v := .pointer (some ⟨w2.heap.size, 0, none⟩)) (some 28) rfl rfl (by kernel_rfl) (by kernel_rfl) (by kernel_rfl) (by kernel_rfl) (fun _ _ _ h => h) (Or.inl ⟨by kernel_rfl, by intro u hSu; go_simp⟩) hS ?_
    try simp only [Act.put, List.setIfInBounds_toArray, List.set_cons_zero, List.set_cons_succ]
    refine wpAnyE_takeD (L := 999) (i := 5) (v := .int .i64 c) (some 29) rfl rfl (by kernel_rfl) (by kernel_rfl) (by kernel_rfl) (by kernel_rfl) (fun _ _ _ h => h) (Or.inl ⟨by kernel_rfl, by intro u hSu; have h0 := cell_below B0 hSu; go_simp⟩) hS ?_
    try simp only [Act.put, List.setIfInBounds_toArray, List.set_cons_zero, List.set_cons_succ]
    refine wpAnyE_ready (rs := [2]) (by kernel_rfl) (by simp) ?_
    refine AllReadyE.cons rfl (fun K hK => ?_) AllReadyE.nil
    go_simp
    refine (HSP.out _ (HRA.out.below hS)).mono ?_
    intro e u1 hpost
    obtain ⟨sa, sc, he, hbu⟩ := iresErr hpost HCN.out
    rw [HCE.out] at he
    subst he
    clear hpost
    refine hK.out _ _ (below_then hS hbu) (fun hS9 => ?_)
    try simp only [Act.put, List.setIfInBounds_toArray, List.set_cons_zero, List.set_cons_succ]
    clear hK K hS
    have hS := hS9
    clear hS9
    refine wpAnyE_takeD (L := 999) (i := 3) (v := .int .i64 c) (some 27) rfl rfl (by kernel_rfl) (by kernel_rfl) (by kernel_rfl) (by kernel_rfl) (fun _ _ _ h => h) (Or.inl ⟨by kernel_rfl, by intro u hSu; have hf : (Instr.field 44 (.agg #[.int .i64 c, .slice sa 0 sc]) 0).run Try.prog u = .ok (.int .i64 c) u := (by kernel_rfl); go_simp⟩) hS ?_
    try simp only [Act.put, List.setIfInBounds_toArray, List.set_cons_zero, List.set_cons_succ]
    refine wpAnyE_takeD (L := 999) (i := 6) (v := .bool (c == c)) (some 30) rfl rfl (by kernel_rfl) (by kernel_rfl) (by kernel_rfl) (by kernel_rfl) (fun _ _ _ h => h) (Or.inl ⟨by kernel_rfl, by intro u hSu; go_simp⟩) hS ?_
    try simp only [Act.put, List.setIfInBounds_toArray, List.set_cons_zero, List.set_cons_succ]
    refine wpAnyE_takeD (L := 999) (i := 7) (v := .bool (c == c)) (some 2) rfl rfl (by kernel_rfl) (by kernel_rfl) (by kernel_rfl) (by kernel_rfl) (fun _ _ _ h => h) (Or.inl ⟨by kernel_rfl, by intro u hSu; go_simp⟩) hS ?_
    try simp only [Act.put, List.setIfInBounds_toArray, List.set_cons_zero, List.set_cons_succ]
    refine wpAnyE_done (by kernel_rfl) ?_ _
    go_simp
    go_wp2_with fail
    go_ret
    exact ⟨ret_bool (by simp), below_then HB3.out hS⟩
end Go.Proofs.Ytppckjecidcflaa
