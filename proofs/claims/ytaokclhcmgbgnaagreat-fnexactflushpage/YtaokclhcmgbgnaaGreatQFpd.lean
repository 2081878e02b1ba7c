/- impl.FlushPage$1. -/
import Derived.Test.YtaokclhcmgbgnaaGreatQXco
namespace Go.Proofs.YtaokclhcmgbgnaaGreat
open Go.ChangeShapes Go.WideShapes Go.ChangeAt Go.RowKit Go.Deep Go.Joins
set_option linter.unusedVariables false
set_option linter.unusedSimpArgs false
set_option maxRecDepth 20000

set_option maxHeartbeats 16000000 in
theorem flush1_any (s : Sto) (n : Nat) (xs : List Value) (lo : Nat) (col : Nat → Nat) (B X : Nat) (x : Int) (w : World) (hG : GoodSt s) (hS : SmSt s) (hby : LogByt s.g) (hX : w.cell? ⟨X, 0, none⟩ = some (.int .i64 x)) (hXn : X ≠ B ∧ col X = 0) (H : Wk s n xs lo col B w) (hcp : LgCap s.g.n1 B w) :
    Calls Tryz.prog 38 #[.pointer (some ⟨B, 0, none⟩), .pointer (some ⟨X, 0, none⟩)] w (CbR (f1C x) 0 (fpS s x.toNat) lo B col w) := by
  have HWK : Hid (Wk s n xs lo col B w) := H
  have HG : Hid (GoodSt s) := hG
  have HS : Hid (SmSt s) := hS
  have HBY : Hid (LogByt s.g) := hby
  have HCP : Hid (LgCap s.g.n1 B w) := hcp
  obtain ⟨k1, k2, k3⟩ := H.lt
  have hXa := fun o : Obj => cell_alloc hX o
  clear H hG hS hby hcp hX
  go_enter Tryz.func38, Tryz.ntmps38
  cases hx : inB x 0 3
  · have HXB : Hid (inB x 0 (((4 : Nat) : Int) - 1) = false) := hx
    have HE : Hid (∀ w', Below w.heap.size w w' → CbR (f1C x) 0 (fpS s x.toNat) lo B col w (.returned (.agg #[.int .i64 3, .int .i64 0])) w') := fun w' hb => by
      have e : f1C x = 3 := by unfold f1C; rw [if_neg (by rw [hx]; decide)]
      rw [e]
      exact CbR.bad (by omega) HWK.out hb 0
    clear hx
    go_wp2_with fail
    refine (isPlace_any x 4 _ (by omega)).mono ?_
    rw [HXB.out]
    rintro e w1 ⟨rfl, hw1⟩
    rw [hw1]
    clear hw1 w1
    go_wp2_with fail
    refine bodyPost_ret (v := .agg #[.int .i64 3, .int .i64 0]) (by simp [results, Tryz.results38, go_sem, *]) rfl (HE.out _ ?_)
    first | exact below_new _ _ | exact (below_new w (.cells #[.int .i64 3, .int .i64 0] 80))
  · have HXB : Hid (inB x 0 (((4 : Nat) : Int) - 1) = true) := hx
    have HFC : Hid (f1C x = 0) := by show f1C x = 0; unfold f1C; rw [if_pos hx]
    have hxx := inB_iff.1 hx
    obtain ⟨k, rfl⟩ : ∃ k : Nat, x = (k : Int) := ⟨x.toNat, by omega⟩
    have hk4 : k < 4 := by omega
    have HTN : Hid ((k : Int).toNat = k) := Int.toNat_natCast k
    clear hx hxx
    go_wp2_with fail
    refine (isPlace_any (k : Int) 4 _ (by omega)).mono ?_
    rw [HXB.out]
    rintro e w1 ⟨rfl, hw1⟩
    rw [hw1]
    clear hw1 w1
    go_upto_region 3 with fail
    obtain ⟨W, hW⟩ : ∃ y, y = w.alloc (.cells #[.int .i64 0, .int .i64 0] 80) := ⟨_, rfl⟩
    have HB0 : Hid (Below w.heap.size w W) := by rw [hW]; exact below_new _ _
    have HWS : Hid (W.heap.size = w.heap.size + 1) := by rw [hW]; simp [Hid]
    have m0 : W.cell? ⟨w.heap.size, 0, none⟩ = some (.int .i64 0) := by rw [hW]; simp [go_sem]
    have m1 : W.cell? ⟨w.heap.size, 1, none⟩ = some (.int .i64 0) := by rw [hW]; simp [go_sem]
    have mf : ∀ i, W.frozen? ⟨w.heap.size, i, none⟩ = false := fun i => by rw [hW]; simp [go_sem]
    have mX : W.cell? ⟨X, 0, none⟩ = some (.int .i64 (k : Int)) := by rw [hW]; exact hXa _
    rw [← hW]
    clear hW hXa
    have HKW : Hid (Wk s n xs lo col B W) := HWK.out.below HB0.out
    have HCW : Hid (LgCap s.g.n1 B W) := fun a c q => HCP.out a c ((HB0.out.cell (p := ⟨B, 4, none⟩) k2).symm.trans q)
    refine wp_region_E 6 (S := fun u => u.cell? ⟨X, 0, none⟩ = some (.int .i64 (k : Int))) (by kernel_rfl) mX (fun hS => ?_)
    obtain ⟨y0, hy0⟩ : ∃ y, y = W.drew := ⟨_, rfl⟩
    have HWY : Hid (Below W.heap.size W y0) := by rw [hy0]; exact (Below.refl _ _).drew
    have HYS : Hid (y0.heap.size = W.heap.size) := by rw [hy0]; rfl
    rw [← hy0] at hS ⊢
    clear hy0
    refine wpAnyE_takeD (L := 6) (i := 0) (v := .pointer (some ⟨B, 0, none⟩)) (some 8) rfl rfl (by kernel_rfl) (by kernel_rfl) (by kernel_rfl) (by kernel_rfl) (fun _ _ _ h => h) (Or.inl ⟨by kernel_rfl, by intro u hSu; go_simp⟩) hS ?_
    try simp only [Act.put, List.setIfInBounds_toArray, List.set_cons_zero, List.set_cons_succ]
    refine wpAnyE_takeD (L := 6) (i := 1) (v := .pointer (some ⟨B, 0, none⟩)) (some 9) rfl rfl (by kernel_rfl) (by kernel_rfl) (by kernel_rfl) (by kernel_rfl) (fun _ _ _ h => h) (Or.inl ⟨by kernel_rfl, by intro u hSu; go_simp⟩) hS ?_
    try simp only [Act.put, List.setIfInBounds_toArray, List.set_cons_zero, List.set_cons_succ]
    refine wpAnyE_takeD (L := 6) (i := 2) (v := .pointer (some ⟨B, 0, none⟩)) (some 10) rfl rfl (by kernel_rfl) (by kernel_rfl) (by kernel_rfl) (by kernel_rfl) (fun _ _ _ h => h) (Or.inl ⟨by kernel_rfl, by intro u hSu; go_simp⟩) hS ?_
    try simp only [Act.put, List.setIfInBounds_toArray, List.set_cons_zero, List.set_cons_succ]
    refine wpAnyE_takeD (L := 6) (i := 3) (v := .int .i64 (k : Int)) (some 11) rfl rfl (by kernel_rfl) (by kernel_rfl) (by kernel_rfl) (by kernel_rfl) (fun _ _ _ h => h) (Or.inl ⟨by kernel_rfl, by intro u hSu; go_simp⟩) hS ?_
    try simp only [Act.put, List.setIfInBounds_toArray, List.set_cons_zero, List.set_cons_succ]
    refine wpAnyE_ready (rs := [4]) (by kernel_rfl) (by simp) ?_
    refine AllReadyE.cons rfl (fun K9 hK => ?_) AllReadyE.nil
    go_simp
    have hcy : LgCap s.g.n1 B y0 := fun a c q => HCW.out a c ((HWY.out.cell (p := ⟨B, 4, none⟩) (by have := HWS.out; show B < W.heap.size; omega)).symm.trans q)
    refine (writePage_any s n xs lo col B k y0 HG.out HS.out HBY.out hk4 (HKW.out.below HWY.out) hcy).mono ?_
    rintro e w1 ⟨R', n', xs', col', rfl, hR, hcc, hf1, hk1⟩
    have hR' := hR rfl
    have eN : w1.heap[w.heap.size]? = y0.heap[w.heap.size]? := hf1.block _ (by have := HWS.out; have := HYS.out; omega) (fun q => by
      rcases q with q | q
      · omega
      · have := (k3 _ q).2; omega)
    have eX : w1.cell? ⟨X, 0, none⟩ = some (.int .i64 (k : Int)) := (cellB (hf1.block X (Go.block_lt_of_cell hS) (fun q => by rcases q with q | q; exact hXn.1 q; exact q hXn.2))).trans hS
    have n0 : w1.cell? ⟨w.heap.size, 0, none⟩ = some (.int .i64 0) := (cellB eN).trans (cell_below m0 HWY.out)
    have n1 : w1.cell? ⟨w.heap.size, 1, none⟩ = some (.int .i64 0) := (cellB eN).trans (cell_below m1 HWY.out)
    have nf : ∀ i, w1.frozen? ⟨w.heap.size, i, none⟩ = false := fun i => (frozB eN).trans ((HWY.out.frozen (p := ⟨w.heap.size, i, none⟩) (by have := HWS.out; show w.heap.size < W.heap.size; omega)).trans (mf i))
    have HEND : Hid (∀ w4, Writes w.heap.size (w.heap.size + 1) w1 w4 → CbR (f1C (k : Int)) 0 (fpS s (k : Int).toNat) lo B col w (.returned (.agg #[.int .i64 0, .int .i64 0])) w4) := fun w4 h4 => by
      rw [HFC.out, HTN.out]
      have hl1 := hk1.lt
      refine ⟨0, R', n', xs', col', rfl, fun _ => ⟨rfl, hR'⟩, fun y hy q => hcc y (by have := HWS.out; have := HYS.out; omega) q, ?_, hk1.keep h4.size (fun y hy hl => h4.block y hl (by
        have : y ≠ w.heap.size := fun e => by
          rcases hy with hy | hy
          · omega
          · have h9 := hcc y (by have := HWS.out; have := HYS.out; omega) hy
            have := (k3 _ h9).2
            omega
        omega))⟩
      have hwy := below_then HB0.out HWY.out
      refine ⟨h4.os.trans (hf1.os.trans hwy.os), h4.tape.trans (hf1.tape.trans hwy.tape), h4.output.trans (hf1.output.trans hwy.output), Nat.le_trans hwy.size (Nat.le_trans hf1.size h4.size), fun y hy hn => ?_⟩
      have s1 := hwy.size
      have s2 := hf1.size
      rw [h4.block y (by omega) (by omega), hf1.block y (by omega) hn, hwy.block y hy]
    clear hf1 hk1 hcc hR hR'
    refine hK.out _ _ (eX) (fun hS9 => ?_)
    try simp only [Act.put, List.setIfInBounds_toArray, List.set_cons_zero, List.set_cons_succ]
    clear hK K9 hS eX
    have hS := hS9
    clear hS9
    refine wpAnyE_ready (rs := [5]) (by kernel_rfl) (by simp) ?_
    refine AllReadyE.cons rfl (fun K9 hK => ?_) AllReadyE.nil
    go_simp
    refine hK.out _ _ (hS) (fun hS9 => ?_)
    try simp only [Act.put, List.setIfInBounds_toArray, List.set_cons_zero, List.set_cons_succ]
    clear hK K9 hS
    have hS := hS9
    clear hS9
    refine wpAnyE_ready (rs := [6]) (by kernel_rfl) (by simp) ?_
    refine AllReadyE.last rfl (fun K9 hK => ?_)
    go_simp
    refine hK.out _ _ ?_
    try simp only [Act.put, List.setIfInBounds_toArray, List.set_cons_zero, List.set_cons_succ]
    clear hK K9 hS
    refine wpAnyE_done (by kernel_rfl) ?_ _
    go_simp
    go_wp2_with fail
    (try simp only [Exit.inBlock, Exit.then])
    refine bodyPost_ret (v := .agg #[.int .i64 0, .int .i64 0]) ?_ rfl ?_
    · simp [results, Tryz.results38, go_sem, *]
    refine HEND.out _ ?_
    repeat (first | with_reducible exact Writes.refl _ _ _ | with_reducible refine Writes.setCell ?_ (by first | omega | (simp <;> omega)) (by first | omega | (simp <;> omega)) _)
end Go.Proofs.YtaokclhcmgbgnaaGreat
