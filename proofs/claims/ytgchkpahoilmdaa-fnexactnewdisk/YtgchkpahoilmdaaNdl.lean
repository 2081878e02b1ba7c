/- FnExactNewDisk: the walk of the law. -/
import Derived.Test.YtgchkpahoilmdaaNd
import Derived.Test.YtgchkpahoilmdaaDn
namespace Go.Proofs.Ytgchkpahoilmdaa
open Go.RowKit Go.Deep
set_option linter.unusedVariables false
set_option maxRecDepth 20000

set_option maxHeartbeats 8000000 in
theorem newDiskLaw_small (x : Int) (w : World) (c : Int) (R : Dk) (hR : Small R)
    (HP : Hid (∀ (w : World), Calls Try.prog 16 #[.int .i64 x] w fun e w' => ∃ a a' cap cap', e = .returned (.agg #[.int .i64 c, .slice a R.n cap, .slice a' R.m cap']) ∧ Below w.heap.size w w' ∧ OwnD w' w.heap.size w'.heap.size a a' R))
    (HQ : Hid (∀ (w : World), Calls Try.prog 17 #[.int .i64 x] w fun e w' => ∃ a a' cap cap', e = .returned (.agg #[.int .i64 c, .slice a R.n cap, .slice a' R.m cap']) ∧ Below w.heap.size w w' ∧ OwnD w' w.heap.size w'.heap.size a a' R)) :
    Calls Try.prog 4 #[.int .i64 x] w fun e w' => e = .returned (.bool true) ∧ Below w.heap.size w w' := by
  go_enter Try.func4, Try.ntmps4
  have hneg3 : ¬ ((1 : Int) + (tot R : Int) < 0) := by omega
  go_wp2_with fail
  refine (HP.out w).mono ?_
  rintro e w1 ⟨aw, aw2, cw, cw2, rfl, hb, OW⟩
  have hB : Below w.heap.size w w1 := hb
  have sw1 : Hid (w.heap.size ≤ w1.heap.size) := by have hq := hb.size; show w.heap.size ≤ w1.heap.size; omega
  clear hb
  go_wp2_with fail
  refine (HQ.out _).mono ?_
  rintro e w2 ⟨ag, ag2, cg, cg2, rfl, hb, ho⟩
  replace hB := below_then hB (below_then (below_new _ _) hb)
  have BW := (Box3.new w1 (.int .i64 c) (.slice aw R.n cw) (.slice aw2 R.m cw2) 40).below hb
  replace OW := (OW.below (below_new _ _)).below hb
  have sw2 : Hid (w1.heap.size < w2.heap.size) := by have hq := hb.size; simp at hq; show w1.heap.size < w2.heap.size; omega
  have OG : OwnD w2 (w1.heap.size + 1) w2.heap.size _ _ R := ho.wide (by simp) (Nat.le_refl _) (Nat.le_refl _)
  clear ho
  clear hb
  have TW := BW
  obtain ⟨qW0, qW1, qW2⟩ := TW
  have rW0 := fun o : Obj => cell_alloc qW0 o
  have rW1 := fun o : Obj => cell_alloc qW1 o
  have rW2 := fun o : Obj => cell_alloc qW2 o
  go_wp2_with fail
  refine (eqDiskResult_same c R ag ag2 aw aw2 cg cg2 cw cw2 _ hR (OG.at.below (below_new _ _)) (OW.at.below (below_new _ _))).mono ?_
  rintro e w3 ⟨rfl, hb⟩
  clear qW0 qW1 qW2 rW0 rW1 rW2
  replace hB := below_then hB (below_then (below_new _ _) hb)
  replace BW := (BW.alloc _).below hb
  have BG := (Box3.new w2 (.int .i64 c) (.slice ag R.n cg) (.slice ag2 R.m cg2) 40).below hb
  replace OW := (OW.below (below_new _ _)).below hb
  replace OG := (OG.below (below_new _ _)).below hb
  have sw3 : Hid (w2.heap.size < w3.heap.size) := by have hq := hb.size; simp at hq; show w2.heap.size < w3.heap.size; omega
  clear hb
  have TG := BG
  obtain ⟨qG0, qG1, qG2⟩ := TG
  go_wp2_with fail
  refine (markDiskResult_any c R _ _ cg cg2 (w1.heap.size + 1) w2.heap.size _ hR OG).mono ?_
  rintro e w4 ⟨rfl, hw, hog⟩
  clear qG0 qG1 qG2
  replace hB := Writes.below hB hw (by have t0 := sw1.out; have t1 := sw2.out; have t2 := sw3.out; omega)
  replace BW := BW.writes hw (by have t0 := sw1.out; have t1 := sw2.out; have t2 := sw3.out; omega)
  replace BG := BG.writes hw (by have t0 := sw1.out; have t1 := sw2.out; have t2 := sw3.out; omega)
  replace OW := OW.writes hw (by have t0 := sw1.out; have t1 := sw2.out; have t2 := sw3.out; omega)
  have sw4 : Hid (w3.heap.size ≤ w4.heap.size) := by have hq := hw.size; show w3.heap.size ≤ w4.heap.size; omega
  clear hw
  clear OG
  have OG := hog
  clear hog
  have TG := BG
  obtain ⟨qG0, qG1, qG2⟩ := TG
  go_wp2_with fail
  refine (heldDiskResult_any c R _ _ cg cg2 _ hR OG.at).mono ?_
  rintro e w5 ⟨rfl, hb⟩
  clear qG0 qG1 qG2
  replace hB := below_then hB hb
  replace BW := BW.below hb
  replace BG := BG.below hb
  replace OW := OW.below hb
  replace OG := OG.below hb
  have sw5 : Hid (w4.heap.size ≤ w5.heap.size) := by have hq := hb.size; show w4.heap.size ≤ w5.heap.size; omega
  clear hb
  go_wp2_with fail
  refine (HQ.out _).mono ?_
  rintro e w6 ⟨ah, ah2, ch, ch2, rfl, hb, OH⟩
  replace hB := below_then hB hb
  replace BW := BW.below hb
  replace BG := BG.below hb
  replace OW := OW.below hb
  replace OG := OG.below hb
  have sw6 : Hid (w5.heap.size ≤ w6.heap.size) := by have hq := hb.size; show w5.heap.size ≤ w6.heap.size; omega
  clear hb
  have TW := BW
  obtain ⟨qW0, qW1, qW2⟩ := TW
  have rW0 := fun o : Obj => cell_alloc qW0 o
  have rW1 := fun o : Obj => cell_alloc qW1 o
  have rW2 := fun o : Obj => cell_alloc qW2 o
  go_wp2_with fail
  refine (eqDiskResult_same c R ah ah2 aw aw2 ch ch2 cw cw2 _ hR (OH.at.below (below_new _ _)) (OW.at.below (below_new _ _))).mono ?_
  rintro e w7 ⟨rfl, hb⟩
  clear qW0 qW1 qW2 rW0 rW1 rW2
  replace hB := below_then hB (below_then (below_new _ _) hb)
  replace BW := (BW.alloc _).below hb
  replace BG := (BG.alloc _).below hb
  have BH := (Box3.new w6 (.int .i64 c) (.slice ah R.n ch) (.slice ah2 R.m ch2) 40).below hb
  replace OW := (OW.below (below_new _ _)).below hb
  replace OG := (OG.below (below_new _ _)).below hb
  replace OH := (OH.below (below_new _ _)).below hb
  have sw7 : Hid (w6.heap.size < w7.heap.size) := by have hq := hb.size; simp at hq; show w6.heap.size < w7.heap.size; omega
  clear hb
  have TG := BG
  obtain ⟨qG0, qG1, qG2⟩ := TG
  go_wp2_with fail
  refine (heldDiskResult_any c R _ _ cg cg2 _ hR OG.at).mono ?_
  rintro e w8 ⟨rfl, hb⟩
  clear qG0 qG1 qG2
  replace hB := below_then hB hb
  replace BW := BW.below hb
  replace BG := BG.below hb
  replace BH := BH.below hb
  replace OW := OW.below hb
  replace OG := OG.below hb
  replace OH := OH.below hb
  have sw8 : Hid (w7.heap.size ≤ w8.heap.size) := by have hq := hb.size; show w7.heap.size ≤ w8.heap.size; omega
  clear hb
  go_wp2_with fail
  go_ret
  exact ⟨rfl, hB⟩
theorem small_nD {n : Nat} (h : n ≤ 8) : Small (nD n) := by
  have hs : ∀ m, sumL (fun _ => 48) m = 48 * m := fun m => by
    induction m with
    | zero => rfl
    | succ m ih => simp only [sumL, ih]; omega
  exact ⟨by show n ≤ 1048576; omega, by show 0 ≤ 1048576; omega, fun i hi => by show 48 ≤ 1048576; omega, fun i hi => by show 0 ≤ 1048576; omega, by show sumL (fun _ => 48) n ≤ 1048576; rw [hs]; omega, by show 0 ≤ 1048576; omega⟩
theorem small_E0' : Small E0 := ⟨by decide, by decide, fun i hi => by show 0 ≤ 1048576; omega, fun i hi => by show 0 ≤ 1048576; omega, by decide, by decide⟩
theorem newDiskLaw (x : Int) (w : World) : Calls Try.prog 4 #[.int .i64 x] w fun e w' => e = .returned (.bool true) ∧ Below w.heap.size w w' := by
  refine newDiskLaw_small x w (nC x) (rD (nC x) (nD x.toNat)) ?_ (fun w => specNd_any x w) (fun w => implNd_any x w)
  unfold rD nC
  by_cases h : 1 ≤ x ∧ x ≤ 8
  · rw [if_pos h, if_pos rfl]; exact small_nD (by omega)
  · rw [if_neg h, if_neg (by decide)]; exact small_E0'
end Go.Proofs.Ytgchkpahoilmdaa
