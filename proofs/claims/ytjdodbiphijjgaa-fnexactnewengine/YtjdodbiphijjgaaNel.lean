/- FnExactNewEngine: the walk of the law. -/
import Derived.Test.YtjdodbiphijjgaaNb
import Derived.Test.YtjdodbiphijjgaaNc
namespace Go.Proofs.Ytjdodbiphijjgaa
open Go.RowKit Go.Deep
set_option linter.unusedVariables false
set_option maxRecDepth 20000

set_option maxHeartbeats 8000000 in
theorem newEngineLaw_small (n : Nat) (K V : Nat → Int) (a : Option Addr) (cap : Nat) (w : World) (hn : n ≤ 1048576) (HA0 : CellsAt w a n K V) (c : Int) (E : En) (hE : SmallE E)
    (HP : Hid (∀ (a : Option Addr) (cap : Nat) (w : World), CellsAt w a n K V → Calls Try.prog 5 #[.slice a n cap] w (ERes c 0 E w)))
    (HQ : Hid (∀ (a : Option Addr) (cap : Nat) (w : World), CellsAt w a n K V → Calls Try.prog 7 #[.slice a n cap] w (ERes c 0 E w))) :
    Calls Try.prog 3 #[.slice a n cap] w fun e w' => e = .returned (.bool true) ∧ Below w.heap.size w w' := by
  go_enter Try.func3, Try.ntmps3
  have hneg : ¬ ((1048576 : Int) - (n : Int) < 0) := by omega
  have hneg2 : ¬ ((1 : Int) + (n : Int) * 2 < 0) := by omega
  have hneg3 : ¬ ((1 : Int) + (totE E : Int) < 0) := by omega
  go_wp2_with fail
  refine (szCellS_any n a cap _ (by omega)).mono ?_
  rintro e w0 ⟨rfl, hw0⟩
  have hw1 := hw0.symm
  clear hw0
  subst hw1
  rw [if_pos hn]
  go_wp2_with fail
  refine (toCellS_own n K V a cap _ (by omega) HA0).mono ?_
  rintro e w1 ⟨bt, rfl, hb, OT⟩
  have hB : Below w.heap.size w w1 := hb
  have HA := HA0.below hB
  have sw1 : Hid (w.heap.size ≤ w1.heap.size) := by have hq := hb.size; show w.heap.size ≤ w1.heap.size; omega
  clear hb
  go_wp2_with fail
  refine (HP.out _ _ _ OT.at).mono ?_
  rintro e w2 ⟨aw, cw, bw, dw, rfl, hb, OW⟩
  replace hB := below_then hB hb
  replace OT := OT.below hb
  replace HA := HA.below hb
  have sw2 : Hid (w1.heap.size ≤ w2.heap.size) := by have hq := hb.size; show w1.heap.size ≤ w2.heap.size; omega
  clear hb
  clear OT
  go_wp2_with fail
  refine (toCellS_own n K V a cap _ (by omega) (HA.below (below_new _ _))).mono ?_
  rintro e w3 ⟨bx, rfl, hb, OX⟩
  replace hB := below_then hB (below_then (below_new _ _) hb)
  have BW := (Box6.new w2 (.int .i64 c) (.int .i64 0) (.int .i64 E.nx) (.int .i64 E.ck) (.slice aw E.p cw) (.slice bw E.q dw) 29).below hb
  replace OW := (OW.below (below_new _ _)).below hb
  replace HA := (HA.below (below_new _ _)).below hb
  have sw3 : Hid (w2.heap.size < w3.heap.size) := by have hq := hb.size; simp at hq; show w2.heap.size < w3.heap.size; omega
  rw [World.size_alloc] at OX
  clear hb
  go_wp2_with fail
  refine (HQ.out _ _ _ OX.at).mono ?_
  rintro e w4 ⟨ag, cg, bg, dg, rfl, hb, OG⟩
  replace hB := below_then hB hb
  replace BW := BW.below hb
  replace OW := OW.below hb
  replace OX := OX.below hb
  replace HA := HA.below hb
  have sw4 : Hid (w3.heap.size ≤ w4.heap.size) := by have hq := hb.size; show w3.heap.size ≤ w4.heap.size; omega
  clear hb
  have TW := BW
  obtain ⟨qW0, qW1, qW2, qW3, qW4, qW5⟩ := TW
  have rW0 := fun o : Obj => cell_alloc qW0 o
  have rW1 := fun o : Obj => cell_alloc qW1 o
  have rW2 := fun o : Obj => cell_alloc qW2 o
  have rW3 := fun o : Obj => cell_alloc qW3 o
  have rW4 := fun o : Obj => cell_alloc qW4 o
  have rW5 := fun o : Obj => cell_alloc qW5 o
  go_wp2_with fail
  refine (eqEngineResult_same c 0 E ag bg aw bw cg dg cw dw _ hE (OG.at.below (below_new _ _)) (OW.at.below (below_new _ _))).mono ?_
  rintro e w5 ⟨rfl, hb⟩
  clear qW0 qW1 qW2 qW3 qW4 qW5 rW0 rW1 rW2 rW3 rW4 rW5
  replace hB := below_then hB (below_then (below_new _ _) hb)
  replace BW := (BW.alloc _).below hb
  have BG := (Box6.new w4 (.int .i64 c) (.int .i64 0) (.int .i64 E.nx) (.int .i64 E.ck) (.slice ag E.p cg) (.slice bg E.q dg) 29).below hb
  replace OW := (OW.below (below_new _ _)).below hb
  replace OX := (OX.below (below_new _ _)).below hb
  replace OG := (OG.below (below_new _ _)).below hb
  replace HA := (HA.below (below_new _ _)).below hb
  have sw5 : Hid (w4.heap.size < w5.heap.size) := by have hq := hb.size; simp at hq; show w4.heap.size < w5.heap.size; omega
  clear hb
  go_wp2_with fail
  refine (toCellS_own n K V a cap _ (by omega) HA).mono ?_
  rintro e w6 ⟨bq, rfl, hb, OQ⟩
  replace hB := below_then hB hb
  replace BW := BW.below hb
  replace BG := BG.below hb
  replace OW := OW.below hb
  replace OX := OX.below hb
  replace OG := OG.below hb
  replace HA := HA.below hb
  have sw6 : Hid (w5.heap.size ≤ w6.heap.size) := by have hq := hb.size; show w5.heap.size ≤ w6.heap.size; omega
  clear hb
  go_wp2_with fail
  refine (eqCellS_any n K V _ _ n n _ (by omega) OX.at OQ.at).mono ?_
  rintro e w7 ⟨rfl, hb⟩
  replace hB := below_then hB hb
  replace BW := BW.below hb
  replace BG := BG.below hb
  replace OW := OW.below hb
  replace OX := OX.below hb
  replace OG := OG.below hb
  replace HA := HA.below hb
  have sw7 : Hid (w6.heap.size ≤ w7.heap.size) := by have hq := hb.size; show w6.heap.size ≤ w7.heap.size; omega
  clear hb
  clear OQ
  go_wp2_with fail
  refine (markCellS_any n K V _ n (w2.heap.size + 1) w3.heap.size 1 _ (by omega) (by omega) (by omega) OX).mono ?_
  rintro e w8 ⟨rfl, hw, hox⟩
  replace hB := Writes.below hB hw (by have t0 := sw1.out; have t1 := sw2.out; have t2 := sw3.out; have t3 := sw4.out; have t4 := sw5.out; have t5 := sw6.out; have t6 := sw7.out; omega)
  replace BW := BW.writes hw (by have t0 := sw1.out; have t1 := sw2.out; have t2 := sw3.out; have t3 := sw4.out; have t4 := sw5.out; have t5 := sw6.out; have t6 := sw7.out; omega)
  replace BG := BG.writes hw (by have t0 := sw1.out; have t1 := sw2.out; have t2 := sw3.out; have t3 := sw4.out; have t4 := sw5.out; have t5 := sw6.out; have t6 := sw7.out; omega)
  replace OW := OW.writes hw (by have t0 := sw1.out; have t1 := sw2.out; have t2 := sw3.out; have t3 := sw4.out; have t4 := sw5.out; have t5 := sw6.out; have t6 := sw7.out; omega)
  replace OG := OG.writes hw (by have t0 := sw1.out; have t1 := sw2.out; have t2 := sw3.out; have t3 := sw4.out; have t4 := sw5.out; have t5 := sw6.out; have t6 := sw7.out; omega)
  replace HA := HA0.below hB
  have sw8 : Hid (w7.heap.size ≤ w8.heap.size) := by have hq := hw.size; show w7.heap.size ≤ w8.heap.size; omega
  clear hw
  clear hox OX
  have TG := BG
  obtain ⟨qG0, qG1, qG2, qG3, qG4, qG5⟩ := TG
  have TW := BW
  obtain ⟨qW0, qW1, qW2, qW3, qW4, qW5⟩ := TW
  go_wp2_with fail
  refine (eqEngineResult_same c 0 E ag bg aw bw cg dg cw dw _ hE OG.at OW.at).mono ?_
  rintro e w9 ⟨rfl, hb⟩
  clear qG0 qG1 qG2 qG3 qG4 qG5 qW0 qW1 qW2 qW3 qW4 qW5
  replace hB := below_then hB hb
  replace BW := BW.below hb
  replace BG := BG.below hb
  replace OW := OW.below hb
  replace OG := OG.below hb
  replace HA := HA.below hb
  have sw9 : Hid (w8.heap.size ≤ w9.heap.size) := by have hq := hb.size; show w8.heap.size ≤ w9.heap.size; omega
  clear hb
  have TG := BG
  obtain ⟨qG0, qG1, qG2, qG3, qG4, qG5⟩ := TG
  go_wp2_with fail
  refine (markEngineResult_any c 0 E ag bg cg dg w3.heap.size w4.heap.size _ hE OG).mono ?_
  rintro e w10 ⟨rfl, hw, hog⟩
  clear qG0 qG1 qG2 qG3 qG4 qG5
  replace hB := Writes.below hB hw (by have t0 := sw1.out; have t1 := sw2.out; have t2 := sw3.out; have t3 := sw4.out; have t4 := sw5.out; have t5 := sw6.out; have t6 := sw7.out; have t7 := sw8.out; have t8 := sw9.out; omega)
  replace BW := BW.writes hw (by have t0 := sw1.out; have t1 := sw2.out; have t2 := sw3.out; have t3 := sw4.out; have t4 := sw5.out; have t5 := sw6.out; have t6 := sw7.out; have t7 := sw8.out; have t8 := sw9.out; omega)
  replace BG := BG.writes hw (by have t0 := sw1.out; have t1 := sw2.out; have t2 := sw3.out; have t3 := sw4.out; have t4 := sw5.out; have t5 := sw6.out; have t6 := sw7.out; have t7 := sw8.out; have t8 := sw9.out; omega)
  replace OW := OW.writes hw (by have t0 := sw1.out; have t1 := sw2.out; have t2 := sw3.out; have t3 := sw4.out; have t4 := sw5.out; have t5 := sw6.out; have t6 := sw7.out; have t7 := sw8.out; have t8 := sw9.out; omega)
  replace HA := HA0.below hB
  have sw10 : Hid (w9.heap.size ≤ w10.heap.size) := by have hq := hw.size; show w9.heap.size ≤ w10.heap.size; omega
  clear hw
  clear OG
  have OG := hog
  clear hog
  have TG := BG
  obtain ⟨qG0, qG1, qG2, qG3, qG4, qG5⟩ := TG
  go_wp2_with fail
  refine (heldEngineResult_any c 0 E ag bg cg dg E.nx E.ck _ hE OG.at).mono ?_
  rintro e w11 ⟨rfl, hb⟩
  clear qG0 qG1 qG2 qG3 qG4 qG5
  replace hB := below_then hB hb
  replace BW := BW.below hb
  replace BG := BG.below hb
  replace OW := OW.below hb
  replace OG := OG.below hb
  replace HA := HA.below hb
  have sw11 : Hid (w10.heap.size ≤ w11.heap.size) := by have hq := hb.size; show w10.heap.size ≤ w11.heap.size; omega
  clear hb
  go_wp2_with fail
  refine (toCellS_own n K V a cap _ (by omega) HA).mono ?_
  rintro e w12 ⟨bh, rfl, hb, OQ⟩
  replace hB := below_then hB hb
  replace BW := BW.below hb
  replace BG := BG.below hb
  replace OW := OW.below hb
  replace OG := OG.below hb
  replace HA := HA.below hb
  have sw12 : Hid (w11.heap.size ≤ w12.heap.size) := by have hq := hb.size; show w11.heap.size ≤ w12.heap.size; omega
  clear hb
  go_wp2_with fail
  refine (HQ.out _ _ _ OQ.at).mono ?_
  rintro e w13 ⟨ah, ch, bh, dh, rfl, hb, OH⟩
  replace hB := below_then hB hb
  replace BW := BW.below hb
  replace BG := BG.below hb
  replace OW := OW.below hb
  replace OG := OG.below hb
  replace OQ := OQ.below hb
  replace HA := HA.below hb
  have sw13 : Hid (w12.heap.size ≤ w13.heap.size) := by have hq := hb.size; show w12.heap.size ≤ w13.heap.size; omega
  clear hb
  clear OQ
  have TW := BW
  obtain ⟨qW0, qW1, qW2, qW3, qW4, qW5⟩ := TW
  have rW0 := fun o : Obj => cell_alloc qW0 o
  have rW1 := fun o : Obj => cell_alloc qW1 o
  have rW2 := fun o : Obj => cell_alloc qW2 o
  have rW3 := fun o : Obj => cell_alloc qW3 o
  have rW4 := fun o : Obj => cell_alloc qW4 o
  have rW5 := fun o : Obj => cell_alloc qW5 o
  go_wp2_with fail
  refine (eqEngineResult_same c 0 E ah bh aw bw ch dh cw dw _ hE (OH.at.below (below_new _ _)) (OW.at.below (below_new _ _))).mono ?_
  rintro e w14 ⟨rfl, hb⟩
  clear qW0 qW1 qW2 qW3 qW4 qW5 rW0 rW1 rW2 rW3 rW4 rW5
  replace hB := below_then hB (below_then (below_new _ _) hb)
  replace BW := (BW.alloc _).below hb
  replace BG := (BG.alloc _).below hb
  have BH := (Box6.new w13 (.int .i64 c) (.int .i64 0) (.int .i64 E.nx) (.int .i64 E.ck) (.slice ah E.p ch) (.slice bh E.q dh) 29).below hb
  replace OW := (OW.below (below_new _ _)).below hb
  replace OG := (OG.below (below_new _ _)).below hb
  replace OH := (OH.below (below_new _ _)).below hb
  replace HA := (HA.below (below_new _ _)).below hb
  have sw14 : Hid (w13.heap.size < w14.heap.size) := by have hq := hb.size; simp at hq; show w13.heap.size < w14.heap.size; omega
  clear hb
  have TG := BG
  obtain ⟨qG0, qG1, qG2, qG3, qG4, qG5⟩ := TG
  go_wp2_with fail
  refine (heldEngineResult_any c 0 E ag bg cg dg E.nx E.ck _ hE OG.at).mono ?_
  rintro e w15 ⟨rfl, hb⟩
  clear qG0 qG1 qG2 qG3 qG4 qG5
  replace hB := below_then hB hb
  replace BW := BW.below hb
  replace BG := BG.below hb
  replace BH := BH.below hb
  replace OW := OW.below hb
  replace OG := OG.below hb
  replace OH := OH.below hb
  replace HA := HA.below hb
  have sw15 : Hid (w14.heap.size ≤ w15.heap.size) := by have hq := hb.size; show w14.heap.size ≤ w15.heap.size; omega
  clear hb
  go_wp2_with fail
  go_ret
  exact ⟨rfl, hB⟩
theorem newEngineLaw_big (n : Nat) (a : Option Addr) (cap : Nat) (w : World) (hn0 : n ≤ 9223372036854775807) (hn : ¬ n ≤ 1048576) :
    Calls Try.prog 3 #[.slice a n cap] w fun e w' => e = .returned (.bool true) ∧ Below w.heap.size w w' := by
  go_enter Try.func3, Try.ntmps3
  go_wp2_with fail
  refine (szCellS_any n a cap _ hn0).mono ?_
  rintro e w0 ⟨rfl, rfl⟩
  rw [if_neg hn]
  go_wp2_with fail
  go_ret
  exact ⟨rfl, Below.refl _ _⟩
theorem neR_small (n : Nat) (K V : Nat → Int) (hn : n ≤ 1048576) : SmallE (neR n K V) := by
  unfold neR
  split
  · rename_i h
    have h20 : n ≤ 20 := by
      unfold neC at h
      split at h
      · omega
      · omega
    have e : ∀ k, smf (fun i => (rnE K V i).n) k = k := by
      intro k
      induction k with
      | zero => rfl
      | succ k ih =>
        show smf (fun i => (rnE K V i).n) k + 1 = k + 1
        rw [ih]
    exact ⟨by show 0 ≤ 1048576; omega, by show n ≤ 1048576; omega, fun i hi => by simp [neE] at hi, fun i hi => by show 1 ≤ 1048576; omega, by show smf _ 0 ≤ _; simp [smf], by show smf (fun i => (rnE K V i).n) n ≤ _; rw [e]; omega⟩
  · exact ⟨by show 0 ≤ 1048576; omega, by show 0 ≤ 1048576; omega, fun i hi => by simp [zEn] at hi, fun i hi => by simp [zEn] at hi, by show smf _ 0 ≤ _; simp [smf], by show smf _ 0 ≤ _; simp [smf]⟩
theorem newEngineLaw (n : Nat) (K V : Nat → Int) (a : Option Addr) (cap : Nat) (w : World) (hn : n ≤ 9223372036854775807) (h : CellsAt w a n K V) :
    Calls Try.prog 3 #[.slice a n cap] w fun e w' => e = .returned (.bool true) ∧ Below w.heap.size w w' := by
  by_cases hs : n ≤ 1048576
  · exact newEngineLaw_small n K V a cap w hs h (neC n K V) (neR n K V) (neR_small n K V hs) (fun a cap w h => specNe_any n K V a cap w h) (fun a cap w h => implNe_any n K V a cap w h)
  · exact newEngineLaw_big n a cap w hn hs
end Go.Proofs.Ytjdodbiphijjgaa
