/- FnExactWriterOf: the walk of the law. -/
import Derived.Test.YtmegbinpclclaaaVh
namespace Go.Proofs.Ytmegbinpclclaaa
open Go.RowKit Go.Deep
set_option linter.unusedVariables false
set_option maxRecDepth 20000

set_option maxHeartbeats 8000000 in
theorem writerOfLaw_small (n : Nat) (R : Nat → Vr) (a : Option Addr) (cap : Nat) (w : World) (hn : n ≤ 1048576) (HA0 : VersAt w a n R) (c v : Int)
    (HP : Hid (∀ (a : Option Addr) (cap : Nat) (w : World), VersAt w a n R → Calls Try.prog 20 #[.slice a n cap] w fun e w' => e = .returned (.agg #[.int .i64 c, .int .i64 v]) ∧ Below w.heap.size w w'))
    (HQ : Hid (∀ (a : Option Addr) (cap : Nat) (w : World), VersAt w a n R → Calls Try.prog 21 #[.slice a n cap] w fun e w' => e = .returned (.agg #[.int .i64 c, .int .i64 v]) ∧ Below w.heap.size w w')) :
    Calls Try.prog 5 #[.slice a n cap] w fun e w' => e = .returned (.bool true) ∧ Below w.heap.size w w' := by
  go_enter Try.func5, Try.ntmps5
  have hneg : ¬ ((1048576 : Int) - (n : Int) < 0) := by omega
  go_wp2_with fail
  refine (szVersionS_any n a cap _ (by omega)).mono ?_
  rintro e w0 ⟨rfl, hw0⟩
  have hw1 := hw0.symm
  clear hw0
  subst hw1
  rw [if_pos hn]
  go_wp2_with fail
  refine (toVersionS_any n R a cap _ hn HA0).mono ?_
  rintro e w1 ⟨bt, rfl, hb, OT⟩
  have hB : Below w.heap.size w w1 := hb
  have HA := HA0.below hB
  have sw1 : Hid (w.heap.size ≤ w1.heap.size) := by have hq := hb.size; show w.heap.size ≤ w1.heap.size; omega
  clear hb
  go_wp2_with fail
  refine (HP.out _ _ _ OT.at).mono ?_
  rintro e w2 ⟨rfl, hb⟩
  replace hB := below_then hB hb
  replace OT := OT.below hb
  replace HA := HA.below hb
  have sw2 : Hid (w1.heap.size ≤ w2.heap.size) := by have hq := hb.size; show w1.heap.size ≤ w2.heap.size; omega
  clear hb
  clear OT
  go_wp2_with fail
  refine (toVersionS_any n R a cap _ hn (HA.below (below_new _ _))).mono ?_
  rintro e w3 ⟨bx, rfl, hb, OX⟩
  replace hB := below_then hB (below_then (below_new _ _) hb)
  have BW := (Box2.new w2 (.int .i64 c) (.int .i64 v) 32).below hb
  replace HA := (HA.below (below_new _ _)).below hb
  have sw3 : Hid (w2.heap.size < w3.heap.size) := by have hq := hb.size; simp at hq; show w2.heap.size < w3.heap.size; omega
  clear hb
  go_wp2_with fail
  refine (HQ.out _ _ _ OX.at).mono ?_
  rintro e w4 ⟨rfl, hb⟩
  replace hB := below_then hB hb
  replace BW := BW.below hb
  replace OX := OX.below hb
  replace HA := HA.below hb
  have sw4 : Hid (w3.heap.size ≤ w4.heap.size) := by have hq := hb.size; show w3.heap.size ≤ w4.heap.size; omega
  clear hb
  have TW := BW
  obtain ⟨qW0, qW1⟩ := TW
  have rW0 := fun o : Obj => cell_alloc qW0 o
  have rW1 := fun o : Obj => cell_alloc qW1 o
  go_wp2_with fail
  refine (eqIntResult_same c v _).mono ?_
  rintro e w5 ⟨rfl, hb⟩
  clear qW0 qW1 rW0 rW1
  replace hB := below_then hB (below_then (below_new _ _) hb)
  replace BW := (BW.alloc _).below hb
  have BG := (Box2.new w4 (.int .i64 c) (.int .i64 v) 32).below hb
  replace OX := (OX.below (below_new _ _)).below hb
  replace HA := (HA.below (below_new _ _)).below hb
  have sw5 : Hid (w4.heap.size < w5.heap.size) := by have hq := hb.size; simp at hq; show w4.heap.size < w5.heap.size; omega
  clear hb
  go_wp2_with fail
  refine (toVersionS_any n R a cap _ hn HA).mono ?_
  rintro e w6 ⟨bq, rfl, hb, OQ⟩
  replace hB := below_then hB hb
  replace BW := BW.below hb
  replace BG := BG.below hb
  replace OX := OX.below hb
  replace HA := HA.below hb
  have sw6 : Hid (w5.heap.size ≤ w6.heap.size) := by have hq := hb.size; show w5.heap.size ≤ w6.heap.size; omega
  clear hb
  go_wp2_with fail
  refine (eqVersionS_any n R _ _ n n _ hn OX.at OQ.at).mono ?_
  rintro e w7 ⟨rfl, hb⟩
  replace hB := below_then hB hb
  replace BW := BW.below hb
  replace BG := BG.below hb
  replace OX := OX.below hb
  replace HA := HA.below hb
  have sw7 : Hid (w6.heap.size ≤ w7.heap.size) := by have hq := hb.size; show w6.heap.size ≤ w7.heap.size; omega
  clear hb
  clear OQ
  go_wp2_with fail
  go_ret
  exact ⟨rfl, hB⟩
theorem writerOfLaw_big (n : Nat) (a : Option Addr) (cap : Nat) (w : World) (hn0 : n ≤ 9223372036854775807) (hn : ¬ n ≤ 1048576) :
    Calls Try.prog 5 #[.slice a n cap] w fun e w' => e = .returned (.bool true) ∧ Below w.heap.size w w' := by
  go_enter Try.func5, Try.ntmps5
  go_wp2_with fail
  refine (szVersionS_any n a cap _ hn0).mono ?_
  rintro e w0 ⟨rfl, rfl⟩
  rw [if_neg hn]
  go_wp2_with fail
  go_ret
  exact ⟨rfl, Below.refl _ _⟩
theorem writerOfLaw (n : Nat) (R : Nat → Vr) (a : Option Addr) (cap : Nat) (w : World) (hn : n ≤ 9223372036854775807) (h : VersAt w a n R) :
    Calls Try.prog 5 #[.slice a n cap] w fun e w' => e = .returned (.bool true) ∧ Below w.heap.size w w' := by
  by_cases hs : n ≤ 1048576
  · exact writerOfLaw_small n R a cap w hs h (woC n R) (woV n R) (fun a cap w h => specWo_any n R a cap w hn h) (fun a cap w h => implWo_any n R a cap w hn h)
  · exact writerOfLaw_big n a cap w hn hs
end Go.Proofs.Ytmegbinpclclaaa
