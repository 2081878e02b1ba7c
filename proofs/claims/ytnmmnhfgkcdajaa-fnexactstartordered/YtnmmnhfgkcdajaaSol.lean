/- FnExactStartOrdered: the walk of the law. -/
import Derived.Test.YtnmmnhfgkcdajaaEdl
namespace Go.Proofs.Ytnmmnhfgkcdajaa
open Go.RowKit Go.Deep
set_option linter.unusedVariables false
set_option maxRecDepth 20000

set_option maxHeartbeats 8000000 in
theorem solLaw_small (n : Nat) (R : Nat → Hp) (a : Option Addr) (cap : Nat) (w : World) (hn : n ≤ 1048576) (HA0 : HopsAt w a n R) (c : Bool)
    (HP : Hid (∀ (a : Option Addr) (w : World), HopsAt w a n R → Calls Try.prog 21 #[.slice a n n] w fun e w' => e = .returned (.bool c) ∧ Below w.heap.size w w'))
    (HQ : Hid (∀ (a : Option Addr) (w : World), HopsAt w a n R → Calls Try.prog 22 #[.slice a n n] w fun e w' => e = .returned (.bool c) ∧ Below w.heap.size w w')) :
    Calls Try.prog 6 #[.slice a n cap] w fun e w' => e = .returned (.bool true) ∧ Below w.heap.size w w' := by
  go_enter Try.func6, Try.ntmps6
  have hneg : ¬ ((1048576 : Int) - (n : Int) < 0) := by omega
  go_wp2_with fail
  refine (szHopS_any n a cap _ (by omega)).mono ?_
  rintro e w0 ⟨rfl, hw0⟩
  have hw1 := hw0.symm
  clear hw0
  subst hw1
  rw [if_pos hn]
  go_wp2_with fail
  refine (toHopS_any n R a cap _ hn HA0).mono ?_
  rintro e w1 ⟨bt, rfl, hb, OT⟩
  have hB : Below w.heap.size w w1 := hb
  have HA := HA0.below hB
  have sw1 : Hid (w.heap.size ≤ w1.heap.size) := by have hq := hb.size; show w.heap.size ≤ w1.heap.size; omega
  clear hb
  go_wp2_with fail
  refine (HP.out _ _ OT.at).mono ?_
  rintro e w2 ⟨rfl, hb⟩
  replace hB := below_then hB hb
  replace OT := OT.below hb
  replace HA := HA.below hb
  have sw2 : Hid (w1.heap.size ≤ w2.heap.size) := by have hq := hb.size; show w1.heap.size ≤ w2.heap.size; omega
  clear hb
  clear OT
  go_wp2_with fail
  refine (toHopS_any n R a cap _ hn HA).mono ?_
  rintro e w3 ⟨bx, rfl, hb, OX⟩
  replace hB := below_then hB hb
  replace HA := HA.below hb
  have sw3 : Hid (w2.heap.size ≤ w3.heap.size) := by have hq := hb.size; show w2.heap.size ≤ w3.heap.size; omega
  clear hb
  go_wp2_with fail
  refine (HQ.out _ _ OX.at).mono ?_
  rintro e w4 ⟨rfl, hb⟩
  replace hB := below_then hB hb
  replace OX := OX.below hb
  replace HA := HA.below hb
  have sw4 : Hid (w3.heap.size ≤ w4.heap.size) := by have hq := hb.size; show w3.heap.size ≤ w4.heap.size; omega
  clear hb
  go_wp2_with fail
  refine (toHopS_any n R a cap _ hn HA).mono ?_
  rintro e w5 ⟨bq, rfl, hb, OQ⟩
  replace hB := below_then hB hb
  replace OX := OX.below hb
  replace HA := HA.below hb
  have sw5 : Hid (w4.heap.size ≤ w5.heap.size) := by have hq := hb.size; show w4.heap.size ≤ w5.heap.size; omega
  clear hb
  go_wp2_with fail
  refine (eqHopS_any n R _ _ n n _ hn OX.at OQ.at).mono ?_
  rintro e w6 ⟨rfl, hb⟩
  replace hB := below_then hB hb
  replace OX := OX.below hb
  replace HA := HA.below hb
  have sw6 : Hid (w5.heap.size ≤ w6.heap.size) := by have hq := hb.size; show w5.heap.size ≤ w6.heap.size; omega
  clear hb
  clear OQ
  go_wp2_with fail
  go_ret
  exact ⟨rfl, hB⟩
theorem solLaw_big (n : Nat) (a : Option Addr) (cap : Nat) (w : World) (hn0 : n ≤ 9223372036854775807) (hn : ¬ n ≤ 1048576) :
    Calls Try.prog 6 #[.slice a n cap] w fun e w' => e = .returned (.bool true) ∧ Below w.heap.size w w' := by
  go_enter Try.func6, Try.ntmps6
  go_wp2_with fail
  refine (szHopS_any n a cap _ hn0).mono ?_
  rintro e w0 ⟨rfl, rfl⟩
  rw [if_neg hn]
  go_wp2_with fail
  go_ret
  exact ⟨rfl, Below.refl _ _⟩
theorem solLaw (n : Nat) (R : Nat → Hp) (a : Option Addr) (cap : Nat) (w : World) (hn : n ≤ 9223372036854775807) (h : HopsAt w a n R) (hw : HpW n R) :
    Calls Try.prog 6 #[.slice a n cap] w fun e w' => e = .returned (.bool true) ∧ Below w.heap.size w w' := by
  by_cases hs : n ≤ 1048576
  · exact solLaw_small n R a cap w hs h (soC R n 32) (fun a w h => specSo_l 32 rfl n R a w hs h) (fun a w h => implSo_any 32 rfl n R a w hs hw h)
  · exact solLaw_big n a cap w hn hs
end Go.Proofs.Ytnmmnhfgkcdajaa
