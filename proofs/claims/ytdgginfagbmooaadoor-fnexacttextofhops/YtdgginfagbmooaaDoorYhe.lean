/- The law FnExactTextOfHops, walked. -/
import Derived.Test.YtdgginfagbmooaaDoorYhd
import Derived.Test.YtdgginfagbmooaaDoorYic
namespace Go.Proofs.YtdgginfagbmooaaDoor
open Go.RowKit Go.Deep
set_option linter.unusedVariables false
set_option maxRecDepth 20000

set_option maxHeartbeats 8000000 in
theorem txhLaw_small (n : Nat) (R : Nat → Hp) (a : Option Addr) (cap : Nat) (w : World) (hn : n ≤ 1048576) (hw : HpW n R) (HA0 : HopsAt w a n R) (hP : PowAt w) :
    Calls Tryd.prog 3 #[.slice a n cap] w fun e w' => e = .returned (.bool true) ∧ Below w.heap.size w w' := by
  have HP : Hid (PowAt w) := hP
  have HS : Hid (∀ (a : Option Addr) (w : World), HopsAt w a n R → Calls Tryd.prog 5 #[.slice a n n] w fun e w' => e = .returned (.agg #[.int .i64 (hsC R n), .string (ttext R n)]) ∧ Below w.heap.size w w') := fun a w h => specTx_any n R a w hn h
  have HI : Hid (∀ (a : Option Addr) (w : World), HopsAt w a n R → PowAt w → Calls Tryd.prog 7 #[.slice a n n] w fun e w' => e = .returned (.agg #[.int .i64 (hsC R n), .string (ttext R n)]) ∧ Below w.heap.size w w') := fun a w h hp => implTx_any n R a w hn hw h hp
  generalize hsC R n = c at *
  generalize ttext R n = s at *
  clear hP
  go_enter Tryd.func3, Tryd.ntmps3
  have hneg : ¬ ((1048576 : Int) - (n : Int) < 0) := by omega
  go_wp2_with fail
  refine (szHopS_any n a cap _ (by omega)).mono ?_
  rintro e w0 ⟨rfl, hw0⟩
  have hw1 := hw0.symm
  clear hw0
  subst hw1
  rw [if_pos hn]
  go_wp2_with fail
  refine (toHopS_any n R a cap _ hn HA0).mono ?_
  rintro e w1 ⟨bt, rfl, hb, OT⟩
  have HB1 : Hid (Below w.heap.size w w1) := hb
  clear hb
  go_wp2_with fail
  refine (HS.out _ _ OT.at).mono ?_
  rintro e w2 ⟨rfl, hb⟩
  have HB2 : Hid (Below w.heap.size w w2) := below_then HB1.out hb
  clear hb OT
  go_wp2_with fail
  have S3 := Box2.new w2 (.int .i64 c) (.string s) 25
  have HB3 : Hid (Below w.heap.size w (w2.alloc (.cells #[.int .i64 c, .string s] 25))) := HB2.out.alloc HB2.out.size _
  obtain ⟨B3, hB3⟩ : ∃ B, B = w2.heap.size := ⟨_, rfl⟩
  rw [← hB3] at S3 ⊢
  generalize (w2.alloc (.cells #[.int .i64 c, .string s] 25)) = w3 at *
  clear hB3
  refine (toHopS_any n R a cap _ hn (HA0.below HB3.out)).mono ?_
  rintro e w4 ⟨bx, rfl, hb, OX⟩
  have HB4 : Hid (Below w.heap.size w w4) := below_then HB3.out hb
  replace S3 := S3.below hb
  clear hb
  go_wp2_with fail
  refine (HI.out _ _ OX.at (HP.out.below HB4.out)).mono ?_
  rintro e w5 ⟨rfl, hb⟩
  have HB5 : Hid (Below w.heap.size w w5) := below_then HB4.out hb
  replace S3 := S3.below hb
  replace OX := OX.below hb
  clear hb
  have S6 := Box2.new w5 (.int .i64 c) (.string s) 25
  have HB6 : Hid (Below w.heap.size w (w5.alloc (.cells #[.int .i64 c, .string s] 25))) := HB5.out.alloc HB5.out.size _
  replace S3 := S3.alloc (.cells #[.int .i64 c, .string s] 25)
  replace OX := OX.below (below_new w5 (.cells #[.int .i64 c, .string s] 25))
  go_upto_region 8 with fail
  obtain ⟨B6, hB6⟩ : ∃ B, B = w5.heap.size := ⟨_, rfl⟩
  rw [← hB6] at S6 ⊢
  generalize (w5.alloc (.cells #[.int .i64 c, .string s] 25)) = w6 at *
  clear hB6
  obtain ⟨s0, s1⟩ := S3
  obtain ⟨g0, g1⟩ := S6
  go_wp2_with fail
  refine (eqTextResult_same c s _).mono ?_
  rintro e w7 ⟨rfl, hb⟩
  have HB7 : Hid (Below w.heap.size w w7) := below_then HB6.out hb
  replace OX := OX.below hb
  clear hb s0 s1 g0 g1
  go_wp2_with fail
  refine (toHopS_any n R a cap _ hn (HA0.below HB7.out)).mono ?_
  rintro e w8 ⟨bq, rfl, hb, OQ⟩
  have HB8 : Hid (Below w.heap.size w w8) := below_then HB7.out hb
  replace OX := OX.below hb
  clear hb
  go_wp2_with fail
  refine (eqHopS_any n R _ _ n n _ hn OX.at OQ.at).mono ?_
  rintro e w9 ⟨rfl, hb⟩
  have HB9 : Hid (Below w.heap.size w w9) := below_then HB8.out hb
  clear hb OQ OX
  go_wp2_with fail
  go_ret
  exact ⟨rfl, HB9.out⟩
theorem txhLaw_big (n : Nat) (a : Option Addr) (cap : Nat) (w : World) (hn0 : n ≤ 9223372036854775807) (hn : ¬ n ≤ 1048576) :
    Calls Tryd.prog 3 #[.slice a n cap] w fun e w' => e = .returned (.bool true) ∧ Below w.heap.size w w' := by
  go_enter Tryd.func3, Tryd.ntmps3
  go_wp2_with fail
  refine (szHopS_any n a cap _ hn0).mono ?_
  rintro e w0 ⟨rfl, rfl⟩
  rw [if_neg hn]
  go_wp2_with fail
  go_ret
  exact ⟨rfl, Below.refl _ _⟩
theorem txhLaw (n : Nat) (R : Nat → Hp) (a : Option Addr) (cap : Nat) (w : World) (hn : n ≤ 9223372036854775807) (h : HopsAt w a n R) (hw : HpW n R) (hP : PowAt w) :
    Calls Tryd.prog 3 #[.slice a n cap] w fun e w' => e = .returned (.bool true) ∧ Below w.heap.size w w' := by
  by_cases hs : n ≤ 1048576
  · exact txhLaw_small n R a cap w hs hw h hP
  · exact txhLaw_big n a cap w hn hs
end Go.Proofs.YtdgginfagbmooaaDoor
