/- spec.l5Push. -/
import Derived.Test.YtjdodbiphijjgaaGreatQRsb
import Derived.Test.YtjdodbiphijjgaaGreatQVl
namespace Go.Proofs.YtjdodbiphijjgaaGreat
open Go.RowKit Go.Deep
set_option linter.unusedVariables false
set_option maxRecDepth 20000

def pxA (R : Nat → Vr) (x : Vr) (i : Nat) : Vr := if i = 0 then x else R i
def pxC (R : Nat → Vr) (x : Vr) (i : Nat) : Vr := if i = 0 then x else R (i - 1)
theorem l5Push_many (n : Nat) (R : Nat → Vr) (a : Option Addr) (cap : Nat) (o : Int) (g : Bool) (v : Int) (w : World) (hn : n = 12) (hw : wrt n R ≠ o) (h : VersAt w a n R) :
    Calls Tryz.prog 114 #[.slice a n cap, .int .i64 o, .bool g, .int .i64 v] w fun e w' => e = .returned (.tuple #[.slice a n cap, .int .i64 2]) ∧ Below w.heap.size w w' := by
  have HA : Hid (VersAt w a n R) := h
  have hn1 : (12 : Int) ≤ (n : Int) := by omega
  clear h hn
  go_enter Tryz.func114, Tryz.ntmps114
  go_wp2_with fail
  refine (l5Writer_any n R a cap _ (HA.out.below (below_new _ _))).mono ?_
  rintro e w1 ⟨rfl, hw1⟩
  have HB1 : Hid (Below w.heap.size w w1) := by rw [hw1]; exact below_new _ _
  clear hw1
  generalize wrt n R = z at *
  have hz : (z == o) = false := by simp [hw]
  go_wp2_with fail
  go_ret2
  exact ⟨rfl, HB1.out⟩
end Go.Proofs.YtjdodbiphijjgaaGreat
