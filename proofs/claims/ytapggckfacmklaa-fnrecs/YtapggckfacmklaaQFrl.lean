/- FnRecs: the law. -/
import Derived.Test.YtapggckfacmklaaQFrw
namespace Go.Proofs.Ytapggckfacmklaa
open Go.RowKit Go.Deep
set_option linter.unusedVariables false
set_option linter.unusedSimpArgs false
set_option maxRecDepth 20000

theorem fnRecs_law (kk : Nat) (z : Nat → Int) (a : Option Addr) (cap : Nat) (w : World) (hk : kk ≤ 9223372036854775807) (hz : Byt kk z) (h : BytesAt w a kk z) :
    Calls Try.prog 4 #[.slice a kk cap] w fun e w' => e = .returned (.bool true) ∧ Below w.heap.size w w' := by
  by_cases hbig : kk ≤ 1048576
  · exact fnRecs_small kk z a cap w hbig hz h
  · have hbg : decide ((1048576 : Int) < (kk : Int)) = true := by simp; omega
    go_enter Try.func4, Try.ntmps4
    go_wp2_with (go_at_call 5; refine (lwBig_any _ _ _ _).mono ?_; rintro e w' ⟨rfl, hw⟩; have hw1 := hw.symm; clear hw; subst hw1; rw [hbg])
    go_ret
    exact ⟨rfl, Below.refl _ _⟩
end Go.Proofs.Ytapggckfacmklaa
