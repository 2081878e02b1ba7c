/- FnChains: the law. -/
import Derived.Test.YtiabblmjgfkijaaVkk
namespace Go.Proofs.Ytiabblmjgfkijaa
open Go.RowKit Go.Deep
set_option linter.unusedVariables false
set_option linter.unusedSimpArgs false
set_option maxRecDepth 20000

theorem fnChainsLaw (n : Nat) (z : Nat → Int) (a : Option Addr) (cap : Nat) (w : World) (hn : n ≤ 9223372036854775807) (hz : Byt n z) (HA0 : BytesAt w a n z) :
    Calls Try.prog 4 #[.slice a n cap] w fun e w' => e = .returned (.bool true) ∧ Below w.heap.size w w' := by
  by_cases h : n ≤ 1048576
  · exact fnChains_small n z a cap w h hz HA0
  · have hbg : decide ((1048576 : Int) < (n : Int)) = true := by simp; omega
    clear hz HA0
    go_enter Try.func4, Try.ntmps4
    go_wp2_with (go_at_call 5; refine (lwBig_any _ _ _ _).mono ?_; rintro e w' ⟨rfl, hw⟩; have hw1 := hw.symm; clear hw; subst hw1; rw [hbg])
    go_ret
    exact ⟨rfl, Below.refl _ _⟩
end Go.Proofs.Ytiabblmjgfkijaa
