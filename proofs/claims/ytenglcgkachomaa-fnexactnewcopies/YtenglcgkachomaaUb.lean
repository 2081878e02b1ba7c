/- Rows of undos: marked, held, opened. -/
import Derived.Test.YtenglcgkachomaaUa
namespace Go.Proofs.Ytenglcgkachomaa
open Go.ChangeShapes Go.WideShapes Go.ChangeAt Go.RowKit Go.Deep Go.Joins
set_option linter.unusedVariables false
set_option maxRecDepth 20000

def mU (m : Int) (i : Nat) : Ud := ⟨m + i * 4, (m + i * 4 + 1) % 3 == 0, (m + i * 4 + 2) % 3 == 0, m + i * 4 + 3⟩
def mkU (m : Int) (R : Nat → Ud) (j i : Nat) : Ud := if i < j then mU m i else R i
theorem mkU_step (m : Int) (R : Nat → Ud) (k i : Nat) : (if i = k then mU m k else mkU m R k i) = mkU m R (k + 1) i := by
  unfold mkU
  by_cases e : i = k
  · subst e; simp
  · rw [if_neg e]
    have : (i < k + 1) ↔ (i < k) := by omega
    simp only [this]
/-! ### held -/
end Go.Proofs.Ytenglcgkachomaa
