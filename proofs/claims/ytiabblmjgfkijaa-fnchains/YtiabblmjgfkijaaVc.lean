/- Rows of versions: marked, held; answers that are chains; arguments that are chains and views, opened. -/
import Derived.Test.YtiabblmjgfkijaaVb
namespace Go.Proofs.Ytiabblmjgfkijaa
open Go.ChangeShapes Go.WideShapes Go.ChangeAt Go.RowKit Go.Deep Go.Joins
set_option linter.unusedVariables false
set_option maxRecDepth 20000

def mV (m : Int) (i : Nat) : Vr := ⟨m + i * 4, m + i * 4 + 1, (m + i * 4 + 2) % 3 == 0, m + i * 4 + 3⟩
def mkV (m : Int) (R : Nat → Vr) (j i : Nat) : Vr := if i < j then mV m i else R i
theorem mkV_step (m : Int) (R : Nat → Vr) (k i : Nat) : (if i = k then mV m k else mkV m R k i) = mkV m R (k + 1) i := by
  unfold mkV
  by_cases e : i = k
  · subst e; simp
  · rw [if_neg e]
    have : (i < k + 1) ↔ (i < k) := by omega
    simp only [this]
/-! ### held -/
/-! ### answers that are chains -/
/-! ### arguments, opened -/
theorem cellsI : Try.prog.cellsOf 2 = 1 := by kernel_rfl
theorem cellsB : Try.prog.cellsOf 4 = 1 := by kernel_rfl
end Go.Proofs.Ytiabblmjgfkijaa
