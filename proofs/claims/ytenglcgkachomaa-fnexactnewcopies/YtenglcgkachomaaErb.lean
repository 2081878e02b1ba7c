/- Rows: equal, marked, held, opened. -/
import Derived.Test.YtenglcgkachomaaEra
namespace Go.Proofs.Ytenglcgkachomaa
open Go.ChangeShapes Go.WideShapes Go.ChangeAt Go.RowKit Go.Deep Go.Joins
set_option linter.unusedVariables false
set_option maxRecDepth 20000

/-! ### equal -/
/-! ### marked, held -/
def sRw (T : Nat → Rw) (i : Nat) : Nat := smf (fun i => (T i).n * 4 + 1) i
theorem sRw_eq (T : Nat → Rw) (i : Nat) : sRw T i = smRw T i * 4 + i * 1 := smf_add _ _ _ _
def mRw (m : Int) (T : Nat → Rw) (i : Nat) : Rw := ⟨m + sRw T i, (T i).n, mV (m + sRw T i + 1)⟩
/-! ### opened -/
end Go.Proofs.Ytenglcgkachomaa
