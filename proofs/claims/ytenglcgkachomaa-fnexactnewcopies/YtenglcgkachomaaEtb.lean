/- Transactions: equal, marked, held, opened. -/
import Derived.Test.YtenglcgkachomaaEta
namespace Go.Proofs.Ytenglcgkachomaa
open Go.ChangeShapes Go.WideShapes Go.ChangeAt Go.RowKit Go.Deep Go.Joins
set_option linter.unusedVariables false
set_option maxRecDepth 20000

/-! ### equal -/
/-! ### marked, held -/
def sTx (T : Nat → Tx) (i : Nat) : Nat := smf (fun i => (T i).n * 4 + 4) i
theorem sTx_eq (T : Nat → Tx) (i : Nat) : sTx T i = smTx T i * 4 + i * 4 := smf_add _ _ _ _
def mTx (m : Int) (T : Nat → Tx) (i : Nat) : Tx := ⟨m + sTx T i, m + sTx T i + 1, m + sTx T i + 2, m + sTx T i + 3, (T i).n, mU (m + sTx T i + 4)⟩
/-! ### opened -/
end Go.Proofs.Ytenglcgkachomaa
