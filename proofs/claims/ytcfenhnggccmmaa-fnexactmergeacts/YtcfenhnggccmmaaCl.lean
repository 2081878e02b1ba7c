/- Closed facts of the whole cut, that every row's step asks. -/
import Derived.Test.YtcfenhnggccmmaaRows
namespace Go.Proofs.Ytcfenhnggccmmaa
set_option maxRecDepth 100000
theorem clMay : Try.prog.mayEnter = true := by kernel_rfl
theorem clLift : (Rows.fnExactMergeActsRow.lifted == Try.prog.liftsFinal) = true := by kernel_rfl
theorem clMake : (Try.prog.make == some Rows.fnExactMergeActsRow.make) = true := by kernel_rfl
end Go.Proofs.Ytcfenhnggccmmaa
