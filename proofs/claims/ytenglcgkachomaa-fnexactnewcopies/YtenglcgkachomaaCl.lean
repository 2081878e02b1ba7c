/- Closed facts of the whole cut, that every row's step asks. -/
import Derived.Test.YtenglcgkachomaaRows
namespace Go.Proofs.Ytenglcgkachomaa
set_option maxRecDepth 100000
theorem clMay : Try.prog.mayEnter = true := by kernel_rfl
theorem clLift : (Rows.fnExactCellOfRow.lifted == Try.prog.liftsFinal) = true := by kernel_rfl
theorem clMake : (Try.prog.make == some Rows.fnExactCellOfRow.make) = true := by kernel_rfl
end Go.Proofs.Ytenglcgkachomaa
