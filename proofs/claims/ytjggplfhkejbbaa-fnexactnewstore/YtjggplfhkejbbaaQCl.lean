/- Closed facts of the whole cut, that every row's step asks. -/
import Derived.Test.YtjggplfhkejbbaaRows
namespace Go.Proofs.Ytjggplfhkejbbaa
set_option maxRecDepth 100000
theorem clMay : Try.prog.mayEnter = true := by kernel_rfl
theorem clLift : (Rows.fnExactStoreFaultRow.lifted == Try.prog.liftsFinal) = true := by kernel_rfl
theorem clMake : (Try.prog.make == some Rows.fnExactStoreFaultRow.make) = true := by kernel_rfl
end Go.Proofs.Ytjggplfhkejbbaa
