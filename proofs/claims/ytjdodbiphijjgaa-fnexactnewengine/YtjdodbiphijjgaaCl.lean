/- Closed facts of the whole cut, that every row's step asks. -/
import Derived.Test.YtjdodbiphijjgaaRows
namespace Go.Proofs.Ytjdodbiphijjgaa
set_option maxRecDepth 100000
theorem clMay : Try.prog.mayEnter = true := by kernel_rfl
theorem clLift : (Rows.fnExactNewEngineRow.lifted == Try.prog.liftsFinal) = true := by kernel_rfl
theorem clMake : (Try.prog.make == some Rows.fnExactNewEngineRow.make) = true := by kernel_rfl
end Go.Proofs.Ytjdodbiphijjgaa
