/- Closed facts of the whole cut, that every row's step asks. -/
import Derived.Test.YtmegbinpclclaaaRows
namespace Go.Proofs.Ytmegbinpclclaaa
set_option maxRecDepth 100000
theorem clMay : Try.prog.mayEnter = true := by kernel_rfl
theorem clLift : (Rows.fnExactChainFaultRow.lifted == Try.prog.liftsFinal) = true := by kernel_rfl
theorem clMake : (Try.prog.make == some Rows.fnExactChainFaultRow.make) = true := by kernel_rfl
end Go.Proofs.Ytmegbinpclclaaa
