/- Closed facts of the whole cut, that every row's step asks. -/
import Derived.Test.YtdkpchcmjamceaaRows
namespace Go.Proofs.Ytdkpchcmjamceaa
set_option maxRecDepth 100000
theorem clMay : Try.prog.mayEnter = true := by kernel_rfl
theorem clLift : (Rows.fnExactPushVersionRow.lifted == Try.prog.liftsFinal) = true := by kernel_rfl
theorem clMake : (Try.prog.make == some Rows.fnExactPushVersionRow.make) = true := by kernel_rfl
end Go.Proofs.Ytdkpchcmjamceaa
