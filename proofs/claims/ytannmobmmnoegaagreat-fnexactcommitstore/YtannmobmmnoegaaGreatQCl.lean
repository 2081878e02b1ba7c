/- Closed facts of the whole cut, that every row's step asks. -/
import Derived.Test.YtannmobmmnoegaaGreatRows
namespace Go.Proofs.YtannmobmmnoegaaGreat
set_option maxRecDepth 100000
theorem clMay : Tryz.prog.mayEnter = true := by kernel_rfl
theorem clLift : (Rows.fnExactBeginStoreRow.lifted == Tryz.prog.liftsFinal) = true := by kernel_rfl
theorem clMake : (Tryz.prog.make == some Rows.fnExactBeginStoreRow.make) = true := by kernel_rfl
end Go.Proofs.YtannmobmmnoegaaGreat
