/- Closed facts of the whole cut, that every row's step asks. -/
import Derived.Test.YtabkgncnanlapaaGreatRows
namespace Go.Proofs.YtabkgncnanlapaaGreat
set_option maxRecDepth 100000
theorem clMay : Tryz.prog.mayEnter = true := by kernel_rfl
theorem clLift : (Rows.fnExactAbortTxnRow.lifted == Tryz.prog.liftsFinal) = true := by kernel_rfl
theorem clMake : (Tryz.prog.make == some Rows.fnExactAbortTxnRow.make) = true := by kernel_rfl
end Go.Proofs.YtabkgncnanlapaaGreat
