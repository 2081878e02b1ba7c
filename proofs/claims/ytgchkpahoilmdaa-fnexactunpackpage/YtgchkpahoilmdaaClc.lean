/- A closed fact of the whole cut, that every row's step asks. -/
import Derived.Test.YtgchkpahoilmdaaRows
namespace Go.Proofs.Ytgchkpahoilmdaa
set_option maxRecDepth 100000
theorem clMake : (Try.prog.make == some Rows.fnExactNewDiskRow.make) = true := by kernel_rfl
end Go.Proofs.Ytgchkpahoilmdaa
