/- An argument of type laws.Page, opened. -/
import Derived.Test.YtnplheilojhpmaaGreatQHel
import Derived.Lib.SmallJoins
namespace Go.Proofs.YtnplheilojhpmaaGreat
open Go.ChangeShapes Go.WideShapes Go.ChangeAt Go.RowKit Go.Deep Go.Joins
set_option linter.unusedVariables false
theorem cells2 : Tryz.prog.cellsOf 2 = 1 := by kernel_rfl

end Go.Proofs.YtnplheilojhpmaaGreat
