/- spec.PageFault: the walk. -/
import Derived.Test.YtodffoldhckbaaaFault
namespace Go.Proofs.Ytodffoldhckbaaa
open Go.RowKit Go.Deep
set_option linter.unusedVariables false

end Go.Proofs.Ytodffoldhckbaaa
