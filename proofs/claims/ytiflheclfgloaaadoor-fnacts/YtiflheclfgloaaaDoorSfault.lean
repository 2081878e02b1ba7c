/- spec.PageFault: the walk. -/
import Derived.Test.YtiflheclfgloaaaDoorFault
namespace Go.Proofs.YtiflheclfgloaaaDoor
open Go.RowKit Go.Deep
set_option linter.unusedVariables false

end Go.Proofs.YtiflheclfgloaaaDoor
