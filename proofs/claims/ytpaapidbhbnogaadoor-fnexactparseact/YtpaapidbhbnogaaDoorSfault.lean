/- spec.PageFault: the walk. -/
import Derived.Test.YtpaapidbhbnogaaDoorFault
namespace Go.Proofs.YtpaapidbhbnogaaDoor
open Go.RowKit Go.Deep
set_option linter.unusedVariables false

end Go.Proofs.YtpaapidbhbnogaaDoor
