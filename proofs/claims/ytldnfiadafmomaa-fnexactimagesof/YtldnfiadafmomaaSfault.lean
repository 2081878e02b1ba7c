/- spec.PageFault: the walk. -/
import Derived.Test.YtldnfiadafmomaaFault
namespace Go.Proofs.Ytldnfiadafmomaa
open Go.RowKit Go.Deep
set_option linter.unusedVariables false

end Go.Proofs.Ytldnfiadafmomaa
