/- spec.PageFault: the walk. -/
import Derived.Test.YtppckjecidcflaaFault
namespace Go.Proofs.Ytppckjecidcflaa
open Go.RowKit Go.Deep
set_option linter.unusedVariables false

end Go.Proofs.Ytppckjecidcflaa
