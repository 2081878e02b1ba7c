/- spec.PageFault: the walk. -/
import Derived.Test.YtppckjecidcflaaQFault
namespace Go.Proofs.Ytppckjecidcflaa
open Go.RowKit Go.Deep
set_option linter.unusedVariables false

end Go.Proofs.Ytppckjecidcflaa
