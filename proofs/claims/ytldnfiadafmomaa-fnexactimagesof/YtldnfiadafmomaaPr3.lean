/- impl.PackRec. -/
import Derived.Test.YtldnfiadafmomaaPr2
namespace Go.Proofs.Ytldnfiadafmomaa
open Go.RowKit Go.Deep
set_option linter.unusedVariables false
set_option maxRecDepth 20000

end Go.Proofs.Ytldnfiadafmomaa
