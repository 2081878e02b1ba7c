/- spec.PageFault: the walk. -/
import Derived.Test.YtdanabecpmhjhaaFault
namespace Go.Proofs.Ytdanabecpmhjhaa
open Go.RowKit Go.Deep
set_option linter.unusedVariables false

end Go.Proofs.Ytdanabecpmhjhaa
