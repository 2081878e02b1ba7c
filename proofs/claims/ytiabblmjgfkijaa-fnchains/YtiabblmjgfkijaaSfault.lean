/- spec.PageFault: the walk. -/
import Derived.Test.YtiabblmjgfkijaaFault
namespace Go.Proofs.Ytiabblmjgfkijaa
open Go.RowKit Go.Deep
set_option linter.unusedVariables false

end Go.Proofs.Ytiabblmjgfkijaa
