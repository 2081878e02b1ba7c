/- Cells that grow by append; answers that are lists of cells; what a scan answers. -/
import Derived.Test.YtjdodbiphijjgaaGreatQKc
import Derived.Test.YtjdodbiphijjgaaGreatQOa
namespace Go.Proofs.YtjdodbiphijjgaaGreat
open Go.RowKit Go.Deep
set_option linter.unusedVariables false
set_option maxRecDepth 20000

/-- Cells, as values. -/
def cb : List (Int × Int) → List Value
  | [] => []
  | r :: rs => [.int .i64 r.1, .int .i64 r.2] ++ cb rs
end Go.Proofs.YtjdodbiphijjgaaGreat
