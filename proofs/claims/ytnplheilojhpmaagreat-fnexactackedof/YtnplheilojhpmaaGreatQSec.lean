/- Sectors and sheets: arrays of bytes. -/
import Derived.Test.YtnplheilojhpmaaGreatQDn
import Derived.Laws.CopyOwn
import Derived.Deep.MidRow
import Derived.Deep.WholeRow
namespace Go.Proofs.YtnplheilojhpmaaGreat
open Go.RowKit Go.Deep
set_option linter.unusedVariables false
set_option maxRecDepth 20000

/-- The first k sectors of a sheet are laid. -/
def fz (z : Nat → Int) (k i : Nat) : Int := if i < 16 * k then z i else 0
end Go.Proofs.YtnplheilojhpmaaGreat
