/- impl.takeBack: an undo is taken back. -/
import Derived.Test.YtjdodbiphijjgaaGreatQPgb
import Derived.Test.YtjdodbiphijjgaaGreatQVw
import Derived.Test.YtjdodbiphijjgaaGreatQCa
import Derived.Test.YtjdodbiphijjgaaGreatQRsa
import Derived.Test.YtjdodbiphijjgaaGreatQRla
import Derived.Test.YtjdodbiphijjgaaGreatQGg
import Derived.Test.YtjdodbiphijjgaaGreatQWae
import Derived.RangeFuncBox
namespace Go.Proofs.YtjdodbiphijjgaaGreat
open Go.RowKit Go.Deep
set_option linter.unusedVariables false
set_option linter.unusedSimpArgs false
set_option maxRecDepth 20000

theorem drew1 (w : World) : Below w.heap.size w w.drew := (Below.refl _ _).drew
end Go.Proofs.YtjdodbiphijjgaaGreat
