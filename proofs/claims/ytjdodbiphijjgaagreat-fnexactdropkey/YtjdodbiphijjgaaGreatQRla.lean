/- Rolling back, on lists of rows: what an undo takes back; that all undos that are left still have their rows. -/
import Derived.Test.YtjdodbiphijjgaaGreatQRsa
import Derived.Test.YtjdodbiphijjgaaGreatQKz
namespace Go.Proofs.YtjdodbiphijjgaaGreat
open Go.RowKit Go.Deep
set_option linter.unusedVariables false
set_option maxRecDepth 20000

def rwL (E : En) : List Rw := (List.range E.q).map E.R
end Go.Proofs.YtjdodbiphijjgaaGreat
