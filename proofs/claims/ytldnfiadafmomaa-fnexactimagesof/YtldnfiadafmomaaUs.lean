/- impl.startsWithRec. -/
import Derived.Test.YtldnfiadafmomaaUr
namespace Go.Proofs.Ytldnfiadafmomaa
open Go.RowKit Go.Deep
set_option linter.unusedVariables false
set_option maxRecDepth 20000

/-- The fault and the bytes of the record that 13 bytes tell. -/
def rzF (z : Nat → Int) : Int := rf (num z 0 1) (num z 1 2) (num z 3 1) (hdB z) (num z 5 2) (hsB z) (num z 7 2) (num z 9 2)
def rzB (z : Nat → Int) : List Int := rb (num z 0 1) (num z 1 2) (num z 3 1) (hdB z) (num z 5 2) (hsB z) (num z 7 2) (num z 9 2)
/-- Do the 13 bytes tell a record whose bytes they are? -/
def okR (z : Nat → Int) : Bool := decide (rzF z = 0) && decide (rzB z = zL z 13)
theorem rzB_len (z : Nat → Int) : (rzB z).length = 13 := rb_len _ _ _ _ _ _ _ _
end Go.Proofs.Ytldnfiadafmomaa
