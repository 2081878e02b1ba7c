/- Chapter 5: small tests of versions. -/
import Derived.Test.YtjdodbiphijjgaaVc
namespace Go.Proofs.Ytjdodbiphijjgaa
open Go.RowKit Go.Deep
set_option linter.unusedVariables false
set_option maxRecDepth 20000

/-- May r stand right behind p? -/
def older (r p : Vr) : Bool := r.a != 0 && (p.a == 0 || decide (r.a < p.a))
/-- What a view (x, o) meets in r: nothing (0), one that is gone (1), one that tells (2). -/
def kd (r : Vr) (x o : Int) : Int := if (r.a ≠ 0 ∧ r.a ≤ x) ∨ (r.t = o ∧ r.a = 0) then (if r.g then 1 else 2) else 0
end Go.Proofs.Ytjdodbiphijjgaa
