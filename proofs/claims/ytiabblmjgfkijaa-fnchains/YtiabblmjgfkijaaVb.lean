/- Rows of versions: copied, equal, marked, held; answers that are chains. -/
import Derived.Test.YtiabblmjgfkijaaVa
namespace Go.Proofs.Ytiabblmjgfkijaa
open Go.RowKit Go.Deep
set_option linter.unusedVariables false
set_option maxRecDepth 20000

def toK (R : Nat → Vr) (k i : Nat) : Vr := if i < k then R i else zV
theorem toK_step (R : Nat → Vr) (k i : Nat) : (if i = k then R k else toK R k i) = toK R (k + 1) i := by
  unfold toK
  by_cases e : i = k
  · subst e; simp
  · rw [if_neg e]
    have : (i < k + 1) ↔ (i < k) := by omega
    simp only [this]
/-! ### equal -/
theorem drewB6 {w1 w2 : World} (hb : Below w1.drew.heap.size w1.drew w2) : Below w1.heap.size w1 w2 := ((Below.refl _ _).drew).trans hb
end Go.Proofs.Ytiabblmjgfkijaa
