/- spec.l7Purge. -/
import Derived.Test.YtabkgncnanlapaaGreatQPgf
import Derived.Test.YtabkgncnanlapaaGreatQCb
namespace Go.Proofs.YtabkgncnanlapaaGreat
open Go.RowKit Go.Deep
set_option linter.unusedVariables false
set_option linter.unusedSimpArgs false
set_option maxRecDepth 20000

theorem row_set {w : World} {base n s : Nat} {e : TypeId} {v : Value} {xs : List Value} {B o : Nat} {u : Value} (h : w.ownsRow base e s v n xs) (hB : B < base) : (w.setCell ⟨B, o, none⟩ u).ownsRow base e s v n xs :=
  ownsRow_of h fun q hq => (Writes.setCell (Writes.refl B (B + 1) w) (p := ⟨B, o, none⟩) (Nat.le_refl _) (Nat.lt_succ_self _) u).block q (h.lt q hq).2 (.inr (by have := (h.lt q hq).1; omega))
end Go.Proofs.YtabkgncnanlapaaGreat
