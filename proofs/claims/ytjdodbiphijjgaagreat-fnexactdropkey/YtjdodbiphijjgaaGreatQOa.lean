/- Both OpenTxns. -/
import Derived.Test.YtjdodbiphijjgaaGreatQEe
import Derived.Test.YtjdodbiphijjgaaGreatQGg
import Derived.Test.YtjdodbiphijjgaaGreatQFf
import Derived.Deep.RegionLaw
namespace Go.Proofs.YtjdodbiphijjgaaGreat
open Go.RowKit Go.Deep
set_option linter.unusedVariables false
set_option maxRecDepth 20000

theorem own_belowI {W wq : World} {B n s : Nat} {e : TypeId} {v : Value} {xs : List Value} (h : W.ownsRow B e s v n xs) (hb : Below W.heap.size W wq) : wq.ownsRow B e s v n xs := by
  obtain ⟨h1, h2 | ⟨g, cap, cur, rfl, k1, k2, k3⟩⟩ := h
  · exact ⟨h1, .inl h2⟩
  · refine ⟨h1, .inr ⟨g, cap, cur, rfl, k1, ?_, k3⟩⟩
    have hlt : g < W.heap.size := (Array.getElem?_eq_some_iff.1 k2).1
    exact (hb.block _ hlt).trans k2
end Go.Proofs.YtjdodbiphijjgaaGreat
