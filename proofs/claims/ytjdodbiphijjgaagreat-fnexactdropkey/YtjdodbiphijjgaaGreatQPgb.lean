/- What the elements of a row hold; the purged engine. -/
import Derived.Test.YtjdodbiphijjgaaGreatQRsa
import Derived.Test.YtjdodbiphijjgaaGreatQRsb
import Derived.Test.YtjdodbiphijjgaaGreatQVm
import Derived.Test.YtjdodbiphijjgaaGreatQVw
import Derived.Test.YtjdodbiphijjgaaGreatQKz
import Derived.Test.YtjdodbiphijjgaaGreatQVe
namespace Go.Proofs.YtjdodbiphijjgaaGreat
open Go.ChangeShapes Go.WideShapes Go.ChangeAt Go.RowKit Go.Deep Go.Joins
set_option linter.unusedVariables false
set_option maxRecDepth 20000

/-- What it holds lies in blocks of its own, from B on below M. -/
def CtRw (w : World) (B M : Nat) (x : HRw) : Prop := (x.h = 0 ∨ B ≤ x.l ∧ x.h ≤ M) ∧ x.t.n ≤ x.c ∧ Own4 w x.l x.h x.A x.t.n x.t.U
def ApRw (xs : List HRw) : Prop := xs.Pairwise (fun x y => x.h ≤ y.l ∨ y.h ≤ x.l)
theorem CtRw.writes {w w' : World} {B M lo hi : Nat} {x : HRw} (h : CtRw w B M x) (hw : Writes lo hi w w') (hd : hi ≤ B ∨ M ≤ lo) : CtRw w' B M x := by
  obtain ⟨h1, h2, h3⟩ := h
  exact ⟨h1, h2, h3.writes hw (by omega)⟩
theorem CtRw.below {w w' : World} {B M : Nat} {x : HRw} (h : CtRw w B M x) (hb : Below w.heap.size w w') : CtRw w' B M x := by
  obtain ⟨h1, h2, h3⟩ := h
  exact ⟨h1, h2, h3.below hb⟩
theorem hb_rangeRw (T : Nat → Rw) (A : Nat → Option Addr) (c l h : Nat → Nat) : ∀ k, hbRw ((List.range k).map (fun i => (⟨T i, A i, c i, l i, h i⟩ : HRw))) = rbRw T A c k
  | 0 => rfl
  | k + 1 => by
    rw [List.range_succ, List.map_append, hbRw_app, hb_rangeRw T A c l h k]
    simp [hbRw, rbRw]
/-- A list that has grown, by its elements. -/
theorem GrRw.list {base top k : Nat} {w : World} {v : Value} {T : Nat → Rw} (h : GrRw base top w v k T) : ∃ xs : List HRw, xs.length = k ∧ xs.map HRw.t = (List.range k).map T ∧ w.ownsRow base 173 2 v k (hbRw xs) ∧ (∀ q, v.ownBlock = some q → q < top) ∧ ApRw xs ∧ ∀ x ∈ xs, (∀ q, v.ownBlock = some q → q < x.l ∨ x.h ≤ q) ∧ CtRw w base top x := by
  obtain ⟨h0, A, c, l, h, ho, hv, hj, hc⟩ := h
  refine ⟨(List.range k).map (fun i => ⟨T i, A i, c i, l i, h i⟩), by simp, by simp, by rw [hb_rangeRw]; exact ho, hv, ?_, fun x hx => ?_⟩
  · refine List.pairwise_iff_getElem.2 fun i j hi hj' hlt => ?_
    simp only [List.length_map, List.length_range] at hi hj'
    simp only [List.getElem_map, List.getElem_range]
    exact hj i j hi hj' (by omega)
  · obtain ⟨i, hi, rfl⟩ := List.mem_map.1 hx
    obtain ⟨m1, m2, m3, m4⟩ := hc i (List.mem_range.1 hi)
    exact ⟨m1, m2, m3, m4⟩
end Go.Proofs.YtjdodbiphijjgaaGreat
