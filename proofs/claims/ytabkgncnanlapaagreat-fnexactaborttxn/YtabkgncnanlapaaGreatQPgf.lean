/- Rows that grow beside what they hold. -/
import Derived.Test.YtabkgncnanlapaaGreatQPgb
import Derived.Test.YtabkgncnanlapaaGreatQWae
import Derived.Test.YtabkgncnanlapaaGreatQOa
import Derived.Test.YtabkgncnanlapaaGreatQCa
import Derived.Test.YtabkgncnanlapaaGreatQVg
import Derived.Test.YtabkgncnanlapaaGreatQKz
namespace Go.Proofs.YtabkgncnanlapaaGreat
open Go.ChangeShapes Go.WideShapes Go.ChangeAt Go.RowKit Go.Deep Go.Joins
set_option linter.unusedVariables false
set_option maxRecDepth 20000

/-- A row and what its elements hold: all in blocks of its own. -/
theorem OwnRwP.of2 {w : World} {base B M n : Nat} {v : Value} {xs : List HRw} (hn : xs.length = n) (h : w.ownsRow base 87 2 v n (hbRw xs)) (ha : ApRw xs) (hc : ∀ x ∈ xs, CtRw w B M x) (hv : ∀ q, v.ownBlock = some q → ∀ x ∈ xs, q < x.l ∨ x.h ≤ q) :
    ∃ a cap, v = .slice a n cap ∧ n ≤ cap ∧ OwnRwP w (fun x => (B ≤ x ∧ x < M) ∨ v.ownBlock = some x) a n (fun i => (xs.map HRw.t).getD i zRw) := by
  obtain ⟨a, cap, rfl, hcap, hat⟩ := HAtRw.of_row hn h
  refine ⟨a, cap, rfl, hcap, ?_⟩
  rcases hat with rfl | ⟨b, off, rfl, hl, hcc⟩
  · exact .inl (by simpa using hn.symm)
  have hlt : ∀ i, i < n → ∃ x, xs[i]? = some x := fun i hi => ⟨_, List.getElem?_eq_getElem (by omega)⟩
  let z : HRw := ⟨zRw, none, 0, 0, 0⟩
  refine .inr ⟨b, off, rfl, .inr rfl, hl, fun i => ?_, fun i => (xs.getD i z).l, fun i => (xs.getD i z).h, fun i j hi hj hne => ?_, fun i hi => ?_⟩
  · rcases h.2 with ⟨e, _⟩ | ⟨g, _, _, e, _⟩
    · cases e
    · injection e with e
      injection e with e
      injection e with e1 e2
      subst e1
      subst e2
      exact h.frozenAt _
  · have gi := List.getElem?_eq_getElem (l := xs) (i := i) (by omega)
    have gj := List.getElem?_eq_getElem (l := xs) (i := j) (by omega)
    simp only [List.getD_eq_getElem?_getD, gi, gj, Option.getD_some]
    rcases Nat.lt_or_ge i j with c | c
    · exact List.pairwise_iff_getElem.1 ha i j (by omega) (by omega) c
    · exact (List.pairwise_iff_getElem.1 ha j i (by omega) (by omega) (by omega)).symm
  · obtain ⟨x, hx⟩ := hlt i hi
    have hmem := List.mem_of_getElem? hx
    obtain ⟨k1, k2, k3⟩ := hc x hmem
    have hq := hv b rfl x hmem
    have e1 : xs.getD i z = x := by simp [List.getD_eq_getElem?_getD, hx]
    have e2 : (xs.map HRw.t).getD i zRw = x.t := by simp [List.getD_eq_getElem?_getD, hx]
    simp only [e1, e2]
    exact ⟨by omega, fun y h1 h2 => .inl (by omega), x.A, x.c, hcc i x hx, k2, k3⟩
end Go.Proofs.YtabkgncnanlapaaGreat
