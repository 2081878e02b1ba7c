/- What the laws over a store that is turned need besides: the cells of an answer, an argument in blocks of its colours. -/
import Derived.Test.YtnplheilojhpmaaGreatQZem
import Derived.Test.YtnplheilojhpmaaGreatQZna
namespace Go.Proofs.YtnplheilojhpmaaGreat
open Go.ChangeShapes Go.WideShapes Go.ChangeAt Go.RowKit Go.Deep Go.Joins
set_option linter.unusedVariables false
set_option maxRecDepth 20000

theorem OwnInSt.toS {w : World} {l h : Nat} {a0 a1 a2 a3 a4 a5 a6 : Option Addr} {t : Sto} (k : OwnInSt w l h a0 a1 a2 a3 a4 a5 a6 t) : OwnS w l h a0 a1 a2 a3 a4 a5 a6 t := by
  obtain ⟨m0, m1, m2, m3, m4, m5, e0, e1, e2, e3, e4, e5, e6, e7, p0, p1, p2, p3, p4⟩ := k
  exact OwnS.of e7 (P := fun x => m0 ≤ x ∧ x < m1) (fun x hx => by obtain ⟨_, _⟩ := hx; omega) (fun x _ _ => by omega) (fun x _ _ => by omega) (fun x _ _ => by omega) (fun x _ _ => by omega) p0.toP p1 p2 p3 p4
end Go.Proofs.YtnplheilojhpmaaGreat
