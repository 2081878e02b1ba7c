/- Stores out of their lists; a new store under way. -/
import Derived.Test.YtnplheilojhpmaaGreatQZsb
import Derived.Test.YtnplheilojhpmaaGreatQZpb
import Derived.Test.YtnplheilojhpmaaGreatQSec
import Derived.Test.YtnplheilojhpmaaGreatQDg
import Derived.Test.YtnplheilojhpmaaGreatQPut
import Derived.Test.YtnplheilojhpmaaGreatQHel
import Derived.Test.YtnplheilojhpmaaGreatQPr
namespace Go.Proofs.YtnplheilojhpmaaGreat
open Go.ChangeShapes Go.WideShapes Go.ChangeAt Go.RowKit Go.Deep Go.Joins
set_option linter.unusedVariables false
set_option maxRecDepth 20000

open Classical in
theorem OwnS.of {w : World} {lo hi l2 h2 l3 h3 l4 h4 l5 h5 : Nat} {P : Nat → Prop} {a0 a1 a2 a3 a4 a5 a6 : Option Addr} {t : Sto} (h0 : hi ≤ w.heap.size)
    (bP : ∀ x, P x → lo ≤ x ∧ x < hi ∧ ¬ (l2 ≤ x ∧ x < h2) ∧ ¬ (l3 ≤ x ∧ x < h3) ∧ ¬ (l4 ≤ x ∧ x < h4) ∧ ¬ (l5 ≤ x ∧ x < h5)) (b2 : ∀ x, l2 ≤ x → x < h2 → lo ≤ x ∧ x < hi ∧ ¬ (l3 ≤ x ∧ x < h3) ∧ ¬ (l4 ≤ x ∧ x < h4) ∧ ¬ (l5 ≤ x ∧ x < h5)) (b3 : ∀ x, l3 ≤ x → x < h3 → lo ≤ x ∧ x < hi ∧ ¬ (l4 ≤ x ∧ x < h4) ∧ ¬ (l5 ≤ x ∧ x < h5)) (b4 : ∀ x, l4 ≤ x → x < h4 → lo ≤ x ∧ x < hi ∧ ¬ (l5 ≤ x ∧ x < h5)) (b5 : ∀ x, l5 ≤ x → x < h5 → lo ≤ x ∧ x < hi)
    (p1 : OwnPgP w P a0 t.pn t.pT) (p2 : OwnD w l2 h2 a1 a2 t.d) (p3 : OwnG w l3 h3 a3 a4 t.g) (p4 : Own w l4 h4 a5 t.hn t.hK t.hV) (p5 : OwnI w l5 h5 a6 t.on t.oF) : OwnS w lo hi a0 a1 a2 a3 a4 a5 a6 t := by
  refine ⟨h0, fun x => if l2 ≤ x ∧ x < h2 then 2 else if l3 ≤ x ∧ x < h3 then 3 else if l4 ≤ x ∧ x < h4 then 4 else if l5 ≤ x ∧ x < h5 then 5 else if P x then 1 else 0, fun x hx => ?_, p1.mono fun x hx => ?_, ⟨l2, h2, fun x x1 x2 => ?_, p2⟩, ⟨l3, h3, fun x x1 x2 => ?_, p3⟩, ⟨l4, h4, fun x x1 x2 => ?_, p4⟩, ⟨l5, h5, fun x x1 x2 => ?_, p5⟩⟩
  · by_cases c2 : l2 ≤ x ∧ x < h2
    · have := b2 x c2.1 c2.2; exact ⟨this.1, this.2.1⟩
    · by_cases c3 : l3 ≤ x ∧ x < h3
      · have := b3 x c3.1 c3.2; exact ⟨this.1, this.2.1⟩
      · by_cases c4 : l4 ≤ x ∧ x < h4
        · have := b4 x c4.1 c4.2; exact ⟨this.1, this.2.1⟩
        · by_cases c5 : l5 ≤ x ∧ x < h5
          · exact b5 x c5.1 c5.2
          · by_cases c1 : P x
            · have := bP x c1; exact ⟨this.1, this.2.1⟩
            · simp only [if_neg c2, if_neg c3, if_neg c4, if_neg c5, if_neg c1] at hx; exact absurd rfl hx
  · obtain ⟨_, _, n2, n3, n4, n5⟩ := bP x hx
    simp only [if_neg n2, if_neg n3, if_neg n4, if_neg n5, if_pos hx]
  · simp only [if_pos (And.intro x1 x2)]
  · obtain ⟨_, _, n4, n5⟩ := b3 x x1 x2
    have n2 : ¬ (l2 ≤ x ∧ x < h2) := fun c => (b2 x c.1 c.2).2.2.1 ⟨x1, x2⟩
    simp only [if_neg n2, if_pos (And.intro x1 x2)]
  · have n2 : ¬ (l2 ≤ x ∧ x < h2) := fun c => (b2 x c.1 c.2).2.2.2.1 ⟨x1, x2⟩
    have n3 : ¬ (l3 ≤ x ∧ x < h3) := fun c => (b3 x c.1 c.2).2.2.1 ⟨x1, x2⟩
    simp only [if_neg n2, if_neg n3, if_pos (And.intro x1 x2)]
  · have n2 : ¬ (l2 ≤ x ∧ x < h2) := fun c => (b2 x c.1 c.2).2.2.2.2 ⟨x1, x2⟩
    have n3 : ¬ (l3 ≤ x ∧ x < h3) := fun c => (b3 x c.1 c.2).2.2.2 ⟨x1, x2⟩
    have n4 : ¬ (l4 ≤ x ∧ x < h4) := fun c => (b4 x c.1 c.2).2.2 ⟨x1, x2⟩
    simp only [if_neg n2, if_neg n3, if_neg n4, if_pos (And.intro x1 x2)]
end Go.Proofs.YtnplheilojhpmaaGreat
