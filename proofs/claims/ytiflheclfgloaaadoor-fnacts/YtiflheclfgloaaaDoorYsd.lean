/- A scope whose labels are jumped to: what holds at each jump, a measure; the program's machine of words. -/
import Derived.Test.YtiflheclfgloaaaDoorYsc
import Derived.ScopeJumps
import Derived.WalkMore
namespace Go.Proofs.YtiflheclfgloaaaDoor
open Go.RowKit Go.Deep
set_option linter.unusedVariables false
set_option maxRecDepth 20000

/-- At a goto what J says of its label, else Q. -/
def goTo (J : Nat → Act → World → Prop) (Q : Exit → Act → World → Prop) : Exit → Act → World → Prop
  | .goto l, a, w => J l a w
  | e, a, w => Q e a w
theorem scope_goes {P : Program} {a : Act} {w : World} {Q : Exit → Act → World → Prop} {c : Code} (rest : Nat → Code) (J : Nat → Act → World → Prop) (mu : Nat → Act → World → Nat)
    (hf : ∀ l a w, J l a w → findLabel c l = some (rest l)) (first : c.wp P (goTo J Q) a w)
    (pass : ∀ l a w, J l a w → (rest l).wp P (goTo (fun l' a' w' => J l' a' w' ∧ mu l' a' w' < mu l a w) Q) a w) : (Code.scope c).wp P Q a w := by
  intro b k cs
  have key : ∀ n l a w, mu l a w = n → J l a w → ∃ e a' w', Q e a' w' ∧ Arrives P (lone (b.at a (.code (rest l) :: .inScope c :: k)) cs w) b k cs e a' w' := by
    intro n
    induction n using Nat.strongRecOn with
    | _ n ih =>
      intro l a w hn hJ
      obtain ⟨e, a₁, w₁, hq, harr⟩ := pass l a w hJ b (.inScope c :: k) cs
      cases e with
      | normal => exact ⟨.normal, a₁, w₁, hq, Steps.trans harr (.one step_inScope)⟩
      | exit id => exact ⟨.exit id, a₁, w₁, hq, fun k' hk => harr k' (by simp [exitTo, hk])⟩
      | goto l' =>
        obtain ⟨hJ', hlt⟩ := hq
        obtain ⟨e₂, a₂, w₂, hq₂, harr₂⟩ := ih _ (by omega) l' a₁ w₁ rfl hJ'
        exact ⟨e₂, a₂, w₂, hq₂, .of_steps (harr _ (by simp [gotoIn, hf l' a₁ w₁ hJ'])) harr₂⟩
      | ret => exact ⟨_, a₁, w₁, hq, harr⟩
      | panic ch => exact ⟨_, a₁, w₁, hq, harr⟩
      | outgrown => exact ⟨_, a₁, w₁, hq, harr⟩
  obtain ⟨e, a₁, w₁, hq, harr⟩ := first b (.inScope c :: k) cs
  cases e with
  | normal => exact ⟨.normal, a₁, w₁, hq, .head step_scope (Steps.trans harr (.one step_inScope))⟩
  | exit id => exact ⟨.exit id, a₁, w₁, hq, fun k' hk => .head step_scope (harr k' (by simp [exitTo, hk]))⟩
  | goto l =>
    obtain ⟨e₂, a₂, w₂, hq₂, harr₂⟩ := key _ l a₁ w₁ rfl hq
    exact ⟨e₂, a₂, w₂, hq₂, .of_steps (.head step_scope (harr _ (by simp [gotoIn, hf l a₁ w₁ hq]))) harr₂⟩
  | ret => exact ⟨_, a₁, w₁, hq, .of_steps (.one step_scope) harr⟩
  | panic ch => exact ⟨_, a₁, w₁, hq, .of_steps (.one step_scope) harr⟩
  | outgrown => exact ⟨_, a₁, w₁, hq, .of_steps (.one step_scope) harr⟩
def two (J0 J1 : Act → World → Prop) : Nat → Act → World → Prop
  | 0, a, w => J0 a w
  | 1, a, w => J1 a w
  | _, _, _ => False
def twoM (m0 m1 : Act → World → Nat) : Nat → Act → World → Nat
  | 0, a, w => m0 a w
  | _, a, w => m1 a w
theorem scope_two {P : Program} {a : Act} {w : World} {Q : Exit → Act → World → Prop} {c r0 r1 : Code} (J0 J1 : Act → World → Prop) (m0 m1 : Act → World → Nat)
    (h0 : findLabel c 0 = some r0) (h1 : findLabel c 1 = some r1) (first : c.wp P (goTo (two J0 J1) Q) a w)
    (p0 : ∀ a w, J0 a w → r0.wp P (goTo (fun l' a' w' => two J0 J1 l' a' w' ∧ twoM m0 m1 l' a' w' < m0 a w) Q) a w)
    (p1 : ∀ a w, J1 a w → r1.wp P (goTo (fun l' a' w' => two J0 J1 l' a' w' ∧ twoM m0 m1 l' a' w' < m1 a w) Q) a w) : (Code.scope c).wp P Q a w := by
  refine scope_goes (fun l => match l with | 0 => r0 | _ => r1) (two J0 J1) (twoM m0 m1) ?_ first ?_
  · intro l a w h
    match l, h with
    | 0, _ => exact h0
    | 1, _ => exact h1
  · intro l a w h
    match l, h with
    | 0, h => exact p0 a w h
    | 1, h => exact p1 a w h
end Go.Proofs.YtiflheclfgloaaaDoor
