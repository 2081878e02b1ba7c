/- What records with slices share: sums, sizes of slices, cells opened, boxes. -/
import Derived.Test.YtcfenhnggccmmaaTni
namespace Go.Proofs.Ytcfenhnggccmmaa
open Go.ChangeShapes Go.WideShapes Go.ChangeAt Go.RowKit Go.Deep Go.Joins
set_option linter.unusedVariables false
set_option maxRecDepth 20000

/-- The sum of the first k. -/
def smf9 (f : Nat → Nat) : Nat → Nat
  | 0 => 0
  | k + 1 => smf9 f k + f k
theorem smf9_ge (f : Nat → Nat) : ∀ n i, i < n → f i ≤ smf9 f n
  | 0, i, h => by omega
  | n + 1, i, h => by
    by_cases e : i = n
    · subst e; simp [smf9]
    · have := smf9_ge f n i (by omega); simp only [smf9]; omega
theorem smf9_le (f : Nat → Nat) {n : Nat} : ∀ {i}, i ≤ n → smf9 f i ≤ smf9 f n := by
  induction n with
  | zero => intro i h; have : i = 0 := by omega
            subst this; exact Nat.le_refl _
  | succ n ih =>
    intro i h
    by_cases e : i = n + 1
    · subst e; exact Nat.le_refl _
    · have := ih (i := i) (by omega); simp only [smf9]; omega
theorem smf9_add (f : Nat → Nat) (c d : Nat) : ∀ k, smf9 (fun i => f i * c + d) k = smf9 f k * c + k * d
  | 0 => by simp [smf9]
  | k + 1 => by simp only [smf9, smf9_add f c d k, Nat.add_mul, Nat.one_mul]; omega
def upf9 {α : Type} (f : Nat → α) (j : Nat) (x : α) (i : Nat) : α := if i = j then x else f i
theorem upf9_eq {α : Type} (f : Nat → α) (j : Nat) (x : α) : upf9 f j x j = x := by simp [upf9]
theorem upf9_ne {α : Type} (f : Nat → α) {j i : Nat} (x : α) (h : i ≠ j) : upf9 f j x i = f i := by simp [upf9, h]
def pref9 {α : Type} (f g : Nat → α) (j i : Nat) : α := if i < j then f i else g i
theorem pref9_upf {α : Type} (f g : Nat → α) (j : Nat) : upf9 (pref9 f g j) j (f j) = pref9 f g (j + 1) := by
  funext i
  by_cases e : i = j
  · subst e; simp [upf9, pref9]
  · by_cases h : i < j
    · have : i < j + 1 := by omega
      simp [upf9, pref9, e, h, this]
    · have : ¬ i < j + 1 := by omega
      simp [upf9, pref9, e, h, this]
theorem pref9_at {α : Type} (f g : Nat → α) (j : Nat) : pref9 f g j j = g j := by simp [pref9]
theorem pref9_lt {α : Type} (f g : Nat → α) {j i : Nat} (h : i < j) : pref9 f g j i = f i := by simp [pref9, h]
theorem pref9_zero {α : Type} (f g : Nat → α) : pref9 f g 0 = g := by funext i; simp [pref9]
/-- What is kept of cells by a call. -/
theorem bcell29 {w w' : World} (hb : Below w.heap.size w w') : (∀ b i, b < w.heap.size → w'.cell? ⟨b, i, none⟩ = w.cell? ⟨b, i, none⟩) ∧ (∀ b i, b < w.heap.size → w'.frozen? ⟨b, i, none⟩ = w.frozen? ⟨b, i, none⟩) :=
  ⟨fun b i h => hb.cell (p := ⟨b, i, none⟩) h, fun b i h => hb.frozen (p := ⟨b, i, none⟩) h⟩
def Box5 (w : World) (B : Nat) (c0 c1 c2 c3 c4 : Value) : Prop := w.cell? ⟨B, 0, none⟩ = some c0 ∧ w.cell? ⟨B, 1, none⟩ = some c1 ∧ w.cell? ⟨B, 2, none⟩ = some c2 ∧ w.cell? ⟨B, 3, none⟩ = some c3 ∧ w.cell? ⟨B, 4, none⟩ = some c4
theorem Box5.alloc {w : World} {B : Nat} {c0 c1 c2 c3 c4 : Value} (h : Box5 w B c0 c1 c2 c3 c4) (x : Obj) : Box5 (w.alloc x) B c0 c1 c2 c3 c4 := ⟨cell_alloc h.1 x, cell_alloc h.2.1 x, cell_alloc h.2.2.1 x, cell_alloc h.2.2.2.1 x, cell_alloc h.2.2.2.2 x⟩
theorem Box5.below {w w' : World} {B : Nat} {c0 c1 c2 c3 c4 : Value} (h : Box5 w B c0 c1 c2 c3 c4) (x : Below w.heap.size w w') : Box5 w' B c0 c1 c2 c3 c4 := ⟨cell_below h.1 x, cell_below h.2.1 x, cell_below h.2.2.1 x, cell_below h.2.2.2.1 x, cell_below h.2.2.2.2 x⟩
theorem Box5.writes {w w' : World} {lo hi : Nat} {B : Nat} {c0 c1 c2 c3 c4 : Value} (h : Box5 w B c0 c1 c2 c3 c4) (x : Writes lo hi w w') (d : B < lo ∨ hi ≤ B) : Box5 w' B c0 c1 c2 c3 c4 := ⟨cell_writes h.1 x d, cell_writes h.2.1 x d, cell_writes h.2.2.1 x d, cell_writes h.2.2.2.1 x d, cell_writes h.2.2.2.2 x d⟩
theorem Box5.new (w : World) (c0 c1 c2 c3 c4 : Value) (t : TypeId) : Box5 (w.alloc (.cells #[c0, c1, c2, c3, c4] t)) w.heap.size c0 c1 c2 c3 c4 := by simp [Box5]
def Box6 (w : World) (B : Nat) (c0 c1 c2 c3 c4 c5 : Value) : Prop := w.cell? ⟨B, 0, none⟩ = some c0 ∧ w.cell? ⟨B, 1, none⟩ = some c1 ∧ w.cell? ⟨B, 2, none⟩ = some c2 ∧ w.cell? ⟨B, 3, none⟩ = some c3 ∧ w.cell? ⟨B, 4, none⟩ = some c4 ∧ w.cell? ⟨B, 5, none⟩ = some c5
theorem Box6.alloc {w : World} {B : Nat} {c0 c1 c2 c3 c4 c5 : Value} (h : Box6 w B c0 c1 c2 c3 c4 c5) (x : Obj) : Box6 (w.alloc x) B c0 c1 c2 c3 c4 c5 := ⟨cell_alloc h.1 x, cell_alloc h.2.1 x, cell_alloc h.2.2.1 x, cell_alloc h.2.2.2.1 x, cell_alloc h.2.2.2.2.1 x, cell_alloc h.2.2.2.2.2 x⟩
theorem Box6.below {w w' : World} {B : Nat} {c0 c1 c2 c3 c4 c5 : Value} (h : Box6 w B c0 c1 c2 c3 c4 c5) (x : Below w.heap.size w w') : Box6 w' B c0 c1 c2 c3 c4 c5 := ⟨cell_below h.1 x, cell_below h.2.1 x, cell_below h.2.2.1 x, cell_below h.2.2.2.1 x, cell_below h.2.2.2.2.1 x, cell_below h.2.2.2.2.2 x⟩
theorem Box6.writes {w w' : World} {lo hi : Nat} {B : Nat} {c0 c1 c2 c3 c4 c5 : Value} (h : Box6 w B c0 c1 c2 c3 c4 c5) (x : Writes lo hi w w') (d : B < lo ∨ hi ≤ B) : Box6 w' B c0 c1 c2 c3 c4 c5 := ⟨cell_writes h.1 x d, cell_writes h.2.1 x d, cell_writes h.2.2.1 x d, cell_writes h.2.2.2.1 x d, cell_writes h.2.2.2.2.1 x d, cell_writes h.2.2.2.2.2 x d⟩
theorem Box6.new (w : World) (c0 c1 c2 c3 c4 c5 : Value) (t : TypeId) : Box6 (w.alloc (.cells #[c0, c1, c2, c3, c4, c5] t)) w.heap.size c0 c1 c2 c3 c4 c5 := by simp [Box6]
end Go.Proofs.Ytcfenhnggccmmaa
