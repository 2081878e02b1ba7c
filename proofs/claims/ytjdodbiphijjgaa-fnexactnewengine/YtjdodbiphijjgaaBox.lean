/- Variables of struct type in their boxes, carried from world to world. -/
import Derived.Test.YtjdodbiphijjgaaHel
namespace Go.Proofs.Ytjdodbiphijjgaa
open Go.RowKit Go.Deep

def Box3 (w : World) (B : Nat) (c0 c1 c2 : Value) : Prop := w.cell? ⟨B, 0, none⟩ = some c0 ∧ w.cell? ⟨B, 1, none⟩ = some c1 ∧ w.cell? ⟨B, 2, none⟩ = some c2
def Box4 (w : World) (B : Nat) (c0 c1 c2 c3 : Value) : Prop := w.cell? ⟨B, 0, none⟩ = some c0 ∧ w.cell? ⟨B, 1, none⟩ = some c1 ∧ w.cell? ⟨B, 2, none⟩ = some c2 ∧ w.cell? ⟨B, 3, none⟩ = some c3
def Box2 (w : World) (B : Nat) (c0 c1 : Value) : Prop := w.cell? ⟨B, 0, none⟩ = some c0 ∧ w.cell? ⟨B, 1, none⟩ = some c1

theorem cell_alloc {w : World} {B o : Nat} {v : Value} (h : w.cell? ⟨B, o, none⟩ = some v) (x : Obj) : (w.alloc x).cell? ⟨B, o, none⟩ = some v := by
  rw [World.cell?_alloc_lt _ _ _ (Go.block_lt_of_cell h)]; exact h
theorem cell_writes {w w' : World} {lo hi B o : Nat} {v : Value} (h : w.cell? ⟨B, o, none⟩ = some v) (hw : Writes lo hi w w') (hd : B < lo ∨ hi ≤ B) : w'.cell? ⟨B, o, none⟩ = some v :=
  (hw.cell (Go.block_lt_of_cell h) hd o).trans h
theorem cell_below {w w' : World} {B o : Nat} {v : Value} (h : w.cell? ⟨B, o, none⟩ = some v) (hb : Below w.heap.size w w') : w'.cell? ⟨B, o, none⟩ = some v :=
  (hb.cell (p := ⟨B, o, none⟩) (Go.block_lt_of_cell h)).trans h

theorem Box2.alloc {w : World} {B : Nat} {c0 c1 : Value} (h : Box2 w B c0 c1) (x : Obj) : Box2 (w.alloc x) B c0 c1 := ⟨cell_alloc h.1 x, cell_alloc h.2 x⟩
theorem Box3.alloc {w : World} {B : Nat} {c0 c1 c2 : Value} (h : Box3 w B c0 c1 c2) (x : Obj) : Box3 (w.alloc x) B c0 c1 c2 := ⟨cell_alloc h.1 x, cell_alloc h.2.1 x, cell_alloc h.2.2 x⟩
theorem Box4.alloc {w : World} {B : Nat} {c0 c1 c2 c3 : Value} (h : Box4 w B c0 c1 c2 c3) (x : Obj) : Box4 (w.alloc x) B c0 c1 c2 c3 := ⟨cell_alloc h.1 x, cell_alloc h.2.1 x, cell_alloc h.2.2.1 x, cell_alloc h.2.2.2 x⟩
theorem Box2.below {w w' : World} {B : Nat} {c0 c1 : Value} (h : Box2 w B c0 c1) (x : Below w.heap.size w w') : Box2 w' B c0 c1 := ⟨cell_below h.1 x, cell_below h.2 x⟩
theorem Box3.below {w w' : World} {B : Nat} {c0 c1 c2 : Value} (h : Box3 w B c0 c1 c2) (x : Below w.heap.size w w') : Box3 w' B c0 c1 c2 := ⟨cell_below h.1 x, cell_below h.2.1 x, cell_below h.2.2 x⟩
theorem Box4.below {w w' : World} {B : Nat} {c0 c1 c2 c3 : Value} (h : Box4 w B c0 c1 c2 c3) (x : Below w.heap.size w w') : Box4 w' B c0 c1 c2 c3 := ⟨cell_below h.1 x, cell_below h.2.1 x, cell_below h.2.2.1 x, cell_below h.2.2.2 x⟩
theorem Box2.writes {w w' : World} {lo hi B : Nat} {c0 c1 : Value} (h : Box2 w B c0 c1) (x : Writes lo hi w w') (d : B < lo ∨ hi ≤ B) : Box2 w' B c0 c1 := ⟨cell_writes h.1 x d, cell_writes h.2 x d⟩
theorem Box3.writes {w w' : World} {lo hi B : Nat} {c0 c1 c2 : Value} (h : Box3 w B c0 c1 c2) (x : Writes lo hi w w') (d : B < lo ∨ hi ≤ B) : Box3 w' B c0 c1 c2 := ⟨cell_writes h.1 x d, cell_writes h.2.1 x d, cell_writes h.2.2 x d⟩
theorem Box4.writes {w w' : World} {lo hi B : Nat} {c0 c1 c2 c3 : Value} (h : Box4 w B c0 c1 c2 c3) (x : Writes lo hi w w') (d : B < lo ∨ hi ≤ B) : Box4 w' B c0 c1 c2 c3 := ⟨cell_writes h.1 x d, cell_writes h.2.1 x d, cell_writes h.2.2.1 x d, cell_writes h.2.2.2 x d⟩
theorem Box2.new (w : World) (c0 c1 : Value) (t : TypeId) : Box2 (w.alloc (.cells #[c0, c1] t)) w.heap.size c0 c1 := by simp [Box2]
theorem Box3.new (w : World) (c0 c1 c2 : Value) (t : TypeId) : Box3 (w.alloc (.cells #[c0, c1, c2] t)) w.heap.size c0 c1 c2 := by simp [Box3]
theorem Box4.new (w : World) (c0 c1 c2 c3 : Value) (t : TypeId) : Box4 (w.alloc (.cells #[c0, c1, c2, c3] t)) w.heap.size c0 c1 c2 c3 := by simp [Box4]
theorem Box2.lt {w : World} {B : Nat} {c0 c1 : Value} (h : Box2 w B c0 c1) : B < w.heap.size := Go.block_lt_of_cell h.1
theorem Box3.lt {w : World} {B : Nat} {c0 c1 c2 : Value} (h : Box3 w B c0 c1 c2) : B < w.heap.size := Go.block_lt_of_cell h.1
theorem Box4.lt {w : World} {B : Nat} {c0 c1 c2 c3 : Value} (h : Box4 w B c0 c1 c2 c3) : B < w.heap.size := Go.block_lt_of_cell h.1
theorem below_new (w : World) (o : Obj) : Below w.heap.size w (w.alloc o) := (Below.refl _ _).alloc (Nat.le_refl _) _
end Go.Proofs.Ytjdodbiphijjgaa
