/- Lists of cells as arguments: their size, opened; boxes of six cells. -/
import Derived.Test.YtabkgncnanlapaaGreatQEe
namespace Go.Proofs.YtabkgncnanlapaaGreat
open Go.ChangeShapes Go.WideShapes Go.ChangeAt Go.RowKit Go.Deep Go.Joins
set_option linter.unusedVariables false
set_option maxRecDepth 20000

def Box6 (w : World) (B : Nat) (c0 c1 c2 c3 c4 c5 : Value) : Prop := w.cell? ⟨B, 0, none⟩ = some c0 ∧ w.cell? ⟨B, 1, none⟩ = some c1 ∧ w.cell? ⟨B, 2, none⟩ = some c2 ∧ w.cell? ⟨B, 3, none⟩ = some c3 ∧ w.cell? ⟨B, 4, none⟩ = some c4 ∧ w.cell? ⟨B, 5, none⟩ = some c5
theorem Box6.alloc {w : World} {B : Nat} {c0 c1 c2 c3 c4 c5 : Value} (h : Box6 w B c0 c1 c2 c3 c4 c5) (x : Obj) : Box6 (w.alloc x) B c0 c1 c2 c3 c4 c5 := ⟨cell_alloc h.1 x, cell_alloc h.2.1 x, cell_alloc h.2.2.1 x, cell_alloc h.2.2.2.1 x, cell_alloc h.2.2.2.2.1 x, cell_alloc h.2.2.2.2.2 x⟩
theorem Box6.below {w w' : World} {B : Nat} {c0 c1 c2 c3 c4 c5 : Value} (h : Box6 w B c0 c1 c2 c3 c4 c5) (x : Below w.heap.size w w') : Box6 w' B c0 c1 c2 c3 c4 c5 := ⟨cell_below h.1 x, cell_below h.2.1 x, cell_below h.2.2.1 x, cell_below h.2.2.2.1 x, cell_below h.2.2.2.2.1 x, cell_below h.2.2.2.2.2 x⟩
theorem Box6.writes {w w' : World} {lo hi B : Nat} {c0 c1 c2 c3 c4 c5 : Value} (h : Box6 w B c0 c1 c2 c3 c4 c5) (x : Writes lo hi w w') (d : B < lo ∨ hi ≤ B) : Box6 w' B c0 c1 c2 c3 c4 c5 := ⟨cell_writes h.1 x d, cell_writes h.2.1 x d, cell_writes h.2.2.1 x d, cell_writes h.2.2.2.1 x d, cell_writes h.2.2.2.2.1 x d, cell_writes h.2.2.2.2.2 x d⟩
theorem Box6.new (w : World) (c0 c1 c2 c3 c4 c5 : Value) (t : TypeId) : Box6 (w.alloc (.cells #[c0, c1, c2, c3, c4, c5] t)) w.heap.size c0 c1 c2 c3 c4 c5 := by simp [Box6]
end Go.Proofs.YtabkgncnanlapaaGreat
