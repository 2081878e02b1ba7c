/- Both WriterOfs. -/
import Derived.Test.YtjdodbiphijjgaaVg
namespace Go.Proofs.Ytjdodbiphijjgaa
open Go.RowKit Go.Deep
set_option linter.unusedVariables false
set_option maxRecDepth 20000

/-- A box of two cells that may be written. -/
def BoxR (w : World) (B : Nat) (c0 c1 : Value) : Prop := w.cell? ⟨B, 0, none⟩ = some c0 ∧ w.cell? ⟨B, 1, none⟩ = some c1 ∧ ∀ i, w.frozen? ⟨B, i, none⟩ = false
theorem BoxR.below {w w' : World} {B : Nat} {c0 c1 : Value} (h : BoxR w B c0 c1) (hb : Below w.heap.size w w') : BoxR w' B c0 c1 :=
  ⟨cell_below h.1 hb, cell_below h.2.1 hb, fun i => (hb.frozen (p := ⟨B, i, none⟩) (show B < w.heap.size from Go.block_lt_of_cell h.1)).trans (h.2.2 i)⟩
theorem BoxR.new (w : World) (c0 c1 : Value) (T : TypeId) : BoxR (w.alloc (.cells #[c0, c1] T)) w.heap.size c0 c1 := by simp [BoxR, go_sem]
def woC (n : Nat) (R : Nat → Vr) : Int := if chF n R = 0 then (if wrt n R = 0 then 4 else 0) else chF n R
def woV (n : Nat) (R : Nat → Vr) : Int := if chF n R = 0 then wrt n R else 0
theorem wrt_open {n : Nat} {R : Nat → Vr} (hc : chF n R = 0) (h : fop n R = true) : 0 < n ∧ wrt n R = (R 0).t ∧ ¬ (R 0).t = 0 := by
  have ⟨h1, h2⟩ : 0 < n ∧ (R 0).a = 0 := by simpa [fop] using h
  have hg := ((chF_good hc).2 0 h1).1
  have ht : inB (R 0).t 1 999 = true := by
    simp only [vR, Bool.and_eq_true] at hg
    exact hg.1.1
  rw [inB_iff] at ht
  exact ⟨h1, if_pos ⟨h1, h2⟩, by omega⟩
theorem wrt_shut {n : Nat} {R : Nat → Vr} (h : fop n R = false) : wrt n R = 0 := by
  have : ¬ (0 < n ∧ (R 0).a = 0) := by
    intro ⟨h1, h2⟩
    simp [fop, h1, h2] at h
  exact if_neg this
end Go.Proofs.Ytjdodbiphijjgaa
