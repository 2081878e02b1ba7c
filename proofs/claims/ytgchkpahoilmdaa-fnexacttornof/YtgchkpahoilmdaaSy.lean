/- impl.SyncDisk. -/
import Derived.Test.YtgchkpahoilmdaaSet
namespace Go.Proofs.Ytgchkpahoilmdaa
open Go.RowKit Go.Deep
set_option linter.unusedVariables false
set_option maxRecDepth 20000

/-- The disk with the writes at k places done, none left. -/
def syD (D : Dk) (F : Nat → Int) (k : Nat) : Dk := ⟨D.n, fun _ => 48, stl D F k, 0, fun _ => 0, fun _ => 0, fun _ => 0, fun _ _ => 0⟩
def idF (i : Nat) : Int := i
theorem ownD_sy {w : World} {lo hi : Nat} {a a' : Option Addr} {D : Dk} {F : Nat → Int} {k : Nat} (h : OwnP w lo hi a D.n (fun _ => 48) (stl D F k)) (hl : lo ≤ hi) : OwnD w lo hi a a' (syD D F k) := by
  have h0 := h.1
  exact ⟨h0, lo, hi, lo, lo, Nat.le_refl _, Nat.le_refl _, Nat.le_refl _, hl, .inr (Nat.le_refl _), h, ⟨by omega, .inl rfl⟩⟩
theorem keep_sy {w w4 : World} {x y z c0 c1 : Value} (h : Below w.heap.size w w4 ∧ w4.cell? ⟨w.heap.size, 0, none⟩ = some c0 ∧ w4.cell? ⟨w.heap.size, 1, none⟩ = some c1) :
    (Below w.heap.size w (((w4.setCell ⟨w.heap.size + 1, 0, none⟩ x).setCell ⟨w.heap.size + 1, 1, none⟩ y).setCell ⟨w.heap.size + 1, 2, none⟩ z) ∧ (((w4.setCell ⟨w.heap.size + 1, 0, none⟩ x).setCell ⟨w.heap.size + 1, 1, none⟩ y).setCell ⟨w.heap.size + 1, 2, none⟩ z).cell? ⟨w.heap.size, 0, none⟩ = some c0 ∧ (((w4.setCell ⟨w.heap.size + 1, 0, none⟩ x).setCell ⟨w.heap.size + 1, 1, none⟩ y).setCell ⟨w.heap.size + 1, 2, none⟩ z).cell? ⟨w.heap.size, 1, none⟩ = some c1) := by
  obtain ⟨h0, h1, h2⟩ := h
  have e : ∀ b o v, b ≠ w.heap.size + 1 → w4.cell? ⟨b, o, none⟩ = some v → (((w4.setCell ⟨w.heap.size + 1, 0, none⟩ x).setCell ⟨w.heap.size + 1, 1, none⟩ y).setCell ⟨w.heap.size + 1, 2, none⟩ z).cell? ⟨b, o, none⟩ = some v := fun b o v hb h => by
    rw [setB (fun q => hb q.symm), setB (fun q => hb q.symm), setB (fun q => hb q.symm)]; exact h
  refine ⟨?_, e _ _ _ (by omega) h1, e _ _ _ (by omega) h2⟩
  exact ((h0.setCell (p := ⟨w.heap.size + 1, 0, none⟩) (by show w.heap.size ≤ w.heap.size + 1; omega) x).setCell (p := ⟨w.heap.size + 1, 1, none⟩) (by show w.heap.size ≤ w.heap.size + 1; omega) y).setCell (p := ⟨w.heap.size + 1, 2, none⟩) (by show w.heap.size ≤ w.heap.size + 1; omega) z
/-- Behind a call: the two boxes. -/
theorem after_c {w w1 w2 : World} {b0 b2 : Nat} {x0 x1 z0 z1 z2 : Value} (hB : Below w.heap.size w w1) (hb : Below w1.heap.size w1 w2) (h0 : w1.cell? ⟨b0, 0, none⟩ = some x0) (h1 : w1.cell? ⟨b0, 1, none⟩ = some x1)
    (h3 : w1.cell? ⟨b2, 0, none⟩ = some z0) (h4 : w1.cell? ⟨b2, 1, none⟩ = some z1) (h5 : w1.cell? ⟨b2, 2, none⟩ = some z2) (hf : ∀ i, w1.frozen? ⟨b2, i, none⟩ = false) :
    (Below w.heap.size w w2 ∧ w2.cell? ⟨b0, 0, none⟩ = some x0 ∧ w2.cell? ⟨b0, 1, none⟩ = some x1) ∧ (w2.cell? ⟨b2, 0, none⟩ = some z0 ∧ w2.cell? ⟨b2, 1, none⟩ = some z1 ∧ w2.cell? ⟨b2, 2, none⟩ = some z2 ∧ ∀ i, w2.frozen? ⟨b2, i, none⟩ = false) := by
  have hl : b2 < w1.heap.size := Go.block_lt_of_cell h3
  exact ⟨⟨below_then hB hb, cell_below h0 hb, cell_below h1 hb⟩, cell_below h3 hb, cell_below h4 hb, cell_below h5 hb, fun i => (hb.frozen (p := ⟨b2, i, none⟩) hl).trans (hf i)⟩
theorem drew_below {w1 w2 : World} (hb : Below w1.drew.heap.size w1.drew w2) : Below w1.heap.size w1 w2 := ((Below.refl _ _).drew).trans hb
end Go.Proofs.Ytgchkpahoilmdaa
