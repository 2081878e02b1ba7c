/- impl.copyLoose and impl.piecesOf. -/
import Derived.Test.YtgchkpahoilmdaaLcp
namespace Go.Proofs.Ytgchkpahoilmdaa
open Go.RowKit Go.Deep
set_option linter.unusedVariables false
set_option maxRecDepth 20000

/-- One round: a loose write is copied into a box, its bytes are made anew, and it is appended. -/
theorem roundC {wr w2 w4 : World} {B j G C g2 c2 : Nat} {v : Value} {P T : Nat → Int} {Y : Nat → Nat → Int} {g c : Nat → Nat} {o o2 : Obj} {x : Value} (hB : B ≤ wr.heap.size) (hj : ∀ x y, x < j → y < j → g x = g y → x = y)
    (hcc : ∀ i, i < j → B ≤ g i ∧ g i < wr.heap.size ∧ v.ownBlock ≠ some (g i) ∧ Row1 wr (g i) 0 16 (Y i) ∧ 16 ≤ c i) (hown : wr.ownsRow B 106 3 v j (llv P T g (fun _ => 16) c j))
    (hb2 : Below (wr.heap.size + 1) (wr.alloc o) w2) (hG0 : wr.heap.size + 1 ≤ G) (hG : G < w2.heap.size) (hr1 : Row1 w2 G 0 16 (Y j)) (hC1 : 16 ≤ C)
    (hown2 : w4.ownsRow B 106 3 (.slice (some ⟨g2, 0, none⟩) (j + 1) c2) (j + 1) (llv P T g (fun _ => 16) c j ++ lv3 (P j) (T j) G 16 C)) (hg2 : ((w2.setCell ⟨wr.heap.size, 2, none⟩ x).alloc o2).grownBy w4 v.ownBlock) (hat2 : v.ownBlock = some g2 ∨ g2 = w2.heap.size + 1) :
    AL B w4 (.slice (some ⟨g2, 0, none⟩) (j + 1) c2) (j + 1) P T (fun _ => 16) Y ∧ Below B wr w4 := by
  have hs1 : wr.heap.size + 1 ≤ w2.heap.size := by have := hb2.size; rw [World.size_alloc] at this; exact this
  have es : (w2.setCell ⟨wr.heap.size, 2, none⟩ x).heap.size = w2.heap.size := by simp [World.setCell]
  have blk : ∀ z, z < wr.heap.size → (w2.setCell ⟨wr.heap.size, 2, none⟩ x).heap[z]? = wr.heap[z]? := fun z hz => by
    rw [blk_setCell_other _ _ _ _ (by show z ≠ wr.heap.size; omega)]
    exact (hb2.block z (by omega)).trans (Below.heap_alloc _ _ _ hz)
  refine ⟨AL.step (w1 := w2.setCell ⟨wr.heap.size, 2, none⟩ x) hj (fun i hi => ?_) (by omega) (by rw [es]; exact hG) (fun e => by have := (hown.lt G e).2; omega) (fun i hi => by have := (hcc i hi).2.1; omega) (hr1.block (blk_setCell_other _ _ _ _ (by show G ≠ wr.heap.size; omega))) hC1 hown2 hg2 (by rw [es]; exact hat2), ?_⟩
  · obtain ⟨h1, h2, h3, h4, h5⟩ := hcc i hi
    exact ⟨h1, by rw [es]; omega, h3, h4.block (blk _ h2), h5⟩
  · have b1 : Below B wr (wr.alloc o) := (Below.refl B wr).alloc hB o
    have b2 : Below B (wr.alloc o) w2 := hb2.mono (by omega)
    have b3 : Below B w2 ((w2.setCell ⟨wr.heap.size, 2, none⟩ x).alloc o2) := ((Below.refl B w2).setCell (p := ⟨wr.heap.size, 2, none⟩) hB x).alloc (by rw [es]; omega) o2
    have b4 : Below B ((w2.setCell ⟨wr.heap.size, 2, none⟩ x).alloc o2) w4 := below_grown hg2 (by rw [World.size_alloc, es]; omega) (fun z e => (hown.lt z e).1)
    exact ((b1.trans b2).trans b3).trans b4
theorem own_set_alloc2 {wr w2 : World} {B n s : Nat} {e : TypeId} {v x : Value} {xs : List Value} {o o2 : Obj} (h : wr.ownsRow B e s v n xs) (hb : Below (wr.heap.size + 1) (wr.alloc o) w2) : ((w2.setCell ⟨wr.heap.size, 2, none⟩ x).alloc o2).ownsRow B e s v n xs := by
  refine World.ownsRow.alloc ?_ o2
  have h1 : w2.ownsRow B e s v n xs := by
    refine own_below (h.alloc o) ?_
    rw [World.size_alloc]; exact hb
  have hw : Writes wr.heap.size (wr.heap.size + 1) w2 (w2.setCell ⟨wr.heap.size, 2, none⟩ x) := Writes.setCell (Writes.refl _ _ _) (p := ⟨wr.heap.size, 2, none⟩) (Nat.le_refl _) (by show wr.heap.size < _; omega) x
  refine h1.kept (row := some wr.heap.size) ⟨hw.os, hw.tape, hw.output, hw.size, fun z hz hne => hw.block z hz (by simp at hne; omega)⟩ ?_
  cases hv : v.ownBlock with
  | none => exact .inl rfl
  | some q => exact .inr (fun e => by have := (h.lt q hv).2; simp at e; omega)
end Go.Proofs.Ytgchkpahoilmdaa
