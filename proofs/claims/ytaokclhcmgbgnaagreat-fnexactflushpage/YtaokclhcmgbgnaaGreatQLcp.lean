/- spec.l2Copy: a copy of a disk without a fault. -/
import Derived.Test.YtaokclhcmgbgnaaGreatQZpg
namespace Go.Proofs.YtaokclhcmgbgnaaGreat
open Go.RowKit Go.Deep
set_option linter.unusedVariables false
set_option maxRecDepth 20000

theorem grow_cells {W w1 : World} {q : Nat} {row : Option Nat} (hg : W.grownBy w1 row) (hq : q ≤ W.heap.size) (hr : ∀ k, row = some k → q ≤ k) {b o : Nat} {v : Value} (hb : b < q) (h : W.cell? ⟨b, o, none⟩ = some v) : w1.cell? ⟨b, o, none⟩ = some v :=
  hg.cell h (fun e => by have := hr b e.symm; omega)
theorem grow_frozen {W w1 : World} {q : Nat} {row : Option Nat} (hg : W.grownBy w1 row) (hq : q ≤ W.heap.size) (hr : ∀ k, row = some k → q ≤ k) {b o : Nat} (hb : b < q) (h : W.frozen? ⟨b, o, none⟩ = false) : w1.frozen? ⟨b, o, none⟩ = false :=
  (World.frozen?_of_block (hg.block b (by omega) (fun e => by have := hr b e.symm; omega))).trans h
theorem below_grown {W w1 : World} {q : Nat} {row : Option Nat} (hg : W.grownBy w1 row) (hq : q ≤ W.heap.size) (hr : ∀ k, row = some k → q ≤ k) : Below q W w1 :=
  ⟨hg.os, hg.tape, hg.output, hg.size, fun k hk => hg.block k (by omega) (fun e => by have := hr k e.symm; omega)⟩
/-- Behind the first append of a round: what lay there lies there. -/
theorem after1 {wr w1 : World} {o : Obj} {b0 b1 b2 o0 o1 o2 : Nat} {x0 x1 x2 : Value} (hg : (wr.alloc o).drew.grownBy w1 (some wr.heap.size)) (h0 : wr.cell? ⟨b0, o0, none⟩ = some x0) (h1 : wr.cell? ⟨b1, o1, none⟩ = some x1) (h2 : wr.cell? ⟨b2, o2, none⟩ = some x2) (hf : wr.frozen? ⟨b1, o1, none⟩ = false) :
    (w1.cell? ⟨b0, o0, none⟩ = some x0 ∧ w1.cell? ⟨b1, o1, none⟩ = some x1 ∧ w1.cell? ⟨b2, o2, none⟩ = some x2 ∧ w1.frozen? ⟨b1, o1, none⟩ = false) ∧
    ((∀ o : Obj, (w1.alloc o).cell? ⟨b0, o0, none⟩ = some x0) ∧ (∀ o : Obj, (w1.alloc o).cell? ⟨b1, o1, none⟩ = some x1) ∧ (∀ o : Obj, (w1.alloc o).cell? ⟨b2, o2, none⟩ = some x2) ∧ (∀ o : Obj, (w1.alloc o).frozen? ⟨b1, o1, none⟩ = false)) := by
  have hr : ∀ k, some wr.heap.size = some k → wr.heap.size ≤ k := fun k e => by simp at e; omega
  have hq : wr.heap.size ≤ (wr.alloc o).drew.heap.size := by show wr.heap.size ≤ (wr.alloc o).heap.size; rw [World.size_alloc]; omega
  have l0 := Go.block_lt_of_cell h0
  have l1 := Go.block_lt_of_cell h1
  have l2 := Go.block_lt_of_cell h2
  have k0 := grow_cells hg hq hr l0 (show (wr.alloc o).cell? _ = _ from cell_alloc h0 o)
  have k1 := grow_cells hg hq hr l1 (show (wr.alloc o).cell? _ = _ from cell_alloc h1 o)
  have k2 := grow_cells hg hq hr l2 (show (wr.alloc o).cell? _ = _ from cell_alloc h2 o)
  have k3 := grow_frozen hg hq hr l1 (show (wr.alloc o).frozen? _ = _ by rw [World.frozen?_alloc_past _ _ _ l1]; exact hf)
  refine ⟨⟨k0, k1, k2, k3⟩, fun o => cell_alloc k0 o, fun o => cell_alloc k1 o, fun o => cell_alloc k2 o, fun o => ?_⟩
  rw [World.frozen?_alloc_past _ _ _ (Go.block_lt_of_cell k1)]; exact k3
theorem row_own {w : World} {g base n cap : Nat} {z : Nat → Int} (h : w.ownsRow base 5 1 (.slice (some ⟨g, 0, none⟩) n cap) n (bvs z n)) : Row1 w g 0 n z ∧ n ≤ cap := by
  refine ⟨⟨fun i hi => ?_, fun i hi => h.frozenAt _⟩, ?_⟩
  · rw [Nat.zero_add, h.cellAt i (by omega)]; simp [bvs, hi]
  · rcases h.2 with ⟨e, _⟩ | ⟨_, _, _, e, _, _, h9, _⟩
    · cases e
    · simp at e; omega
theorem news_of {w : World} {pb po : Nat} {z : Nat → Int} {o : Obj} (h : ∀ i, i < 48 → w.cell? ⟨pb, po + i, none⟩ = some (.int .u8 (z i))) : ∀ j u, (bvs z 48)[j]? = some u → (w.alloc o).drew.cell? ((⟨pb, po, none⟩ : Addr).add j) = some u := fun j u hu => by
  obtain ⟨hj, rfl⟩ := bvs_get _ _ _ _ hu
  rw [Addr.add_mid]
  exact cell_alloc (h j hj) o
theorem al_le (w : World) (o : Obj) : w.heap.size ≤ (w.alloc o).drew.heap.size := by show w.heap.size ≤ (w.alloc o).heap.size; rw [World.size_alloc]; omega
theorem one_sl {a : Option Addr} {n c : Nat} (u : Value) : u ∈ [Value.slice a n c] → u.oneCell' = true := fun hu => by simp at hu; subst hu; rfl
theorem le_max8 {k n : Nat} (h : k < n) (hn : n ≤ 8) : k + 1 ≤ maxLen := by unfold maxLen; omega
theorem le_by8 {k n : Nat} (h : k < n) (hn : n ≤ 8) : (k + 1) * 24 ≤ 140737488355328 := by omega
theorem le_al3 {wr w1 : World} {q : Nat} {o o2 : Obj} {row : Option Nat} (h : q ≤ wr.heap.size) (hg : (wr.alloc o).drew.grownBy w1 row) : q ≤ (w1.alloc o2).heap.size := by
  have := hg.size
  have h2 : (wr.alloc o).drew.heap.size = wr.heap.size + 1 := World.size_alloc _ _
  rw [World.size_alloc]; omega
theorem own_after {wr w1 : World} {B n s : Nat} {e : TypeId} {v : Value} {xs : List Value} {o o2 : Obj} (h : wr.ownsRow B e s v n xs) (hg : (wr.alloc o).drew.grownBy w1 (some wr.heap.size)) : (w1.alloc o2).ownsRow B e s v n xs := by
  refine World.ownsRow.alloc ?_ o2
  refine World.ownsRow.kept (w := (wr.alloc o).drew) (h.alloc o) hg ?_
  cases hv : v.ownBlock with
  | none => exact .inl rfl
  | some q => exact .inr (fun e => by have := (h.lt q hv).2; simp at e; omega)
theorem after2 {wr w1 w2 : World} {B n s q p : Nat} {e : TypeId} {v x : Value} {xs : List Value} {o o2 : Obj} (hB : B ≤ wr.heap.size) (hg : (wr.alloc o).drew.grownBy w1 (some wr.heap.size)) (h : wr.ownsRow B e s v n xs) (hg2 : (w1.alloc o2).grownBy w2 v.ownBlock)
    (hc : w1.cell? ⟨q, p, none⟩ = some x) (hf : w1.frozen? ⟨q, p, none⟩ = false) (hq : q < B) : w2.cell? ⟨q, p, none⟩ = some x ∧ w2.frozen? ⟨q, p, none⟩ = false := by
  have hr : ∀ k, v.ownBlock = some k → B ≤ k := fun k hk => (h.lt k hk).1
  have hle : B ≤ (w1.alloc o2).heap.size := le_al3 hB hg
  refine ⟨grow_cells hg2 hle hr hq (cell_alloc hc o2), grow_frozen hg2 hle hr hq ?_⟩
  rw [World.frozen?_alloc_past _ _ _ (Go.block_lt_of_cell hc)]; exact hf
/-- Three blocks of two cells each, from w's end on. -/
structure Fr3 (w wr : World) (x0 x1 y0 y1 p0 p1 : Value) : Prop where
  x : Box2 wr w.heap.size x0 x1
  y : Box2 wr (w.heap.size + 1) y0 y1
  p : Box2 wr (w.heap.size + 1 + 1) p0 p1
  fy : ∀ j, wr.frozen? ⟨w.heap.size + 1, j, none⟩ = false
  fp : ∀ j, wr.frozen? ⟨w.heap.size + 1 + 1, j, none⟩ = false
theorem Fr3.below {w wr w2 : World} {x0 x1 y0 y1 p0 p1 : Value} (h : Fr3 w wr x0 x1 y0 y1 p0 p1) (hb : Below (w.heap.size + 3) wr w2) : Fr3 w w2 x0 x1 y0 y1 p0 p1 := by
  have hc : ∀ b o v, b < w.heap.size + 3 → wr.cell? ⟨b, o, none⟩ = some v → w2.cell? ⟨b, o, none⟩ = some v := fun b o v hlt h => (hb.cell (p := ⟨b, o, none⟩) hlt).trans h
  have hf : ∀ b o, b < w.heap.size + 3 → wr.frozen? ⟨b, o, none⟩ = false → w2.frozen? ⟨b, o, none⟩ = false := fun b o hlt h => (hb.frozen (p := ⟨b, o, none⟩) hlt).trans h
  exact ⟨⟨hc _ _ _ (by omega) h.x.1, hc _ _ _ (by omega) h.x.2⟩, ⟨hc _ _ _ (by omega) h.y.1, hc _ _ _ (by omega) h.y.2⟩, ⟨hc _ _ _ (by omega) h.p.1, hc _ _ _ (by omega) h.p.2⟩, fun j => hf _ _ (by omega) (h.fy j), fun j => hf _ _ (by omega) (h.fp j)⟩
theorem Fr3.new (w : World) (x0 x1 y0 y1 p0 p1 : Value) (t1 t2 t3 : TypeId) : Fr3 w (((w.alloc (.cells #[x0, x1] t1)).alloc (.cells #[y0, y1] t2)).alloc (.cells #[p0, p1] t3)) x0 x1 y0 y1 p0 p1 := by
  have e1 : (w.alloc (.cells #[x0, x1] t1)).heap.size = w.heap.size + 1 := World.size_alloc _ _
  have e2 : ((w.alloc (.cells #[x0, x1] t1)).alloc (.cells #[y0, y1] t2)).heap.size = w.heap.size + 1 + 1 := by rw [World.size_alloc, e1]
  have k1 := Box2.new w x0 x1 t1
  have k2 := Box2.new (w.alloc (.cells #[x0, x1] t1)) y0 y1 t2
  have k3 := Box2.new ((w.alloc (.cells #[x0, x1] t1)).alloc (.cells #[y0, y1] t2)) p0 p1 t3
  rw [e1] at k2
  rw [e2] at k3
  refine ⟨(k1.alloc _).alloc _, k2.alloc _, k3, fun j => ?_, fun j => ?_⟩
  · rw [World.frozen?_alloc_past _ _ _ (by rw [e2]; show w.heap.size + 1 < w.heap.size + 1 + 1; omega)]
    exact frozen_block (blk_last2 w (.cells #[x0, x1] t1) (.cells #[y0, y1] t2))
  · have h := heap_alloc_last ((w.alloc (.cells #[x0, x1] t1)).alloc (.cells #[y0, y1] t2)) (.cells #[p0, p1] t3)
    rw [e2] at h
    exact frozen_block h
theorem setB {w : World} {b b' o o' : Nat} {v : Value} (h : b ≠ b') : (w.setCell ⟨b, o, none⟩ v).cell? ⟨b', o', none⟩ = w.cell? ⟨b', o', none⟩ := World.cell?_setCell_other _ _ _ _ (by intro e; exact h (congrArg Addr.block e))
theorem Fr3.set0 {w wr : World} {x0 x1 y0 y1 p0 p1 : Value} (h : Fr3 w wr x0 x1 y0 y1 p0 p1) (v : Value) : Fr3 w (wr.setCell ⟨w.heap.size + 1 + 1, 0, none⟩ v) x0 x1 y0 y1 v p1 :=
  ⟨⟨by rw [setB (by omega)]; exact h.x.1, by rw [setB (by omega)]; exact h.x.2⟩, ⟨by rw [setB (by omega)]; exact h.y.1, by rw [setB (by omega)]; exact h.y.2⟩, ⟨setS h.p.1, by rw [setO (by omega)]; exact h.p.2⟩, fun j => by rw [World.frozen?_setCell]; exact h.fy j, fun j => by rw [World.frozen?_setCell]; exact h.fp j⟩
theorem Fr3.set1 {w wr : World} {x0 x1 y0 y1 p0 p1 : Value} (h : Fr3 w wr x0 x1 y0 y1 p0 p1) (v : Value) : Fr3 w (wr.setCell ⟨w.heap.size + 1 + 1, 1, none⟩ v) x0 x1 y0 y1 p0 v :=
  ⟨⟨by rw [setB (by omega)]; exact h.x.1, by rw [setB (by omega)]; exact h.x.2⟩, ⟨by rw [setB (by omega)]; exact h.y.1, by rw [setB (by omega)]; exact h.y.2⟩, ⟨by rw [setO (by omega)]; exact h.p.1, setS h.p.2⟩, fun j => by rw [World.frozen?_setCell]; exact h.fy j, fun j => by rw [World.frozen?_setCell]; exact h.fp j⟩
theorem AP.set {base q p : Nat} {w : World} {v x : Value} {k : Nat} {L : Nat → Nat} {Z : Nat → Nat → Int} (h : AP base w v k L Z) (hq : q < base) : AP base (w.setCell ⟨q, p, none⟩ x) v k L Z := by
  obtain ⟨g, c, ho, hj, hc⟩ := h
  have hw : Writes q (q + 1) w (w.setCell ⟨q, p, none⟩ x) := Writes.setCell (Writes.refl _ _ _) (p := ⟨q, p, none⟩) (Nat.le_refl _) (by show q < q + 1; omega) x
  refine ⟨g, c, ?_, hj, fun i hi => ?_⟩
  · refine ho.kept (row := some q) ⟨hw.os, hw.tape, hw.output, hw.size, fun z hz hne => hw.block z hz (by simp at hne; omega)⟩ ?_
    cases hv : v.ownBlock with
    | none => exact .inl rfl
    | some z => exact .inr (fun e => by have := (ho.lt z hv).1; simp at e; omega)
  · obtain ⟨h1, h2, h3, h4, h5⟩ := hc i hi
    exact ⟨h1, Nat.lt_of_lt_of_le h2 hw.size, h3, h4.block (hw.block _ h2 (by omega)), h5⟩
theorem drew_size (w : World) (o : Obj) : (w.alloc o).drew.heap.size = w.heap.size + 1 := World.size_alloc _ _
/-- One round of the pages' loop. -/
theorem l2round {wr w1 w2 : World} {B k G C g2 c2 q : Nat} {v : Value} {Z : Nat → Nat → Int} {g c : Nat → Nat} {o o2 : Obj} (hB : B ≤ wr.heap.size) (hj : ∀ i j, i < k → j < k → g i = g j → i = j)
    (hcc : ∀ i, i < k → B ≤ g i ∧ g i < wr.heap.size ∧ v.ownBlock ≠ some (g i) ∧ Row1 wr (g i) 0 48 (Z i) ∧ 48 ≤ c i) (hown : wr.ownsRow B 27 1 v k (slv g (fun _ => 48) c k))
    (hown1 : w1.ownsRow wr.heap.size 5 1 (.slice (some ⟨G, 0, none⟩) 48 C) 48 (bvs (Z k) 48)) (hG : G < w1.heap.size) (hg1 : (wr.alloc o).drew.grownBy w1 (some wr.heap.size))
    (hown2 : w2.ownsRow B 27 1 (.slice (some ⟨g2, 0, none⟩) (k + 1) c2) (k + 1) (slv g (fun _ => 48) c k ++ [.slice (some ⟨G, 0, none⟩) 48 C])) (hg2 : (w1.alloc o2).grownBy w2 v.ownBlock) (hat2 : v.ownBlock = some g2 ∨ g2 = w1.heap.size + 1) (hq : q < B) (x : Value) :
    AP B (w2.setCell ⟨q, 0, none⟩ x) (.slice (some ⟨g2, 0, none⟩) (k + 1) c2) (k + 1) (fun _ => 48) Z ∧ Below B wr w2 := by
  have hs1 : wr.heap.size + 1 ≤ w1.heap.size := by have := hg1.size; rw [drew_size] at this; exact this
  have blk : ∀ z, z < wr.heap.size → w1.heap[z]? = wr.heap[z]? := fun z hz => (hg1.block z (by rw [drew_size]; omega) (fun e => by simp at e; omega)).trans (Below.heap_alloc _ _ _ hz)
  have hGb : wr.heap.size ≤ G := (hown1.lt G rfl).1
  obtain ⟨hr1, hC1⟩ := row_own hown1
  refine ⟨AP.set (AP.step hj (fun i hi => ?_) (by omega) hG (fun e => by have := (hown.lt G e).2; omega) (fun i hi => by have := (hcc i hi).2.1; omega) hr1 hC1 hown2 hg2 hat2) hq, ?_⟩
  · obtain ⟨h1, h2, h3, h4, h5⟩ := hcc i hi
    exact ⟨h1, by omega, h3, h4.block (blk _ h2), h5⟩
  · have b1 : Below B wr (wr.alloc o).drew := ((Below.refl B wr).alloc hB o).drew
    have b2 : Below B (wr.alloc o).drew w1 := below_grown hg1 (by rw [drew_size]; omega) (fun z e => by simp at e; omega)
    have b3 : Below B w1 (w1.alloc o2) := (Below.refl B w1).alloc (by omega) o2
    have b4 : Below B (w1.alloc o2) w2 := below_grown hg2 (by rw [World.size_alloc]; omega) (fun z e => (hown.lt z e).1)
    exact ((b1.trans b2).trans b3).trans b4
/-- One round of the loose writes' loop. -/
theorem l2roundL {wr w1 w2 : World} {B j G C g2 c2 : Nat} {v : Value} {P T : Nat → Int} {Y : Nat → Nat → Int} {g c : Nat → Nat} {o o1 o2 : Obj} {x : Value} (hB : B ≤ wr.heap.size) (hj : ∀ x y, x < j → y < j → g x = g y → x = y)
    (hcc : ∀ i, i < j → B ≤ g i ∧ g i < wr.heap.size ∧ v.ownBlock ≠ some (g i) ∧ Row1 wr (g i) 0 16 (Y i) ∧ 16 ≤ c i) (hown : wr.ownsRow B 136 3 v j (llv P T g (fun _ => 16) c j))
    (hown1 : w1.ownsRow (wr.heap.size + 1) 5 1 (.slice (some ⟨G, 0, none⟩) 16 C) 16 (bvs (Y j) 16)) (hG : G < w1.heap.size) (hg1 : ((wr.alloc o).alloc o1).grownBy w1 (some (wr.heap.size + 1)))
    (hown2 : w2.ownsRow B 136 3 (.slice (some ⟨g2, 0, none⟩) (j + 1) c2) (j + 1) (llv P T g (fun _ => 16) c j ++ lv3 (P j) (T j) G 16 C)) (hg2 : ((w1.setCell ⟨wr.heap.size, 2, none⟩ x).alloc o2).grownBy w2 v.ownBlock) (hat2 : v.ownBlock = some g2 ∨ g2 = w1.heap.size + 1) :
    AL B w2 (.slice (some ⟨g2, 0, none⟩) (j + 1) c2) (j + 1) P T (fun _ => 16) Y ∧ Below B wr w2 := by
  have e2 : ((wr.alloc o).alloc o1).heap.size = wr.heap.size + 1 + 1 := by rw [World.size_alloc, World.size_alloc]
  have hs1 : wr.heap.size + 1 + 1 ≤ w1.heap.size := by have := hg1.size; rw [e2] at this; exact this
  have es : (w1.setCell ⟨wr.heap.size, 2, none⟩ x).heap.size = w1.heap.size := by simp [World.setCell]
  have blk0 : ∀ z, z < wr.heap.size → ((wr.alloc o).alloc o1).heap[z]? = wr.heap[z]? := fun z hz => (Below.heap_alloc _ _ _ (by rw [World.size_alloc]; omega)).trans (Below.heap_alloc _ _ _ hz)
  have blk : ∀ z, z < wr.heap.size → (w1.setCell ⟨wr.heap.size, 2, none⟩ x).heap[z]? = wr.heap[z]? := fun z hz => by
    rw [blk_setCell_other _ _ _ _ (by show z ≠ wr.heap.size; omega)]
    exact (hg1.block z (by rw [e2]; omega) (fun e => by simp at e; omega)).trans (blk0 z hz)
  have hGb : wr.heap.size + 1 ≤ G := (hown1.lt G rfl).1
  obtain ⟨hr1, hC1⟩ := row_own hown1
  refine ⟨AL.step (w1 := w1.setCell ⟨wr.heap.size, 2, none⟩ x) hj (fun i hi => ?_) (by omega) (by rw [es]; exact hG) (fun e => by have := (hown.lt G e).2; omega) (fun i hi => by have := (hcc i hi).2.1; omega) (hr1.block (blk_setCell_other _ _ _ _ (by show G ≠ wr.heap.size; omega))) hC1 hown2 hg2 (by rw [es]; exact hat2), ?_⟩
  · obtain ⟨h1, h2, h3, h4, h5⟩ := hcc i hi
    exact ⟨h1, by rw [es]; omega, h3, h4.block (blk _ h2), h5⟩
  · have b1 : Below B wr ((wr.alloc o).alloc o1) := ((Below.refl B wr).alloc hB o).alloc (by rw [World.size_alloc]; omega) o1
    have b2 : Below B ((wr.alloc o).alloc o1) w1 := below_grown hg1 (by rw [e2]; omega) (fun z e => by simp at e; omega)
    have b3 : Below B w1 ((w1.setCell ⟨wr.heap.size, 2, none⟩ x).alloc o2) := ((Below.refl B w1).setCell (p := ⟨wr.heap.size, 2, none⟩) hB x).alloc (by rw [es]; omega) o2
    have b4 : Below B ((w1.setCell ⟨wr.heap.size, 2, none⟩ x).alloc o2) w2 := below_grown hg2 (by rw [World.size_alloc, es]; omega) (fun z e => (hown.lt z e).1)
    exact ((b1.trans b2).trans b3).trans b4
/-- Behind the append of the bytes: what lay there lies there, behind the store into the box too. -/
theorem after3 {wr w1 : World} {b q : Nat} {x0 x1 x2 v : Value} {o1 : Obj} {t : TypeId} (hg : ((wr.alloc (.cells #[x0, x1, x2] t)).alloc o1).grownBy w1 (some (wr.heap.size + 1))) (hc : wr.cell? ⟨b, q, none⟩ = some v) (hf : wr.frozen? ⟨b, q, none⟩ = false) :
    (w1.cell? ⟨wr.heap.size, 0, none⟩ = some x0 ∧ w1.cell? ⟨wr.heap.size, 1, none⟩ = some x1 ∧ w1.cell? ⟨wr.heap.size, 2, none⟩ = some x2 ∧ w1.frozen? ⟨wr.heap.size, 2, none⟩ = false) ∧ (w1.cell? ⟨b, q, none⟩ = some v ∧ w1.frozen? ⟨b, q, none⟩ = false) ∧
      (b ≠ wr.heap.size ∧ b < w1.heap.size ∧ wr.heap.size < w1.heap.size) := by
  have e2 : ((wr.alloc (.cells #[x0, x1, x2] t)).alloc o1).heap.size = wr.heap.size + 1 + 1 := by rw [World.size_alloc, World.size_alloc]
  have hr : ∀ k, some (wr.heap.size + 1) = some k → wr.heap.size + 1 ≤ k := fun k e => by simp at e; omega
  have hq : wr.heap.size + 1 ≤ ((wr.alloc (.cells #[x0, x1, x2] t)).alloc o1).heap.size := by rw [e2]; omega
  have lb : b < wr.heap.size := Go.block_lt_of_cell hc
  have bx := (Box3.new wr x0 x1 x2 t).alloc o1
  have fz : ((wr.alloc (.cells #[x0, x1, x2] t)).alloc o1).frozen? ⟨wr.heap.size, 2, none⟩ = false := by
    rw [World.frozen?_alloc_past _ _ _ (by rw [World.size_alloc]; show wr.heap.size < wr.heap.size + 1; omega)]
    exact frozen_block (heap_alloc_last _ _)
  have hs := hg.size
  rw [e2] at hs
  refine ⟨⟨grow_cells hg hq hr (by omega) bx.1, grow_cells hg hq hr (by omega) bx.2.1, grow_cells hg hq hr (by omega) bx.2.2, grow_frozen hg hq hr (by omega) fz⟩, ⟨grow_cells hg hq hr (by show b < _; omega) (cell_alloc (cell_alloc hc _) _), grow_frozen hg hq hr (by show b < _; omega) ?_⟩, by omega, by omega, by omega⟩
  rw [World.frozen?_alloc_past _ _ _ (by rw [World.size_alloc]; show b < _; omega), World.frozen?_alloc_past _ _ _ lb]; exact hf
theorem cell_set_alloc {w : World} {b q b' q' : Nat} {x v : Value} (hne : b' ≠ b) (h : w.cell? ⟨b', q', none⟩ = some v) (o : Obj) : ((w.setCell ⟨b, q, none⟩ x).alloc o).cell? ⟨b', q', none⟩ = some v :=
  cell_alloc ((setB (fun e => hne e.symm)).trans h) o
theorem own_set_alloc {wr w1 : World} {B n s : Nat} {e : TypeId} {v x : Value} {xs : List Value} {o o1 o2 : Obj} (h : wr.ownsRow B e s v n xs) (hg : ((wr.alloc o).alloc o1).grownBy w1 (some (wr.heap.size + 1))) : ((w1.setCell ⟨wr.heap.size, 2, none⟩ x).alloc o2).ownsRow B e s v n xs := by
  refine World.ownsRow.alloc ?_ o2
  have h1 : w1.ownsRow B e s v n xs := by
    refine World.ownsRow.kept ((h.alloc o).alloc o1) hg ?_
    cases hv : v.ownBlock with
    | none => exact .inl rfl
    | some q => exact .inr (fun e => by have := (h.lt q hv).2; simp at e; omega)
  have hw : Writes wr.heap.size (wr.heap.size + 1) w1 (w1.setCell ⟨wr.heap.size, 2, none⟩ x) := Writes.setCell (Writes.refl _ _ _) (p := ⟨wr.heap.size, 2, none⟩) (Nat.le_refl _) (by show wr.heap.size < _; omega) x
  refine h1.kept (row := some wr.heap.size) ⟨hw.os, hw.tape, hw.output, hw.size, fun z hz hne => hw.block z hz (by simp at hne; omega)⟩ ?_
  cases hv : v.ownBlock with
  | none => exact .inl rfl
  | some q => exact .inr (fun e => by have := (h.lt q hv).2; simp at e; omega)
set_option maxHeartbeats 2000000 in
theorem l2Copy_any (n m : Nat) (L : Nat → Nat) (Z : Nat → Nat → Int) (P T : Nat → Int) (M : Nat → Nat) (Y : Nat → Nat → Int) (a a' : Option Addr) (cap cap' : Nat) (w : World) (hn : n ≤ 8) (hm : m ≤ 60) (hL : ∀ i, i < n → L i = 48) (hM : ∀ i, i < m → M i = 16) (h : PagesAt w a n L Z) (h' : LoosesAt w a' m P T M Y) :
    Calls Tryz.prog 86 #[.agg #[.slice a n cap, .slice a' m cap']] w fun e w' => ∃ av cv v mid, e = .returned (.agg #[.slice av n cv, v]) ∧ Below w.heap.size w w' ∧ w.heap.size ≤ mid ∧ OwnP w' w.heap.size mid av n (fun _ => 48) Z ∧ AL mid w' v m P T (fun _ => 16) Y := by
  obtain ⟨i0, hi, hz0, hz1, hz2⟩ := info_parts info22
  have HI : Hid (Tryz.prog.info? 27 = some i0 ∧ i0.zero = some (.slice none 0 0) ∧ i0.size = 1 ∧ i0.bytes = 24) := ⟨hi, hz0, hz1, hz2⟩
  clear hi hz0 hz1 hz2
  obtain ⟨i1, hi, hz0, hz1, hz2⟩ := info_parts info5
  have HJ : Hid (Tryz.prog.info? 5 = some i1 ∧ i1.zero = some (.int .u8 0) ∧ i1.size = 1 ∧ i1.bytes = 1) := ⟨hi, hz0, hz1, hz2⟩
  have HL : Hid (∀ i, i < n → L i = 48) := hL
  have HM : Hid (∀ i, i < m → M i = 16) := hM
  have HA : Hid (PagesAt w a n L Z) := h
  have HA' : Hid (LoosesAt w a' m P T M Y) := h'
  clear hi hz0 hz1 hz2 hL h hM h'
  obtain ⟨i2, hi, hz0, hz1, hz2⟩ := info_parts info114
  have HK : Hid (Tryz.prog.info? 136 = some i2 ∧ i2.zero = some (.agg #[.int .i64 0, .int .i64 0, .slice none 0 0]) ∧ i2.size = 3 ∧ i2.bytes = 40) := ⟨hi, hz0, hz1, hz2⟩
  clear hi hz0 hz1 hz2
  go_enter Tryz.func86, Tryz.ntmps86
  go_wp2_with fail
  go_loopw [4] (fun i wr => ∃ k : Nat, k ≤ n ∧ i = .int .i64 k ∧ ∃ v, Hid (Below w.heap.size w wr) ∧ Hid (Fr3 w wr (.slice a n cap) (.slice a' m cap') (.slice none 0 0) (.slice none 0 0) v (.slice none 0 0)) ∧ Hid (AP (w.heap.size + 3) wr v k (fun _ => 48) Z) ∧ Hid (w.heap.size + 3 ≤ wr.heap.size)) (fun i _ => n - (intOf i).toNat)
  case atStart =>
    refine ⟨0, Nat.zero_le _, rfl, .slice none 0 0, ?_, ?_, AP.nil _ _ _ _, ?_⟩
    · exact (((Below.refl _ _).alloc (Nat.le_refl _) _).alloc (by simp) _).alloc (by simp; omega) _
    · exact Fr3.new w _ _ _ _ _ _ _ _ _
    · show w.heap.size + 3 ≤ _
      simp
  case round =>
    obtain ⟨k, hk, rfl, v, HB, HX, HP, HS⟩ := hrel
    by_cases hlt : k < n
    · rcases HA.out.below HB.out with h | ⟨b, off, rfl, hl, hc⟩
      · omega
      obtain ⟨ai, ci, h1, hy, hcap⟩ := hc k hlt
      rw [HL.out k hlt] at h1 hy
      obtain ⟨pb, po, rfl, hpb, hpc⟩ : ∃ b off, ai = some ⟨b, off, none⟩ ∧ b < wr.heap.size ∧ ∀ i, i < 48 → wr.cell? ⟨b, off + i, none⟩ = some (.int .u8 (Z k i)) := by
        rcases hy with h | h
        · omega
        · exact h
      have HY : Hid (∀ i, i < 48 → wr.cell? ⟨pb, po + i, none⟩ = some (.int .u8 (Z k i))) := hpc
      obtain ⟨g, c, hown, hj, hcc⟩ := HP.out
      have HOW : Hid (wr.ownsRow (w.heap.size + 3) 27 1 v k (slv g (fun _ => 48) c k)) := hown
      have HJ2 : Hid (∀ i j, i < k → j < k → g i = g j → i = j) := hj
      have HCC : Hid (∀ i, i < k → w.heap.size + 3 ≤ g i ∧ g i < wr.heap.size ∧ v.ownBlock ≠ some (g i) ∧ Row1 wr (g i) 0 48 (Z i) ∧ 48 ≤ c i) := hcc
      obtain ⟨av, cv, rfl⟩ : ∃ a cap, v = .slice a k cap := by
        rcases hown.2 with ⟨rfl, h0⟩ | ⟨q, cq, _, rfl, _⟩
        · exact ⟨none, 0, by rw [h0]⟩
        · exact ⟨_, _, rfl⟩
      obtain ⟨q0, q1⟩ := HX.out.x
      obtain ⟨r0, r1⟩ := HX.out.p
      have f0 : wr.frozen? ⟨w.heap.size + 1 + 1, 0, none⟩ = false := HX.out.fp 0
      have hlt' : (k : Int) < (n : Int) := by omega
      clear hc hy hpc hown hj hcc hcap hl
      go_wp2_with fail
      have a0 := fun o : Obj => cell_alloc q0 o
      have a1 := fun o : Obj => cell_alloc r0 o
      have a2 := fun o : Obj => cell_alloc h1 o
      go_region_law (first | (refine step_append_lies (P := Tryz.prog) (wr.alloc (.cells #[] 5)).drew rfl (.tmp 17) (.tmp 22) 27 rfl wr.heap.size 5 i1 (.int .u8 0) 1 1 Tryz.underlying27 HJ.out.1 HJ.out.2.1 HJ.out.2.2.1 HJ.out.2.2.2 rfl (by decide) (.slice (some ⟨wr.heap.size, 0, none⟩) 0 0) 0 [] rfl (World.ownsRow_made wr #[] 0 (Nat.le_refl _) (by decide) rfl) ⟨pb, po, none⟩ 48 ci (bvs (Z k) 48) rfl (bvs_len _ _) (news_of HY.out) (bvs_one _ _) (by decide) (by decide) (by decide) (al_le _ _) (wr.heap.size + 1) (World.size_alloc _ _) ?_; intro G C w1 hown1 hg1 hat1 hlt1; obtain ⟨⟨s0, s1, s2, s3⟩, t0, t1, t2, t3⟩ := after1 hg1 q0 r0 h1 f0) | (refine step_append_lies (P := Tryz.prog) (w1.alloc (.cells #[.slice (some ⟨G, 0, none⟩) 48 C] 27)) rfl (.tmp 16) (.tmp 24) 23 rfl (w.heap.size + 3) 27 i0 (.slice none 0 0) 1 24 Tryz.underlying23 HI.out.1 HI.out.2.1 HI.out.2.2.1 HI.out.2.2.2 rfl (by decide) (.slice av k cv) k (slv g (fun _ => 48) c k) rfl (own_after HOW.out hg1) ⟨w1.heap.size, 0, none⟩ 1 1 [.slice (some ⟨G, 0, none⟩) 48 C] rfl rfl (cell_one_new _ _ _) one_sl (by decide) (le_max8 hlt hn) (le_by8 hlt hn) (le_al3 HS.out hg1) (w1.heap.size + 1) (World.size_alloc _ _) ?_; intro g2 c2 w2 hown2 hg2 hat2 hlt2; obtain ⟨u0, u1⟩ := after2 HS.out hg1 HOW.out hg2 s1 s3 (by omega)))
      all_goals
        obtain ⟨hap, hbl⟩ := l2round HS.out HJ2.out HCC.out HOW.out hown1 hlt1 hg1 hown2 hg2 hat2 (show w.heap.size + 1 + 1 < w.heap.size + 3 by omega) (.slice (some ⟨g2, 0, none⟩) (k + 1) c2)
        have HAP : Hid (AP (w.heap.size + 3) (w2.setCell ⟨w.heap.size + 1 + 1, 0, none⟩ (.slice (some ⟨g2, 0, none⟩) (k + 1) c2)) (.slice (some ⟨g2, 0, none⟩) (k + 1) c2) (k + 1) (fun _ => 48) Z) := hap
        have HBL : Hid (Below (w.heap.size + 3) wr w2) := hbl
        clear hap hbl hown1 hlt1 hg1 hat1 hown2 hg2 hat2 hlt2 s0 s1 s2 s3 t0 t1 t2 t3 u0 u1
        go_wp2_with fail
        go_roundw
        case rel =>
          refine ⟨k + 1, hlt, by go_num, _, ?_, (HX.out.below HBL.out).set0 _, HAP.out, ?_⟩
          · exact (HB.out.trans (HBL.out.mono (by omega))).setCell (by simp; omega) _
          · have h1 := HBL.out.size
            have h2 := HS.out
            show w.heap.size + 3 ≤ _
            simp [World.setCell]; omega
        case measure => simp [intOf]; omega
    · have hkn : k = n := by omega
      have HP2 : Hid (AP (w.heap.size + 3) wr v n (fun _ => 48) Z) := by have h := HP.out; rw [hkn] at h; exact h
      obtain ⟨av, cv, rfl, hcv, hop⟩ := HP2.out.own
      have HOP : Hid (OwnP wr (w.heap.size + 3) wr.heap.size av n (fun _ => 48) Z) := hop
      obtain ⟨q0, q1⟩ := HX.out.x
      have HSM : Hid (w.heap.size + 3 ≤ wr.heap.size) := HS
      clear hop HP HP2 hkn
      go_wp2_with fail
      clear q0 q1
      obtain ⟨wm, hwm⟩ : ∃ wm, wm = wr := ⟨wr, rfl⟩
      subst hwm
      go_loopw [5, 6] (fun i _ wr => ∃ j : Nat, j ≤ m ∧ i = .int .i64 j ∧ ∃ v, Hid (Below w.heap.size w wr) ∧ Hid (Fr3 w wr (.slice a n cap) (.slice a' m cap') (.slice none 0 0) (.slice none 0 0) (.slice av n cv) v) ∧ Hid (OwnP wr (w.heap.size + 3) wm.heap.size av n (fun _ => 48) Z) ∧ Hid (AL wm.heap.size wr v j P T (fun _ => 16) Y) ∧ Hid (wm.heap.size ≤ wr.heap.size)) (fun i _ _ => m - (intOf i).toNat)
      case atStart => exact ⟨0, Nat.zero_le _, rfl, _, HB, HX, HOP, AL.nil _ _ _ _ _ _, Nat.le_refl _⟩
      case round =>
        clear hlt
        obtain ⟨j, hj0, rfl, v, HB3, HX3, HOP3, HAL, HS3⟩ := hrel
        by_cases hlt : j < m
        · rcases HA'.out.below HB3.out with h | ⟨b, off, rfl, hl, hc⟩
          · omega
          obtain ⟨h0, h1, ai, ci, h2, hy, hcap⟩ := hc j hlt
          rw [HM.out j hlt] at h2 hy
          obtain ⟨pb, po, rfl, hpb, hpc⟩ : ∃ b off, ai = some ⟨b, off, none⟩ ∧ b < wr.heap.size ∧ ∀ i, i < 16 → wr.cell? ⟨b, off + i, none⟩ = some (.int .u8 (Y j i)) := by
            rcases hy with h | h
            · omega
            · exact h
          have HY : Hid (∀ i, i < 16 → wr.cell? ⟨pb, po + i, none⟩ = some (.int .u8 (Y j i))) := hpc
          obtain ⟨q0, q1⟩ := HX3.out.x
          obtain ⟨r0, r1⟩ := HX3.out.p
          have f1 : wr.frozen? ⟨w.heap.size + 1 + 1, 1, none⟩ = false := HX3.out.fp 1
          have hlt' : (j : Int) < (m : Int) := by omega
          obtain ⟨g, c, hown, hjj, hcc⟩ := HAL.out
          have HOW : Hid (wr.ownsRow wm.heap.size 136 3 v j (llv P T g (fun _ => 16) c j)) := hown
          have HJ2 : Hid (∀ x y, x < j → y < j → g x = g y → x = y) := hjj
          have HCC : Hid (∀ i, i < j → wm.heap.size ≤ g i ∧ g i < wr.heap.size ∧ v.ownBlock ≠ some (g i) ∧ Row1 wr (g i) 0 16 (Y i) ∧ 16 ≤ c i) := hcc
          obtain ⟨av3, cv3, rfl⟩ : ∃ a cap, v = .slice a j cap := by
            rcases hown.2 with ⟨rfl, h0⟩ | ⟨q, cq, _, rfl, _⟩
            · exact ⟨none, 0, by rw [h0]⟩
            · exact ⟨_, _, rfl⟩
          clear hc hy hpc hown hjj hcc hcap hl HX HB HS HOP
          have HA3 : Hid (w.heap.size + 3 ≤ wm.heap.size) := HSM
          go_wp2_with (first | (at_builtin; refine wpList_append_lies _ rfl (.tmp 39) (.tmp 41) 27 rfl (wr.heap.size + 1) 5 i1 (.int .u8 0) 1 1 Tryz.underlying27 HJ.out.1 HJ.out.2.1 HJ.out.2.2.1 HJ.out.2.2.2 rfl (by decide) (.slice (some ⟨wr.heap.size + 1, 0, none⟩) 0 0) 0 [] rfl ?d0 ⟨pb, po, none⟩ 16 ci (bvs (Y j) 16) rfl ?d1 ?d2 (bvs_one _ _) (by decide) (by decide) (by decide) ?d3 _ rfl ?_))
          case d0 =>
            have h := World.ownsRow_made (base := wr.heap.size + 1) (size := 1) (e := 5) (wr.alloc (.cells #[.int .i64 (P j), .int .i64 (T j), .slice (some ⟨pb, po, none⟩) 16 ci] 136)) #[] 0 (by rw [World.size_alloc]; omega) (by decide) rfl
            rw [World.size_alloc] at h
            exact h
          case d1 => rw [bvs_len]
          case d2 =>
            intro q u hu
            obtain ⟨hq, rfl⟩ := bvs_get _ _ _ _ hu
            rw [Addr.add_mid]
            exact cell_alloc (cell_alloc (HY.out q hq) _) _
          case d3 => rw [World.size_alloc, World.size_alloc]; omega
          intro G C w1 hown1 hg1 hat1 hlt1
          obtain ⟨⟨s0, s1, s2, s3⟩, ⟨t1, t2⟩, t3, t4, t5⟩ := after3 hg1 r1 f1
          have HG1 : Hid (((wr.alloc (.cells #[.int .i64 (P j), .int .i64 (T j), .slice (some ⟨pb, po, none⟩) 16 ci] 136)).alloc (.cells #[] 5)).grownBy w1 (some (wr.heap.size + 1))) := hg1
          have HO1 : Hid (w1.ownsRow (wr.heap.size + 1) 5 1 (.slice (some ⟨G, 0, none⟩) 16 C) 16 (bvs (Y j) 16)) := hown1
          have HLT : Hid (G < w1.heap.size ∧ w.heap.size + 1 + 1 ≠ wr.heap.size ∧ w.heap.size + 1 + 1 < w1.heap.size) := ⟨hlt1, t3, t4⟩
          have k1 := fun o : Obj => cell_set_alloc (b := wr.heap.size) (q := 2) (x := .slice (some ⟨G, 0, none⟩) 16 C) t3 t1 o
          clear hown1 hg1 hat1 hlt1 t4 t5 q0 q1 r0 r1 f1 h0 h1 h2
          go_wp2_with (at_builtin; refine wpList_append_lies _ rfl (.tmp 45) (.tmp 47) 36 rfl wm.heap.size 136 i2 (.agg #[.int .i64 0, .int .i64 0, .slice none 0 0]) 3 40 Tryz.underlying36 HK.out.1 HK.out.2.1 HK.out.2.2.1 HK.out.2.2.2 rfl (by decide) (.slice av3 j cv3) j (llv P T g (fun _ => 16) c j) rfl (own_set_alloc HOW.out HG1.out) ⟨w1.heap.size, 0, none⟩ 1 1 (lv3 (P j) (T j) G 16 C) rfl rfl ?d4 lv3_one (by decide) ?d5 ?d6 ?d7 _ rfl ?_)
          case d4 =>
            intro q u hu
            rw [Addr.add_mid]
            have e : (w1.setCell ⟨wr.heap.size, 2, none⟩ (.slice (some ⟨G, 0, none⟩) 16 C)).heap.size = w1.heap.size := by simp [World.setCell]
            have h := range_block (cs := lv3 (P j) (T j) G 16 C) (heap_alloc_last (w1.setCell ⟨wr.heap.size, 2, none⟩ (.slice (some ⟨G, 0, none⟩) 16 C)) (.cells (lv3 (P j) (T j) G 16 C).toArray 136)) q u hu
            rw [e] at h
            exact h
          case d5 => unfold maxLen; omega
          case d6 => omega
          case d7 =>
            have h1 := HG1.out.size
            have h2 := HS3.out
            rw [World.size_alloc, World.size_alloc] at h1
            rw [World.size_alloc]
            simp [World.setCell]; omega
          intro g2 c2 w2 hown2 hg2 hat2 hlt2
          have hat3 : (Value.slice av3 j cv3).ownBlock = some g2 ∨ g2 = w1.heap.size + 1 := by simpa [World.setCell] using hat2
          obtain ⟨hal, hbl⟩ := l2roundL HS3.out HJ2.out HCC.out HOW.out HO1.out HLT.out.1 HG1.out hown2 hg2 hat3
          have hsm := HA3.out
          have hs3 := HS3.out
          have u0 : w2.cell? ⟨w.heap.size + 1 + 1, 1, none⟩ = some (.slice av3 j cv3) := (hbl.cell (p := ⟨w.heap.size + 1 + 1, 1, none⟩) (by show w.heap.size + 1 + 1 < wm.heap.size; omega)).trans HX3.out.p.2
          have u1 : w2.frozen? ⟨w.heap.size + 1 + 1, 1, none⟩ = false := (hbl.frozen (p := ⟨w.heap.size + 1 + 1, 1, none⟩) (by show w.heap.size + 1 + 1 < wm.heap.size; omega)).trans (HX3.out.fp 1)
          have HALN : Hid (AL wm.heap.size w2 (.slice (some ⟨g2, 0, none⟩) (j + 1) c2) (j + 1) P T (fun _ => 16) Y) := hal
          have HBL : Hid (Below wm.heap.size wr w2) := hbl
          clear hown2 hg2 hat2 hat3 hlt2 hal hbl s0 s1 s2 s3 t1 t2 t3 k1
          go_wp2_with fail
          go_roundw
          case rel =>
            refine ⟨j + 1, hlt, by go_num, _, ?_, (HX3.out.below (HBL.out.mono (by omega))).set1 _, ?_, HALN.out.set (by omega), ?_⟩
            · exact (HB3.out.trans (HBL.out.mono (by omega))).setCell (by simp; omega) _
            · exact (HOP3.out.writes (Writes.of_below' HBL.out) (.inl (Nat.le_refl _))).writes (Writes.setCell (Writes.refl (w.heap.size + 1 + 1) (w.heap.size + 3) _) (p := ⟨w.heap.size + 1 + 1, 1, none⟩) (Nat.le_refl _) (by show w.heap.size + 1 + 1 < w.heap.size + 3; omega) _) (.inr (Nat.le_refl _))
            · have h1 := HBL.out.size
              show wm.heap.size ≤ _
              simp [World.setCell]; omega
          case measure => simp [intOf]; omega
        · have hkn : j = m := by omega
          have HALM : Hid (AL wm.heap.size wr v m P T (fun _ => 16) Y) := by have h := HAL.out; rw [hkn] at h; exact h
          obtain ⟨va, vc, rfl, hvc, _⟩ := HALM.out.own
          obtain ⟨q0, q1⟩ := HX3.out.x
          obtain ⟨y0, y1⟩ := HX3.out.y
          obtain ⟨r0, r1⟩ := HX3.out.p
          have fy0 := HX3.out.fy 0
          have fy1 := HX3.out.fy 1
          clear HAL hkn
          go_wp2_with fail
          refine bodyPost_ret (v := .agg #[.slice av n cv, .slice va m vc]) (by simp [results, Tryz.results86, go_sem, *]) rfl ⟨av, cv, .slice va m vc, wm.heap.size, rfl, ?_, ?_, ?_, ?_⟩
          · exact (HB3.out.setCell (p := ⟨w.heap.size + 1, 0, none⟩) (by show w.heap.size ≤ w.heap.size + 1; omega) _).setCell (p := ⟨w.heap.size + 1, 1, none⟩) (by show w.heap.size ≤ w.heap.size + 1; omega) _
          · have := HSM.out; omega
          · have hw := Writes.setCell (Writes.setCell (Writes.refl (w.heap.size + 1) (w.heap.size + 2) wr) (p := ⟨w.heap.size + 1, 0, none⟩) (Nat.le_refl _) (by show w.heap.size + 1 < w.heap.size + 2; omega) (.slice av n cv)) (p := ⟨w.heap.size + 1, 1, none⟩) (Nat.le_refl _) (by show w.heap.size + 1 < w.heap.size + 2; omega) (.slice va m vc)
            have h9 := HS3.out
            exact (HOP3.out.writes hw (.inr (by omega))).wide (by omega) (Nat.le_refl _) (by simp [World.setCell]; omega)
          · have h9 := HSM.out
            exact AL.set (AL.set HALM.out (by omega)) (by omega)
end Go.Proofs.YtaokclhcmgbgnaaGreat
