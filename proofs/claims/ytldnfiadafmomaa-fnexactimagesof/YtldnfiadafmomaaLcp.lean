/- spec.l2Copy: a copy of a disk without a fault. -/
import Derived.Test.YtldnfiadafmomaaLal
namespace Go.Proofs.Ytldnfiadafmomaa
open Go.RowKit Go.Deep
set_option linter.unusedVariables false
set_option maxRecDepth 20000

theorem grow_cells {W w1 : World} {q : Nat} {row : Option Nat} (hg : W.grownBy w1 row) (hq : q ≤ W.heap.size) (hr : ∀ k, row = some k → q ≤ k) {b o : Nat} {v : Value} (hb : b < q) (h : W.cell? ⟨b, o, none⟩ = some v) : w1.cell? ⟨b, o, none⟩ = some v :=
  hg.cell h (fun e => by have := hr b e.symm; omega)
theorem grow_frozen {W w1 : World} {q : Nat} {row : Option Nat} (hg : W.grownBy w1 row) (hq : q ≤ W.heap.size) (hr : ∀ k, row = some k → q ≤ k) {b o : Nat} (hb : b < q) (h : W.frozen? ⟨b, o, none⟩ = false) : w1.frozen? ⟨b, o, none⟩ = false :=
  (World.frozen?_of_block (hg.block b (by omega) (fun e => by have := hr b e.symm; omega))).trans h
theorem below_grown {W w1 : World} {q : Nat} {row : Option Nat} (hg : W.grownBy w1 row) (hq : q ≤ W.heap.size) (hr : ∀ k, row = some k → q ≤ k) : Below q W w1 :=
  ⟨hg.os, hg.tape, hg.output, hg.size, fun k hk => hg.block k (by omega) (fun e => by have := hr k e.symm; omega)⟩
/-- Behind the first append of a round: what lay there lies there. -/
theorem after1 {wr w1 : World} {o : Obj} {b0 b1 b2 o0 o1 o2 : Nat} {x0 x1 x2 : Value} (hg : (wr.alloc o).drew.grownBy w1 (some wr.heap.size)) (h0 : wr.cell? ⟨b0, o0, none⟩ = some x0) (h1 : wr.cell? ⟨b1, o1, none⟩ = some x1) (h2 : wr.cell? ⟨b2, o2, none⟩ = some x2) (hf : wr.frozen? ⟨b1, o1, none⟩ = false) :
    (w1.cell? ⟨b0, o0, none⟩ = some x0 ∧ w1.cell? ⟨b1, o1, none⟩ = some x1 ∧ w1.cell? ⟨b2, o2, none⟩ = some x2 ∧ w1.frozen? ⟨b1, o1, none⟩ = false) ∧
    ((∀ o : Obj, (w1.alloc o).cell? ⟨b0, o0, none⟩ = some x0) ∧ (∀ o : Obj, (w1.alloc o).cell? ⟨b1, o1, none⟩ = some x1) ∧ (∀ o : Obj, (w1.alloc o).cell? ⟨b2, o2, none⟩ = some x2) ∧ (∀ o : Obj, (w1.alloc o).frozen? ⟨b1, o1, none⟩ = false)) := by
  have hr : ∀ k, some wr.heap.size = some k → wr.heap.size ≤ k := fun k e => by simp at e; omega
  have hq : wr.heap.size ≤ (wr.alloc o).drew.heap.size := by show wr.heap.size ≤ (wr.alloc o).heap.size; rw [World.size_alloc]; omega
  have l0 := Go.block_lt_of_cell h0
  have l1 := Go.block_lt_of_cell h1
  have l2 := Go.block_lt_of_cell h2
  have k0 := grow_cells hg hq hr l0 (show (wr.alloc o).cell? _ = _ from cell_alloc h0 o)
  have k1 := grow_cells hg hq hr l1 (show (wr.alloc o).cell? _ = _ from cell_alloc h1 o)
  have k2 := grow_cells hg hq hr l2 (show (wr.alloc o).cell? _ = _ from cell_alloc h2 o)
  have k3 := grow_frozen hg hq hr l1 (show (wr.alloc o).frozen? _ = _ by rw [World.frozen?_alloc_past _ _ _ l1]; exact hf)
  refine ⟨⟨k0, k1, k2, k3⟩, fun o => cell_alloc k0 o, fun o => cell_alloc k1 o, fun o => cell_alloc k2 o, fun o => ?_⟩
  rw [World.frozen?_alloc_past _ _ _ (Go.block_lt_of_cell k1)]; exact k3
theorem row_own {w : World} {g base n cap : Nat} {z : Nat → Int} (h : w.ownsRow base 5 1 (.slice (some ⟨g, 0, none⟩) n cap) n (bvs z n)) : Row1 w g 0 n z ∧ n ≤ cap := by
  refine ⟨⟨fun i hi => ?_, fun i hi => h.frozenAt _⟩, ?_⟩
  · rw [Nat.zero_add, h.cellAt i (by omega)]; simp [bvs, hi]
  · rcases h.2 with ⟨e, _⟩ | ⟨_, _, _, e, _, _, h9, _⟩
    · cases e
    · simp at e; omega
theorem news_of {w : World} {pb po : Nat} {z : Nat → Int} {o : Obj} (h : ∀ i, i < 48 → w.cell? ⟨pb, po + i, none⟩ = some (.int .u8 (z i))) : ∀ j u, (bvs z 48)[j]? = some u → (w.alloc o).drew.cell? ((⟨pb, po, none⟩ : Addr).add j) = some u := fun j u hu => by
  obtain ⟨hj, rfl⟩ := bvs_get _ _ _ _ hu
  rw [Addr.add_mid]
  exact cell_alloc (h j hj) o
theorem al_le (w : World) (o : Obj) : w.heap.size ≤ (w.alloc o).drew.heap.size := by show w.heap.size ≤ (w.alloc o).heap.size; rw [World.size_alloc]; omega
theorem one_sl {a : Option Addr} {n c : Nat} (u : Value) : u ∈ [Value.slice a n c] → u.oneCell' = true := fun hu => by simp at hu; subst hu; rfl
theorem le_max8 {k n : Nat} (h : k < n) (hn : n ≤ 8) : k + 1 ≤ maxLen := by unfold maxLen; omega
theorem le_by8 {k n : Nat} (h : k < n) (hn : n ≤ 8) : (k + 1) * 24 ≤ 140737488355328 := by omega
theorem le_al3 {wr w1 : World} {q : Nat} {o o2 : Obj} {row : Option Nat} (h : q ≤ wr.heap.size) (hg : (wr.alloc o).drew.grownBy w1 row) : q ≤ (w1.alloc o2).heap.size := by
  have := hg.size
  have h2 : (wr.alloc o).drew.heap.size = wr.heap.size + 1 := World.size_alloc _ _
  rw [World.size_alloc]; omega
theorem own_after {wr w1 : World} {B n s : Nat} {e : TypeId} {v : Value} {xs : List Value} {o o2 : Obj} (h : wr.ownsRow B e s v n xs) (hg : (wr.alloc o).drew.grownBy w1 (some wr.heap.size)) : (w1.alloc o2).ownsRow B e s v n xs := by
  refine World.ownsRow.alloc ?_ o2
  refine World.ownsRow.kept (w := (wr.alloc o).drew) (h.alloc o) hg ?_
  cases hv : v.ownBlock with
  | none => exact .inl rfl
  | some q => exact .inr (fun e => by have := (h.lt q hv).2; simp at e; omega)
theorem after2 {wr w1 w2 : World} {B n s q p : Nat} {e : TypeId} {v x : Value} {xs : List Value} {o o2 : Obj} (hB : B ≤ wr.heap.size) (hg : (wr.alloc o).drew.grownBy w1 (some wr.heap.size)) (h : wr.ownsRow B e s v n xs) (hg2 : (w1.alloc o2).grownBy w2 v.ownBlock)
    (hc : w1.cell? ⟨q, p, none⟩ = some x) (hf : w1.frozen? ⟨q, p, none⟩ = false) (hq : q < B) : w2.cell? ⟨q, p, none⟩ = some x ∧ w2.frozen? ⟨q, p, none⟩ = false := by
  have hr : ∀ k, v.ownBlock = some k → B ≤ k := fun k hk => (h.lt k hk).1
  have hle : B ≤ (w1.alloc o2).heap.size := le_al3 hB hg
  refine ⟨grow_cells hg2 hle hr hq (cell_alloc hc o2), grow_frozen hg2 hle hr hq ?_⟩
  rw [World.frozen?_alloc_past _ _ _ (Go.block_lt_of_cell hc)]; exact hf
/-- Three blocks of two cells each, from w's end on. -/
structure Fr3 (w wr : World) (x0 x1 y0 y1 p0 p1 : Value) : Prop where
  x : Box2 wr w.heap.size x0 x1
  y : Box2 wr (w.heap.size + 1) y0 y1
  p : Box2 wr (w.heap.size + 1 + 1) p0 p1
  fy : ∀ j, wr.frozen? ⟨w.heap.size + 1, j, none⟩ = false
  fp : ∀ j, wr.frozen? ⟨w.heap.size + 1 + 1, j, none⟩ = false
theorem Fr3.below {w wr w2 : World} {x0 x1 y0 y1 p0 p1 : Value} (h : Fr3 w wr x0 x1 y0 y1 p0 p1) (hb : Below (w.heap.size + 3) wr w2) : Fr3 w w2 x0 x1 y0 y1 p0 p1 := by
  have hc : ∀ b o v, b < w.heap.size + 3 → wr.cell? ⟨b, o, none⟩ = some v → w2.cell? ⟨b, o, none⟩ = some v := fun b o v hlt h => (hb.cell (p := ⟨b, o, none⟩) hlt).trans h
  have hf : ∀ b o, b < w.heap.size + 3 → wr.frozen? ⟨b, o, none⟩ = false → w2.frozen? ⟨b, o, none⟩ = false := fun b o hlt h => (hb.frozen (p := ⟨b, o, none⟩) hlt).trans h
  exact ⟨⟨hc _ _ _ (by omega) h.x.1, hc _ _ _ (by omega) h.x.2⟩, ⟨hc _ _ _ (by omega) h.y.1, hc _ _ _ (by omega) h.y.2⟩, ⟨hc _ _ _ (by omega) h.p.1, hc _ _ _ (by omega) h.p.2⟩, fun j => hf _ _ (by omega) (h.fy j), fun j => hf _ _ (by omega) (h.fp j)⟩
theorem Fr3.new (w : World) (x0 x1 y0 y1 p0 p1 : Value) (t1 t2 t3 : TypeId) : Fr3 w (((w.alloc (.cells #[x0, x1] t1)).alloc (.cells #[y0, y1] t2)).alloc (.cells #[p0, p1] t3)) x0 x1 y0 y1 p0 p1 := by
  have e1 : (w.alloc (.cells #[x0, x1] t1)).heap.size = w.heap.size + 1 := World.size_alloc _ _
  have e2 : ((w.alloc (.cells #[x0, x1] t1)).alloc (.cells #[y0, y1] t2)).heap.size = w.heap.size + 1 + 1 := by rw [World.size_alloc, e1]
  have k1 := Box2.new w x0 x1 t1
  have k2 := Box2.new (w.alloc (.cells #[x0, x1] t1)) y0 y1 t2
  have k3 := Box2.new ((w.alloc (.cells #[x0, x1] t1)).alloc (.cells #[y0, y1] t2)) p0 p1 t3
  rw [e1] at k2
  rw [e2] at k3
  refine ⟨(k1.alloc _).alloc _, k2.alloc _, k3, fun j => ?_, fun j => ?_⟩
  · rw [World.frozen?_alloc_past _ _ _ (by rw [e2]; show w.heap.size + 1 < w.heap.size + 1 + 1; omega)]
    exact frozen_block (blk_last2 w (.cells #[x0, x1] t1) (.cells #[y0, y1] t2))
  · have h := heap_alloc_last ((w.alloc (.cells #[x0, x1] t1)).alloc (.cells #[y0, y1] t2)) (.cells #[p0, p1] t3)
    rw [e2] at h
    exact frozen_block h
theorem setB {w : World} {b b' o o' : Nat} {v : Value} (h : b ≠ b') : (w.setCell ⟨b, o, none⟩ v).cell? ⟨b', o', none⟩ = w.cell? ⟨b', o', none⟩ := World.cell?_setCell_other _ _ _ _ (by intro e; exact h (congrArg Addr.block e))
theorem Fr3.set0 {w wr : World} {x0 x1 y0 y1 p0 p1 : Value} (h : Fr3 w wr x0 x1 y0 y1 p0 p1) (v : Value) : Fr3 w (wr.setCell ⟨w.heap.size + 1 + 1, 0, none⟩ v) x0 x1 y0 y1 v p1 :=
  ⟨⟨by rw [setB (by omega)]; exact h.x.1, by rw [setB (by omega)]; exact h.x.2⟩, ⟨by rw [setB (by omega)]; exact h.y.1, by rw [setB (by omega)]; exact h.y.2⟩, ⟨setS h.p.1, by rw [setO (by omega)]; exact h.p.2⟩, fun j => by rw [World.frozen?_setCell]; exact h.fy j, fun j => by rw [World.frozen?_setCell]; exact h.fp j⟩
theorem Fr3.set1 {w wr : World} {x0 x1 y0 y1 p0 p1 : Value} (h : Fr3 w wr x0 x1 y0 y1 p0 p1) (v : Value) : Fr3 w (wr.setCell ⟨w.heap.size + 1 + 1, 1, none⟩ v) x0 x1 y0 y1 p0 v :=
  ⟨⟨by rw [setB (by omega)]; exact h.x.1, by rw [setB (by omega)]; exact h.x.2⟩, ⟨by rw [setB (by omega)]; exact h.y.1, by rw [setB (by omega)]; exact h.y.2⟩, ⟨by rw [setO (by omega)]; exact h.p.1, setS h.p.2⟩, fun j => by rw [World.frozen?_setCell]; exact h.fy j, fun j => by rw [World.frozen?_setCell]; exact h.fp j⟩
theorem AP.set {base q p : Nat} {w : World} {v x : Value} {k : Nat} {L : Nat → Nat} {Z : Nat → Nat → Int} (h : AP base w v k L Z) (hq : q < base) : AP base (w.setCell ⟨q, p, none⟩ x) v k L Z := by
  obtain ⟨g, c, ho, hj, hc⟩ := h
  have hw : Writes q (q + 1) w (w.setCell ⟨q, p, none⟩ x) := Writes.setCell (Writes.refl _ _ _) (p := ⟨q, p, none⟩) (Nat.le_refl _) (by show q < q + 1; omega) x
  refine ⟨g, c, ?_, hj, fun i hi => ?_⟩
  · refine ho.kept (row := some q) ⟨hw.os, hw.tape, hw.output, hw.size, fun z hz hne => hw.block z hz (by simp at hne; omega)⟩ ?_
    cases hv : v.ownBlock with
    | none => exact .inl rfl
    | some z => exact .inr (fun e => by have := (ho.lt z hv).1; simp at e; omega)
  · obtain ⟨h1, h2, h3, h4, h5⟩ := hc i hi
    exact ⟨h1, Nat.lt_of_lt_of_le h2 hw.size, h3, h4.block (hw.block _ h2 (by omega)), h5⟩
theorem drew_size (w : World) (o : Obj) : (w.alloc o).drew.heap.size = w.heap.size + 1 := World.size_alloc _ _
/-- One round of the pages' loop. -/
theorem l2round {wr w1 w2 : World} {B k G C g2 c2 q : Nat} {v : Value} {Z : Nat → Nat → Int} {g c : Nat → Nat} {o o2 : Obj} (hB : B ≤ wr.heap.size) (hj : ∀ i j, i < k → j < k → g i = g j → i = j)
    (hcc : ∀ i, i < k → B ≤ g i ∧ g i < wr.heap.size ∧ v.ownBlock ≠ some (g i) ∧ Row1 wr (g i) 0 48 (Z i) ∧ 48 ≤ c i) (hown : wr.ownsRow B 55 1 v k (slv g (fun _ => 48) c k))
    (hown1 : w1.ownsRow wr.heap.size 5 1 (.slice (some ⟨G, 0, none⟩) 48 C) 48 (bvs (Z k) 48)) (hG : G < w1.heap.size) (hg1 : (wr.alloc o).drew.grownBy w1 (some wr.heap.size))
    (hown2 : w2.ownsRow B 55 1 (.slice (some ⟨g2, 0, none⟩) (k + 1) c2) (k + 1) (slv g (fun _ => 48) c k ++ [.slice (some ⟨G, 0, none⟩) 48 C])) (hg2 : (w1.alloc o2).grownBy w2 v.ownBlock) (hat2 : v.ownBlock = some g2 ∨ g2 = w1.heap.size + 1) (hq : q < B) (x : Value) :
    AP B (w2.setCell ⟨q, 0, none⟩ x) (.slice (some ⟨g2, 0, none⟩) (k + 1) c2) (k + 1) (fun _ => 48) Z ∧ Below B wr w2 := by
  have hs1 : wr.heap.size + 1 ≤ w1.heap.size := by have := hg1.size; rw [drew_size] at this; exact this
  have blk : ∀ z, z < wr.heap.size → w1.heap[z]? = wr.heap[z]? := fun z hz => (hg1.block z (by rw [drew_size]; omega) (fun e => by simp at e; omega)).trans (Below.heap_alloc _ _ _ hz)
  have hGb : wr.heap.size ≤ G := (hown1.lt G rfl).1
  obtain ⟨hr1, hC1⟩ := row_own hown1
  refine ⟨AP.set (AP.step hj (fun i hi => ?_) (by omega) hG (fun e => by have := (hown.lt G e).2; omega) (fun i hi => by have := (hcc i hi).2.1; omega) hr1 hC1 hown2 hg2 hat2) hq, ?_⟩
  · obtain ⟨h1, h2, h3, h4, h5⟩ := hcc i hi
    exact ⟨h1, by omega, h3, h4.block (blk _ h2), h5⟩
  · have b1 : Below B wr (wr.alloc o).drew := ((Below.refl B wr).alloc hB o).drew
    have b2 : Below B (wr.alloc o).drew w1 := below_grown hg1 (by rw [drew_size]; omega) (fun z e => by simp at e; omega)
    have b3 : Below B w1 (w1.alloc o2) := (Below.refl B w1).alloc (by omega) o2
    have b4 : Below B (w1.alloc o2) w2 := below_grown hg2 (by rw [World.size_alloc]; omega) (fun z e => (hown.lt z e).1)
    exact ((b1.trans b2).trans b3).trans b4
/-- One round of the loose writes' loop. -/
theorem l2roundL {wr w1 w2 : World} {B j G C g2 c2 : Nat} {v : Value} {P T : Nat → Int} {Y : Nat → Nat → Int} {g c : Nat → Nat} {o o1 o2 : Obj} {x : Value} (hB : B ≤ wr.heap.size) (hj : ∀ x y, x < j → y < j → g x = g y → x = y)
    (hcc : ∀ i, i < j → B ≤ g i ∧ g i < wr.heap.size ∧ v.ownBlock ≠ some (g i) ∧ Row1 wr (g i) 0 16 (Y i) ∧ 16 ≤ c i) (hown : wr.ownsRow B 60 3 v j (llv P T g (fun _ => 16) c j))
    (hown1 : w1.ownsRow (wr.heap.size + 1) 5 1 (.slice (some ⟨G, 0, none⟩) 16 C) 16 (bvs (Y j) 16)) (hG : G < w1.heap.size) (hg1 : ((wr.alloc o).alloc o1).grownBy w1 (some (wr.heap.size + 1)))
    (hown2 : w2.ownsRow B 60 3 (.slice (some ⟨g2, 0, none⟩) (j + 1) c2) (j + 1) (llv P T g (fun _ => 16) c j ++ lv3 (P j) (T j) G 16 C)) (hg2 : ((w1.setCell ⟨wr.heap.size, 2, none⟩ x).alloc o2).grownBy w2 v.ownBlock) (hat2 : v.ownBlock = some g2 ∨ g2 = w1.heap.size + 1) :
    AL B w2 (.slice (some ⟨g2, 0, none⟩) (j + 1) c2) (j + 1) P T (fun _ => 16) Y ∧ Below B wr w2 := by
  have e2 : ((wr.alloc o).alloc o1).heap.size = wr.heap.size + 1 + 1 := by rw [World.size_alloc, World.size_alloc]
  have hs1 : wr.heap.size + 1 + 1 ≤ w1.heap.size := by have := hg1.size; rw [e2] at this; exact this
  have es : (w1.setCell ⟨wr.heap.size, 2, none⟩ x).heap.size = w1.heap.size := by simp [World.setCell]
  have blk0 : ∀ z, z < wr.heap.size → ((wr.alloc o).alloc o1).heap[z]? = wr.heap[z]? := fun z hz => (Below.heap_alloc _ _ _ (by rw [World.size_alloc]; omega)).trans (Below.heap_alloc _ _ _ hz)
  have blk : ∀ z, z < wr.heap.size → (w1.setCell ⟨wr.heap.size, 2, none⟩ x).heap[z]? = wr.heap[z]? := fun z hz => by
    rw [blk_setCell_other _ _ _ _ (by show z ≠ wr.heap.size; omega)]
    exact (hg1.block z (by rw [e2]; omega) (fun e => by simp at e; omega)).trans (blk0 z hz)
  have hGb : wr.heap.size + 1 ≤ G := (hown1.lt G rfl).1
  obtain ⟨hr1, hC1⟩ := row_own hown1
  refine ⟨AL.step (w1 := w1.setCell ⟨wr.heap.size, 2, none⟩ x) hj (fun i hi => ?_) (by omega) (by rw [es]; exact hG) (fun e => by have := (hown.lt G e).2; omega) (fun i hi => by have := (hcc i hi).2.1; omega) (hr1.block (blk_setCell_other _ _ _ _ (by show G ≠ wr.heap.size; omega))) hC1 hown2 hg2 (by rw [es]; exact hat2), ?_⟩
  · obtain ⟨h1, h2, h3, h4, h5⟩ := hcc i hi
    exact ⟨h1, by rw [es]; omega, h3, h4.block (blk _ h2), h5⟩
  · have b1 : Below B wr ((wr.alloc o).alloc o1) := ((Below.refl B wr).alloc hB o).alloc (by rw [World.size_alloc]; omega) o1
    have b2 : Below B ((wr.alloc o).alloc o1) w1 := below_grown hg1 (by rw [e2]; omega) (fun z e => by simp at e; omega)
    have b3 : Below B w1 ((w1.setCell ⟨wr.heap.size, 2, none⟩ x).alloc o2) := ((Below.refl B w1).setCell (p := ⟨wr.heap.size, 2, none⟩) hB x).alloc (by rw [es]; omega) o2
    have b4 : Below B ((w1.setCell ⟨wr.heap.size, 2, none⟩ x).alloc o2) w2 := below_grown hg2 (by rw [World.size_alloc, es]; omega) (fun z e => (hown.lt z e).1)
    exact ((b1.trans b2).trans b3).trans b4
/-- Behind the append of the bytes: what lay there lies there, behind the store into the box too. -/
theorem after3 {wr w1 : World} {b q : Nat} {x0 x1 x2 v : Value} {o1 : Obj} {t : TypeId} (hg : ((wr.alloc (.cells #[x0, x1, x2] t)).alloc o1).grownBy w1 (some (wr.heap.size + 1))) (hc : wr.cell? ⟨b, q, none⟩ = some v) (hf : wr.frozen? ⟨b, q, none⟩ = false) :
    (w1.cell? ⟨wr.heap.size, 0, none⟩ = some x0 ∧ w1.cell? ⟨wr.heap.size, 1, none⟩ = some x1 ∧ w1.cell? ⟨wr.heap.size, 2, none⟩ = some x2 ∧ w1.frozen? ⟨wr.heap.size, 2, none⟩ = false) ∧ (w1.cell? ⟨b, q, none⟩ = some v ∧ w1.frozen? ⟨b, q, none⟩ = false) ∧
      (b ≠ wr.heap.size ∧ b < w1.heap.size ∧ wr.heap.size < w1.heap.size) := by
  have e2 : ((wr.alloc (.cells #[x0, x1, x2] t)).alloc o1).heap.size = wr.heap.size + 1 + 1 := by rw [World.size_alloc, World.size_alloc]
  have hr : ∀ k, some (wr.heap.size + 1) = some k → wr.heap.size + 1 ≤ k := fun k e => by simp at e; omega
  have hq : wr.heap.size + 1 ≤ ((wr.alloc (.cells #[x0, x1, x2] t)).alloc o1).heap.size := by rw [e2]; omega
  have lb : b < wr.heap.size := Go.block_lt_of_cell hc
  have bx := (Box3.new wr x0 x1 x2 t).alloc o1
  have fz : ((wr.alloc (.cells #[x0, x1, x2] t)).alloc o1).frozen? ⟨wr.heap.size, 2, none⟩ = false := by
    rw [World.frozen?_alloc_past _ _ _ (by rw [World.size_alloc]; show wr.heap.size < wr.heap.size + 1; omega)]
    exact frozen_block (heap_alloc_last _ _)
  have hs := hg.size
  rw [e2] at hs
  refine ⟨⟨grow_cells hg hq hr (by omega) bx.1, grow_cells hg hq hr (by omega) bx.2.1, grow_cells hg hq hr (by omega) bx.2.2, grow_frozen hg hq hr (by omega) fz⟩, ⟨grow_cells hg hq hr (by show b < _; omega) (cell_alloc (cell_alloc hc _) _), grow_frozen hg hq hr (by show b < _; omega) ?_⟩, by omega, by omega, by omega⟩
  rw [World.frozen?_alloc_past _ _ _ (by rw [World.size_alloc]; show b < _; omega), World.frozen?_alloc_past _ _ _ lb]; exact hf
theorem cell_set_alloc {w : World} {b q b' q' : Nat} {x v : Value} (hne : b' ≠ b) (h : w.cell? ⟨b', q', none⟩ = some v) (o : Obj) : ((w.setCell ⟨b, q, none⟩ x).alloc o).cell? ⟨b', q', none⟩ = some v :=
  cell_alloc ((setB (fun e => hne e.symm)).trans h) o
theorem own_set_alloc {wr w1 : World} {B n s : Nat} {e : TypeId} {v x : Value} {xs : List Value} {o o1 o2 : Obj} (h : wr.ownsRow B e s v n xs) (hg : ((wr.alloc o).alloc o1).grownBy w1 (some (wr.heap.size + 1))) : ((w1.setCell ⟨wr.heap.size, 2, none⟩ x).alloc o2).ownsRow B e s v n xs := by
  refine World.ownsRow.alloc ?_ o2
  have h1 : w1.ownsRow B e s v n xs := by
    refine World.ownsRow.kept ((h.alloc o).alloc o1) hg ?_
    cases hv : v.ownBlock with
    | none => exact .inl rfl
    | some q => exact .inr (fun e => by have := (h.lt q hv).2; simp at e; omega)
  have hw : Writes wr.heap.size (wr.heap.size + 1) w1 (w1.setCell ⟨wr.heap.size, 2, none⟩ x) := Writes.setCell (Writes.refl _ _ _) (p := ⟨wr.heap.size, 2, none⟩) (Nat.le_refl _) (by show wr.heap.size < _; omega) x
  refine h1.kept (row := some wr.heap.size) ⟨hw.os, hw.tape, hw.output, hw.size, fun z hz hne => hw.block z hz (by simp at hne; omega)⟩ ?_
  cases hv : v.ownBlock with
  | none => exact .inl rfl
  | some q => exact .inr (fun e => by have := (h.lt q hv).2; simp at e; omega)
end Go.Proofs.Ytldnfiadafmomaa
