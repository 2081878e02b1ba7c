/- spec.PlaceDisk. -/
import Derived.Test.YtaokclhcmgbgnaaGreatQPcs
import Derived.Test.YtaokclhcmgbgnaaGreatQDg
namespace Go.Proofs.YtaokclhcmgbgnaaGreat
open Go.RowKit Go.Deep
set_option linter.unusedVariables false
set_option maxRecDepth 20000

theorem AL.stepX {base G C g' cap' : Nat} {w1 w2 : World} {v : Value} {k : Nat} {P T : Nat → Int} {L : Nat → Nat} {Z : Nat → Nat → Int} {o : Obj} {g c : Nat → Nat} (hj : ∀ i j, i < k → j < k → g i = g j → i = j)
    (hc : ∀ i, i < k → base ≤ g i ∧ g i < w1.heap.size ∧ v.ownBlock ≠ some (g i) ∧ Row1 w1 (g i) 0 (L i) (Z i) ∧ L i ≤ c i)
    (hG0 : base ≤ G) (hG1 : G < w1.heap.size) (hG2 : v.ownBlock ≠ some G) (hne : ∀ i, i < k → g i ≠ G) (hr : Row1 w1 G 0 (L k) (Z k)) (hC : L k ≤ C)
    (ho : w2.ownsRow base 136 3 (.slice (some ⟨g', 0, none⟩) (k + 1) cap') (k + 1) (llv P T g L c k ++ lv3 (P k) (T k) G (L k) C))
    (hg : (w1.alloc o).grownBy w2 v.ownBlock) (hl : v.ownBlock = some g' ∨ g' = w1.heap.size + 1) :
    (w2.ownsRow base 136 3 (.slice (some ⟨g', 0, none⟩) (k + 1) cap') (k + 1) (llv P T (fun i => if i < k then g i else G) L (fun i => if i < k then c i else C) (k + 1)) ∧ (∀ i j, i < k + 1 → j < k + 1 → (if i < k then g i else G) = (if j < k then g j else G) → i = j) ∧
    ∀ i, i < k + 1 → base ≤ (if i < k then g i else G) ∧ (if i < k then g i else G) < w2.heap.size ∧ (Value.slice (some ⟨g', 0, none⟩) (k + 1) cap').ownBlock ≠ some (if i < k then g i else G) ∧ Row1 w2 (if i < k then g i else G) 0 (L i) (Z i) ∧ L i ≤ (if i < k then c i else C)) := by
  have hsz : w1.heap.size + 1 ≤ w2.heap.size := by have := hg.size; rw [World.size_alloc] at this; exact this
  have keep : ∀ q, q < w1.heap.size → v.ownBlock ≠ some q → w2.heap[q]? = w1.heap[q]? := fun q hq hv => (hg.block q (by rw [World.size_alloc]; omega) (fun e => hv e.symm)).trans (Below.heap_alloc _ _ _ hq)
  have far : ∀ q, q < w1.heap.size → v.ownBlock ≠ some q → (Value.slice (some ⟨g', 0, none⟩) (k + 1) cap').ownBlock ≠ some q := fun q hq hv e => by
    simp only [Value.ownBlock, Option.some.injEq] at e
    rcases hl with hl | hl
    · exact hv (by rw [hl, e])
    · omega
  refine ⟨?_, fun i j hi hj' e => ?_, fun i hi => ?_⟩
  · simp only [llv, Nat.lt_irrefl, if_false]
    rw [llv_congr (P' := P) (T' := T) (g' := g) (L' := L) (c' := c) (fun _ _ => rfl) (fun _ _ => rfl) (fun i hi => by simp [hi]) (fun _ _ => rfl) (fun i hi => by simp [hi])]
    exact ho
  · by_cases c1 : i < k <;> by_cases c2 : j < k <;> simp only [c1, c2, if_true, if_false] at e
    · exact hj i j c1 c2 e
    · exact absurd e (hne i c1)
    · exact absurd e.symm (hne j c2)
    · omega
  · by_cases c1 : i < k
    · simp only [c1, if_true]
      obtain ⟨h1, h2, h3, h4, h5⟩ := hc i c1
      exact ⟨h1, by omega, far _ h2 h3, h4.block (keep _ h2 h3), h5⟩
    · have : i = k := by omega
      subst this
      simp only [Nat.lt_irrefl, if_false]
      exact ⟨hG0, by omega, far _ hG1 hG2, hr.block (keep _ hG1 hG2), hC⟩
/-- Loose writes that were appended, and a block apart from them. -/
def ALx (Q base : Nat) (wr : World) (v : Value) (k : Nat) (P T : Nat → Int) (L : Nat → Nat) (Z : Nat → Nat → Int) : Prop :=
  ∃ g c : Nat → Nat, wr.ownsRow base 136 3 v k (llv P T g L c k) ∧ (∀ i j, i < k → j < k → g i = g j → i = j) ∧
    (∀ i, i < k → base ≤ g i ∧ g i < wr.heap.size ∧ v.ownBlock ≠ some (g i) ∧ Row1 wr (g i) 0 (L i) (Z i) ∧ L i ≤ c i) ∧ (∀ i, i < k → g i ≠ Q) ∧ v.ownBlock ≠ some Q ∧ Q < wr.heap.size
theorem ALx.al {Q base : Nat} {wr : World} {v : Value} {k : Nat} {P T : Nat → Int} {L : Nat → Nat} {Z : Nat → Nat → Int} (h : ALx Q base wr v k P T L Z) : AL base wr v k P T L Z := by
  obtain ⟨g, c, h1, h2, h3, _⟩ := h
  exact ⟨g, c, h1, h2, h3⟩
theorem ALx.set {Q base p : Nat} {w : World} {v x : Value} {k : Nat} {P T : Nat → Int} {L : Nat → Nat} {Z : Nat → Nat → Int} (h : ALx Q base w v k P T L Z) : ALx Q base (w.setCell ⟨Q, p, none⟩ x) v k P T L Z := by
  obtain ⟨g, c, ho, hj, hc, hq, hv, hl⟩ := h
  have hw : Writes Q (Q + 1) w (w.setCell ⟨Q, p, none⟩ x) := Writes.setCell (Writes.refl _ _ _) (p := ⟨Q, p, none⟩) (Nat.le_refl _) (by show Q < Q + 1; omega) x
  refine ⟨g, c, ?_, hj, fun i hi => ?_, hq, hv, Nat.lt_of_lt_of_le hl hw.size⟩
  · exact ho.kept (row := some Q) ⟨hw.os, hw.tape, hw.output, hw.size, fun z hz hne => hw.block z hz (by simp at hne; omega)⟩ (.inr hv)
  · obtain ⟨h1, h2, h3, h4, h5⟩ := hc i hi
    have := hq i hi
    exact ⟨h1, Nat.lt_of_lt_of_le h2 hw.size, h3, h4.block (hw.block _ h2 (by omega)), h5⟩
/-- One round of the pieces' loop. -/
theorem roundX {wr w1 w2 : World} {Q B j G C g2 c2 : Nat} {v : Value} {P T : Nat → Int} {Y : Nat → Nat → Int} {g c : Nat → Nat} {o o2 : Obj} (hB : B ≤ wr.heap.size) (hj : ∀ x y, x < j → y < j → g x = g y → x = y)
    (hcc : ∀ i, i < j → B ≤ g i ∧ g i < wr.heap.size ∧ v.ownBlock ≠ some (g i) ∧ Row1 wr (g i) 0 16 (Y i) ∧ 16 ≤ c i) (hown : wr.ownsRow B 136 3 v j (llv P T g (fun _ => 16) c j)) (hgq : ∀ i, i < j → g i ≠ Q) (hvq : v.ownBlock ≠ some Q) (hQ : Q < wr.heap.size)
    (hown1 : w1.ownsRow wr.heap.size 5 1 (.slice (some ⟨G, 0, none⟩) 16 C) 16 (bvs (Y j) 16)) (hG : G < w1.heap.size) (hg1 : (wr.alloc o).drew.grownBy w1 (some wr.heap.size))
    (hown2 : w2.ownsRow B 136 3 (.slice (some ⟨g2, 0, none⟩) (j + 1) c2) (j + 1) (llv P T g (fun _ => 16) c j ++ lv3 (P j) (T j) G 16 C)) (hg2 : (w1.alloc o2).grownBy w2 v.ownBlock) (hat2 : v.ownBlock = some g2 ∨ g2 = w1.heap.size + 1) (x : Value) :
    ALx Q B (w2.setCell ⟨Q, 1, none⟩ x) (.slice (some ⟨g2, 0, none⟩) (j + 1) c2) (j + 1) P T (fun _ => 16) Y ∧ (∀ z, z < wr.heap.size → v.ownBlock ≠ some z → w2.heap[z]? = wr.heap[z]?) ∧ Below B wr w2 := by
  have hs1 : wr.heap.size + 1 ≤ w1.heap.size := by have := hg1.size; rw [drew_size] at this; exact this
  have blk : ∀ z, z < wr.heap.size → w1.heap[z]? = wr.heap[z]? := fun z hz => (hg1.block z (by rw [drew_size]; omega) (fun e => by simp at e; omega)).trans (Below.heap_alloc _ _ _ hz)
  have hGb : wr.heap.size ≤ G := (hown1.lt G rfl).1
  obtain ⟨hr1, hC1⟩ := row_own hown1
  have hs2 : w1.heap.size + 1 ≤ w2.heap.size := by have := hg2.size; rw [World.size_alloc] at this; exact this
  have hst := AL.stepX (w1 := w1) hj (fun i hi => ?_) (by omega : B ≤ G) hG (fun e => by have := (hown.lt G e).2; omega) (fun i hi => by have := (hcc i hi).2.1; omega) hr1 hC1 hown2 hg2 hat2
  · refine ⟨ALx.set ⟨_, _, hst.1, hst.2.1, hst.2.2, fun i hi => ?_, fun e => ?_, by omega⟩, fun z hz hv => ?_, ?_⟩
    · by_cases c1 : i < j
      · rw [if_pos c1]; exact hgq i c1
      · rw [if_neg c1]; omega
    · simp only [Value.ownBlock, Option.some.injEq] at e
      rcases hat2 with h | h
      · exact hvq (by rw [h, e])
      · omega
    · exact (hg2.block z (by rw [World.size_alloc]; omega) (fun e => hv e.symm)).trans ((Below.heap_alloc _ _ _ (by omega)).trans (blk z hz))
    · have b1 : Below B wr (wr.alloc o).drew := ((Below.refl B wr).alloc hB o).drew
      have b2 : Below B (wr.alloc o).drew w1 := below_grown hg1 (by rw [drew_size]; omega) (fun z e => by simp at e; omega)
      have b3 : Below B w1 (w1.alloc o2) := (Below.refl B w1).alloc (by omega) o2
      have b4 : Below B (w1.alloc o2) w2 := below_grown hg2 (by rw [World.size_alloc]; omega) (fun z e => (hown.lt z e).1)
      exact ((b1.trans b2).trans b3).trans b4
  · obtain ⟨h1, h2, h3, h4, h5⟩ := hcc i hi
    exact ⟨h1, by omega, h3, h4.block (blk _ h2), h5⟩
/-- A disk all of whose blocks lie from lo on, below hi. -/
def OwnR (w : World) (lo hi : Nat) (a a' : Option Addr) (D : Dk) : Prop := OwnP w lo hi a D.n D.L D.Z ∧ OwnL w lo hi a' D.m D.P D.T D.M D.Y
theorem OwnR.at {w : World} {lo hi : Nat} {a a' : Option Addr} {D : Dk} (h : OwnR w lo hi a a' D) : DiskAt w a a' D := ⟨h.1.at, h.2.at⟩
end Go.Proofs.YtaokclhcmgbgnaaGreat
