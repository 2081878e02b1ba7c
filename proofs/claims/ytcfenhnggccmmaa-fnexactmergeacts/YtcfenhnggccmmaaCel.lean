/- Slices of cells: what they hold, by the index; the laws' own helpers over them. -/
import Derived.Test.YtcfenhnggccmmaaBase
import Derived.Deep.RegionHeld3
namespace Go.Proofs.Ytcfenhnggccmmaa
open Go.RowKit Go.Deep

/-- What the j-th place of a row of cells holds. -/
def cv (K V : Nat → Int) (j : Nat) : Value := .int .i64 (if j % 2 = 0 then K (j / 2) else V (j / 2))
theorem cv_key (K V : Nat → Int) (i : Nat) : cv K V (i * 2) = .int .i64 (K i) := by unfold cv; rw [if_pos (by omega)]; congr 2; omega
theorem cv_val (K V : Nat → Int) (i : Nat) : cv K V (i * 2 + 1) = .int .i64 (V i) := by unfold cv; rw [if_neg (by omega)]; congr 2; omega

/-- The slice at 'a' has n cells: keys K, values V. -/
def CellsAt (w : World) (a : Option Addr) (n : Nat) (K V : Nat → Int) : Prop :=
  n = 0 ∨ ∃ b off, a = some ⟨b, off, none⟩ ∧ b < w.heap.size ∧ (∀ i, i < n → w.cell? ⟨b, off + i * 2, none⟩ = some (.int .i64 (K i))) ∧ (∀ i, i < n → w.cell? ⟨b, off + i * 2 + 1, none⟩ = some (.int .i64 (V i)))

/-- .. in a block from lo on, below hi, that may be written. -/
def Own (w : World) (lo hi : Nat) (a : Option Addr) (n : Nat) (K V : Nat → Int) : Prop :=
  hi ≤ w.heap.size ∧ (n = 0 ∨ ∃ b off, a = some ⟨b, off, none⟩ ∧ lo ≤ b ∧ b < hi ∧ (∀ i, i < n → w.cell? ⟨b, off + i * 2, none⟩ = some (.int .i64 (K i))) ∧ (∀ i, i < n → w.cell? ⟨b, off + i * 2 + 1, none⟩ = some (.int .i64 (V i))) ∧
    (∀ i, i < n → w.frozen? ⟨b, off + i * 2, none⟩ = false) ∧ (∀ i, i < n → w.frozen? ⟨b, off + i * 2 + 1, none⟩ = false))

/-- What was there is as it was but for blocks from lo on, below hi. -/
structure Writes (lo hi : Nat) (w w' : World) : Prop where
  os : w'.os = w.os
  tape : w'.tape = w.tape
  output : w'.output = w.output
  size : w.heap.size ≤ w'.heap.size
  block : ∀ k, k < w.heap.size → (k < lo ∨ hi ≤ k) → w'.heap[k]? = w.heap[k]?

theorem Writes.refl (lo hi : Nat) (w : World) : Writes lo hi w w := ⟨rfl, rfl, rfl, Nat.le_refl _, fun _ _ _ => rfl⟩
theorem Writes.trans {lo hi : Nat} {a b c : World} (h : Writes lo hi a b) (k : Writes lo hi b c) : Writes lo hi a c :=
  ⟨k.os.trans h.os, k.tape.trans h.tape, k.output.trans h.output, Nat.le_trans h.size k.size, fun i hi1 hi2 => (k.block i (Nat.lt_of_lt_of_le hi1 h.size) hi2).trans (h.block i hi1 hi2)⟩
theorem Writes.of_below {lo hi : Nat} {w w' : World} (h : Below w.heap.size w w') : Writes lo hi w w' := ⟨h.os, h.tape, h.output, h.size, fun k hk _ => h.block k hk⟩
theorem Writes.below {lo hi : Nat} {W w w' : World} (h0 : Below W.heap.size W w) (h : Writes lo hi w w') (hlo : W.heap.size ≤ lo) : Below W.heap.size W w' :=
  ⟨h.os.trans h0.os, h.tape.trans h0.tape, h.output.trans h0.output, Nat.le_trans h0.size h.size, fun k hk => (h.block k (Nat.lt_of_lt_of_le hk h0.size) (.inl (Nat.lt_of_lt_of_le hk hlo))).trans (h0.block k hk)⟩
theorem Writes.setCell {lo hi : Nat} {w w' : World} (h : Writes lo hi w w') {p : Addr} (h1 : lo ≤ p.block) (h2 : p.block < hi) (v : Value) : Writes lo hi w (w'.setCell p v) :=
  ⟨h.os, h.tape, h.output, by simpa [World.setCell] using h.size, fun k hk hk2 => (Below.heap_setCell _ _ _ _ (by omega)).trans (h.block k hk hk2)⟩
theorem Writes.alloc {lo hi : Nat} {w w' : World} (h : Writes lo hi w w') (o : Obj) : Writes lo hi w (w'.alloc o) :=
  ⟨h.os, h.tape, h.output, by have := h.size; simp; omega, fun k hk hk2 => (Below.heap_alloc _ _ _ (by have := h.size; omega)).trans (h.block k hk hk2)⟩
theorem Writes.cell {lo hi : Nat} {w w' : World} (h : Writes lo hi w w') {b : Nat} (h1 : b < w.heap.size) (h2 : b < lo ∨ hi ≤ b) (o : Nat) : w'.cell? ⟨b, o, none⟩ = w.cell? ⟨b, o, none⟩ :=
  World.cell?_of_block (w := w) (h.block b h1 h2)

theorem Own.at {w : World} {lo hi : Nat} {a : Option Addr} {n : Nat} {K V : Nat → Int} (h : Own w lo hi a n K V) : CellsAt w a n K V := by
  obtain ⟨h0, h1 | ⟨b, off, ha, _, hl, hk, hv, _, _⟩⟩ := h
  · exact .inl h1
  · exact .inr ⟨b, off, ha, by omega, hk, hv⟩
theorem CellsAt.writes {w w' : World} {a : Option Addr} {n : Nat} {K V : Nat → Int} {lo hi : Nat} (h : CellsAt w a n K V) (hw : Writes lo hi w w') (hlo : w.heap.size ≤ lo) : CellsAt w' a n K V := by
  rcases h with h | ⟨b, off, ha, hl, hk, hv⟩
  · exact .inl h
  · exact .inr ⟨b, off, ha, Nat.lt_of_lt_of_le hl hw.size, fun i hi => (hw.cell hl (.inl (by omega)) _).trans (hk i hi), fun i hi => (hw.cell hl (.inl (by omega)) _).trans (hv i hi)⟩
theorem CellsAt.below {w w' : World} {a : Option Addr} {n : Nat} {K V : Nat → Int} (h : CellsAt w a n K V) (hb : Below w.heap.size w w') : CellsAt w' a n K V :=
  h.writes (Writes.of_below (lo := w.heap.size) (hi := 0) hb) (Nat.le_refl _)
/-- .. whose block is none of those that were written. -/
theorem Own.writes {w w' : World} {lo hi lo' hi' : Nat} {a : Option Addr} {n : Nat} {K V : Nat → Int} (h : Own w lo hi a n K V) (hw : Writes lo' hi' w w') (hd : hi ≤ lo' ∨ hi' ≤ lo) : Own w' lo hi a n K V := by
  obtain ⟨h0, h1 | ⟨b, off, ha, h2, hl, hk, hv, hf, hg⟩⟩ := h
  · exact ⟨Nat.le_trans h0 hw.size, .inl h1⟩
  · have hb := hw.block b (by omega) (by omega)
    exact ⟨Nat.le_trans h0 hw.size, .inr ⟨b, off, ha, h2, hl, fun i hi => (World.cell?_of_block (w := w) (a := ⟨b, _, none⟩) hb).trans (hk i hi), fun i hi => (World.cell?_of_block (w := w) (a := ⟨b, _, none⟩) hb).trans (hv i hi),
      fun i hi => (World.frozen?_of_block (w := w) (a := ⟨b, _, none⟩) hb).trans (hf i hi), fun i hi => (World.frozen?_of_block (w := w) (a := ⟨b, _, none⟩) hb).trans (hg i hi)⟩⟩
theorem Own.below {w w' : World} {lo hi : Nat} {a : Option Addr} {n : Nat} {K V : Nat → Int} (h : Own w lo hi a n K V) (hb : Below w.heap.size w w') : Own w' lo hi a n K V :=
  h.writes (Writes.of_below (lo := hi) (hi := hi) hb) (.inl (Nat.le_refl _))
theorem Own.wide {w : World} {lo hi lo' hi' : Nat} {a : Option Addr} {n : Nat} {K V : Nat → Int} (h : Own w lo hi a n K V) (h1 : lo' ≤ lo) (h2 : hi ≤ hi') (h3 : hi' ≤ w.heap.size) : Own w lo' hi' a n K V := by
  obtain ⟨h0, h4 | ⟨b, off, ha, h5, hl, r⟩⟩ := h
  · exact ⟨h3, .inl h4⟩
  · exact ⟨h3, .inr ⟨b, off, ha, by omega, by omega, r⟩⟩
theorem Own.congr {w : World} {lo hi : Nat} {a : Option Addr} {n : Nat} {K V K' V' : Nat → Int} (h : Own w lo hi a n K V) (h1 : ∀ i, i < n → K i = K' i) (h2 : ∀ i, i < n → V i = V' i) : Own w lo hi a n K' V' := by
  obtain ⟨h0, h4 | ⟨b, off, ha, h5, hl, hk, hv, r⟩⟩ := h
  · exact ⟨h0, .inl h4⟩
  · exact ⟨h0, .inr ⟨b, off, ha, h5, hl, fun i hi => by rw [hk i hi, h1 i hi], fun i hi => by rw [hv i hi, h2 i hi], r⟩⟩

end Go.Proofs.Ytcfenhnggccmmaa
