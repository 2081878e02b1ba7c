/- PageFault: its model, and the walks of spec.PageFault and impl.PageFault. -/
import Derived.Test.YtnhlcadipkmhhaaGreatQBase
import Derived.Deep.RegionHeld3
namespace Go.Proofs.YtnhlcadipkmhhaaGreat
open Go.RowKit Go.Deep
set_option linter.unusedVariables false

/-- What the j-th place of a row of cells holds. -/
def cv (K V : Nat → Int) (j : Nat) : Value := .int .i64 (if j % 2 = 0 then K (j / 2) else V (j / 2))
theorem cv_key (K V : Nat → Int) (i : Nat) : cv K V (i * 2) = .int .i64 (K i) := by unfold cv; rw [if_pos (by omega)]; congr 2; omega
theorem cv_val (K V : Nat → Int) (i : Nat) : cv K V (i * 2 + 1) = .int .i64 (V i) := by unfold cv; rw [if_neg (by omega)]; congr 2; omega

/-- The slice at 'a' has n cells: keys K, values V. -/
def CellsAt (w : World) (a : Option Addr) (n : Nat) (K V : Nat → Int) : Prop :=
  n = 0 ∨ ∃ b off, a = some ⟨b, off, none⟩ ∧ b < w.heap.size ∧ (∀ i, i < n → w.cell? ⟨b, off + i * 2, none⟩ = some (.int .i64 (K i))) ∧ (∀ i, i < n → w.cell? ⟨b, off + i * 2 + 1, none⟩ = some (.int .i64 (V i)))

/-- .. in a block from lo on, below hi, that may be written. -/
def Own (w : World) (lo hi : Nat) (a : Option Addr) (n : Nat) (K V : Nat → Int) : Prop :=
  hi ≤ w.heap.size ∧ (n = 0 ∨ ∃ b off, a = some ⟨b, off, none⟩ ∧ lo ≤ b ∧ b < hi ∧ (∀ i, i < n → w.cell? ⟨b, off + i * 2, none⟩ = some (.int .i64 (K i))) ∧ (∀ i, i < n → w.cell? ⟨b, off + i * 2 + 1, none⟩ = some (.int .i64 (V i))) ∧
    (∀ i, i < n → w.frozen? ⟨b, off + i * 2, none⟩ = false) ∧ (∀ i, i < n → w.frozen? ⟨b, off + i * 2 + 1, none⟩ = false))

/-- What was there is as it was but for blocks from lo on, below hi. -/
structure Writes (lo hi : Nat) (w w' : World) : Prop where
  os : w'.os = w.os
  tape : w'.tape = w.tape
  output : w'.output = w.output
  size : w.heap.size ≤ w'.heap.size
  block : ∀ k, k < w.heap.size → (k < lo ∨ hi ≤ k) → w'.heap[k]? = w.heap[k]?

theorem Writes.refl (lo hi : Nat) (w : World) : Writes lo hi w w := ⟨rfl, rfl, rfl, Nat.le_refl _, fun _ _ _ => rfl⟩
theorem Writes.trans {lo hi : Nat} {a b c : World} (h : Writes lo hi a b) (k : Writes lo hi b c) : Writes lo hi a c :=
  ⟨k.os.trans h.os, k.tape.trans h.tape, k.output.trans h.output, Nat.le_trans h.size k.size, fun i hi1 hi2 => (k.block i (Nat.lt_of_lt_of_le hi1 h.size) hi2).trans (h.block i hi1 hi2)⟩
theorem Writes.of_below {lo hi : Nat} {w w' : World} (h : Below w.heap.size w w') : Writes lo hi w w' := ⟨h.os, h.tape, h.output, h.size, fun k hk _ => h.block k hk⟩
theorem Writes.below {lo hi : Nat} {W w w' : World} (h0 : Below W.heap.size W w) (h : Writes lo hi w w') (hlo : W.heap.size ≤ lo) : Below W.heap.size W w' :=
  ⟨h.os.trans h0.os, h.tape.trans h0.tape, h.output.trans h0.output, Nat.le_trans h0.size h.size, fun k hk => (h.block k (Nat.lt_of_lt_of_le hk h0.size) (.inl (Nat.lt_of_lt_of_le hk hlo))).trans (h0.block k hk)⟩
theorem Writes.setCell {lo hi : Nat} {w w' : World} (h : Writes lo hi w w') {p : Addr} (h1 : lo ≤ p.block) (h2 : p.block < hi) (v : Value) : Writes lo hi w (w'.setCell p v) :=
  ⟨h.os, h.tape, h.output, by simpa [World.setCell] using h.size, fun k hk hk2 => (Below.heap_setCell _ _ _ _ (by omega)).trans (h.block k hk hk2)⟩
theorem Writes.alloc {lo hi : Nat} {w w' : World} (h : Writes lo hi w w') (o : Obj) : Writes lo hi w (w'.alloc o) :=
  ⟨h.os, h.tape, h.output, by have := h.size; simp; omega, fun k hk hk2 => (Below.heap_alloc _ _ _ (by have := h.size; omega)).trans (h.block k hk hk2)⟩
theorem Writes.cell {lo hi : Nat} {w w' : World} (h : Writes lo hi w w') {b : Nat} (h1 : b < w.heap.size) (h2 : b < lo ∨ hi ≤ b) (o : Nat) : w'.cell? ⟨b, o, none⟩ = w.cell? ⟨b, o, none⟩ :=
  World.cell?_of_block (w := w) (h.block b h1 h2)

theorem Own.at {w : World} {lo hi : Nat} {a : Option Addr} {n : Nat} {K V : Nat → Int} (h : Own w lo hi a n K V) : CellsAt w a n K V := by
  obtain ⟨h0, h1 | ⟨b, off, ha, _, hl, hk, hv, _, _⟩⟩ := h
  · exact .inl h1
  · exact .inr ⟨b, off, ha, by omega, hk, hv⟩
theorem CellsAt.writes {w w' : World} {a : Option Addr} {n : Nat} {K V : Nat → Int} {lo hi : Nat} (h : CellsAt w a n K V) (hw : Writes lo hi w w') (hlo : w.heap.size ≤ lo) : CellsAt w' a n K V := by
  rcases h with h | ⟨b, off, ha, hl, hk, hv⟩
  · exact .inl h
  · exact .inr ⟨b, off, ha, Nat.lt_of_lt_of_le hl hw.size, fun i hi => (hw.cell hl (.inl (by omega)) _).trans (hk i hi), fun i hi => (hw.cell hl (.inl (by omega)) _).trans (hv i hi)⟩
theorem CellsAt.below {w w' : World} {a : Option Addr} {n : Nat} {K V : Nat → Int} (h : CellsAt w a n K V) (hb : Below w.heap.size w w') : CellsAt w' a n K V :=
  h.writes (Writes.of_below (lo := w.heap.size) (hi := 0) hb) (Nat.le_refl _)
/-- .. whose block is none of those that were written. -/
theorem Own.writes {w w' : World} {lo hi lo' hi' : Nat} {a : Option Addr} {n : Nat} {K V : Nat → Int} (h : Own w lo hi a n K V) (hw : Writes lo' hi' w w') (hd : hi ≤ lo' ∨ hi' ≤ lo) : Own w' lo hi a n K V := by
  obtain ⟨h0, h1 | ⟨b, off, ha, h2, hl, hk, hv, hf, hg⟩⟩ := h
  · exact ⟨Nat.le_trans h0 hw.size, .inl h1⟩
  · have hb := hw.block b (by omega) (by omega)
    exact ⟨Nat.le_trans h0 hw.size, .inr ⟨b, off, ha, h2, hl, fun i hi => (World.cell?_of_block (w := w) (a := ⟨b, _, none⟩) hb).trans (hk i hi), fun i hi => (World.cell?_of_block (w := w) (a := ⟨b, _, none⟩) hb).trans (hv i hi),
      fun i hi => (World.frozen?_of_block (w := w) (a := ⟨b, _, none⟩) hb).trans (hf i hi), fun i hi => (World.frozen?_of_block (w := w) (a := ⟨b, _, none⟩) hb).trans (hg i hi)⟩⟩
theorem Own.below {w w' : World} {lo hi : Nat} {a : Option Addr} {n : Nat} {K V : Nat → Int} (h : Own w lo hi a n K V) (hb : Below w.heap.size w w') : Own w' lo hi a n K V :=
  h.writes (Writes.of_below (lo := hi) (hi := hi) hb) (.inl (Nat.le_refl _))
theorem Own.wide {w : World} {lo hi lo' hi' : Nat} {a : Option Addr} {n : Nat} {K V : Nat → Int} (h : Own w lo hi a n K V) (h1 : lo' ≤ lo) (h2 : hi ≤ hi') (h3 : hi' ≤ w.heap.size) : Own w lo' hi' a n K V := by
  obtain ⟨h0, h4 | ⟨b, off, ha, h5, hl, r⟩⟩ := h
  · exact ⟨h3, .inl h4⟩
  · exact ⟨h3, .inr ⟨b, off, ha, by omega, by omega, r⟩⟩
theorem Own.of_row {w : World} {b n : Nat} {K V : Nat → Int} (h : w.rowIs b 102 (n * 2) (cv K V)) : Own w b (b + 1) (some ⟨b, 0, none⟩) n K V :=
  ⟨h.lt, .inr ⟨b, 0, rfl, Nat.le_refl _, by omega, fun i hi => by have := h.cell (i := i * 2) (by omega); rw [cv_key] at this; simpa using this, fun i hi => by have := h.cell (i := i * 2 + 1) (by omega); rw [cv_val] at this; simpa using this,
    fun i _ => h.frozen _, fun i _ => h.frozen _⟩⟩
theorem Own.congr {w : World} {lo hi : Nat} {a : Option Addr} {n : Nat} {K V K' V' : Nat → Int} (h : Own w lo hi a n K V) (h1 : ∀ i, i < n → K i = K' i) (h2 : ∀ i, i < n → V i = V' i) : Own w lo hi a n K' V' := by
  obtain ⟨h0, h4 | ⟨b, off, ha, h5, hl, hk, hv, r⟩⟩ := h
  · exact ⟨h0, .inl h4⟩
  · exact ⟨h0, .inr ⟨b, off, ha, h5, hl, fun i hi => by rw [hk i hi, h1 i hi], fun i hi => by rw [hv i hi, h2 i hi], r⟩⟩

theorem info99 : (Tryz.prog.info? 102).map (fun i => (i.zero, i.size, i.bytes)) = some (some (.agg #[.int .i64 0, .int .i64 0]), 2, 16) := by kernel_rfl
/-- 'make([]impl.Cell, n)'. -/
theorem run_make_cells (n : Nat) (hn : n ≤ 8796093022208) (w : World) :
    (Instr.makeSlice 67 (.int .i64 (n : Int)) (.int .i64 (n : Int))).run Tryz.prog w = .ok (.slice (some ⟨w.heap.size, 0, none⟩) n n) (w.alloc (.cells (madeCells #[.int .i64 0, .int .i64 0] (n * 2)) 102)) := by
  obtain ⟨i, hi, hzz⟩ := Option.map_eq_some_iff.1 info99
  simp only [Prod.mk.injEq] at hzz
  obtain ⟨hz, hs, hb⟩ := hzz
  have hr := run_make (P := Tryz.prog) w 67 102 i _ Tryz.underlying67 hi hz .i64 .i64 n n (by omega) (Int.le_refl _) (by rw [hb]; omega) (by omega)
  simp only [Int.toNat_natCast, hs] at hr
  exact hr
theorem made_cells (w : World) (n : Nat) : (w.alloc (.cells (madeCells #[.int .i64 0, .int .i64 0] (n * 2)) 102)).rowIs w.heap.size 102 (n * 2) (cv (fun _ => 0) (fun _ => 0)) :=
  ⟨_, blk_alloc_new _ _, size_madeCells _ _, fun i hi => by
    have h : i % 2 = 0 ∨ i % 2 = 1 := by omega
    rcases h with h | h <;> simp [madeCells, hi, cv, h]⟩

/-! ### laws.toCellS -/
theorem cv_step {K V : Nat → Int} {w : World} {b n k : Nat} (h : w.rowIs b 102 (n * 2) (cv (fun i => if i < k then K i else 0) (fun i => if i < k then V i else 0))) :
    ((w.setCell ⟨b, k * 2, none⟩ (.int .i64 (K k))).setCell ⟨b, k * 2 + 1, none⟩ (.int .i64 (V k))).rowIs b 102 (n * 2) (cv (fun i => if i < k + 1 then K i else 0) (fun i => if i < k + 1 then V i else 0)) := by
  refine ((h.set (k * 2) _).set (k * 2 + 1) _).congr fun j _ => ?_
  by_cases e1 : j = k * 2 + 1
  · subst e1; rw [if_pos rfl, cv_val]; simp
  · rw [if_neg e1]
    by_cases e2 : j = k * 2
    · subst e2; rw [if_pos rfl, cv_key]; simp
    · rw [if_neg e2]
      have : (j / 2 < k) ↔ (j / 2 < k + 1) := by omega
      unfold cv; simp only [this]
/-! ### laws.markCellS -/
theorem setO {w : World} {b o o' : Nat} {v : Value} (h : o ≠ o') : (w.setCell ⟨b, o, none⟩ v).cell? ⟨b, o', none⟩ = w.cell? ⟨b, o', none⟩ := World.cell?_setCell_other _ _ _ _ (by intro e; exact h (congrArg Addr.off e))
theorem setS {w : World} {a : Addr} {v u : Value} (h : w.cell? a = some u) : (w.setCell a v).cell? a = some v := World.cell?_setCell_same _ _ _ h
/-- The four rows of facts that 'Own' has of its cells. -/
def Row2 (w : World) (b off n : Nat) (K V : Nat → Int) : Prop :=
  (∀ i, i < n → w.cell? ⟨b, off + i * 2, none⟩ = some (.int .i64 (K i))) ∧ (∀ i, i < n → w.cell? ⟨b, off + i * 2 + 1, none⟩ = some (.int .i64 (V i))) ∧
    (∀ i, i < n → w.frozen? ⟨b, off + i * 2, none⟩ = false) ∧ (∀ i, i < n → w.frozen? ⟨b, off + i * 2 + 1, none⟩ = false)
def mk (m : Int) (K : Nat → Int) (j i : Nat) : Int := if i < j then m + i * 2 else K i
theorem mk_lt {m : Int} {K : Nat → Int} {j i : Nat} (h : i < j) : mk m K j i = m + i * 2 := by simp [mk, h]
theorem mk_ne {m : Int} {K : Nat → Int} {j i : Nat} (h : i ≠ j) : mk m K (j + 1) i = mk m K j i := by
  unfold mk; by_cases e : i < j
  · rw [if_pos e, if_pos (by omega)]
  · rw [if_neg e, if_neg (by omega)]
theorem row2_step {w : World} {b off n k : Nat} {K V : Nat → Int} {m : Int} (hlt : k < n) (h : Row2 w b off n (mk m K k) (mk (m + 1) V k)) :
    Row2 ((w.setCell ⟨b, off + k * 2, none⟩ (.int .i64 (m + k * 2))).setCell ⟨b, off + k * 2 + 1, none⟩ (.int .i64 (m + k * 2 + 1))) b off n (mk m K (k + 1)) (mk (m + 1) V (k + 1)) := by
  obtain ⟨hk, hv, hf, hg⟩ := h
  refine ⟨fun i hi => ?_, fun i hi => ?_, fun i hi => ?_, fun i hi => ?_⟩
  · rw [setO (by omega)]
    by_cases e : i = k
    · subst e; rw [setS (hk i hi), mk_lt (by omega)]
    · rw [setO (by omega), mk_ne e, hk i hi]
  · by_cases e : i = k
    · subst e
      have h0 : (w.setCell ⟨b, off + i * 2, none⟩ (.int .i64 (m + i * 2))).cell? ⟨b, off + i * 2 + 1, none⟩ = some (.int .i64 (mk (m + 1) V i i)) := by
        rw [setO (by omega), hv i hi]
      rw [setS h0, mk_lt (by omega)]
      congr 2; omega
    · rw [setO (by omega), setO (by omega), mk_ne e, hv i hi]
  · simp [go_sem, hf i hi]
  · simp [go_sem, hg i hi]
def mK (m : Int) (i : Nat) : Int := m + i * 2
/-! ### laws.heldCellS -/
/-! ### pages -/
def Box3 (w : World) (B : Nat) (c0 c1 c2 : Value) : Prop := w.cell? ⟨B, 0, none⟩ = some c0 ∧ w.cell? ⟨B, 1, none⟩ = some c1 ∧ w.cell? ⟨B, 2, none⟩ = some c2
def Box4 (w : World) (B : Nat) (c0 c1 c2 c3 : Value) : Prop := w.cell? ⟨B, 0, none⟩ = some c0 ∧ w.cell? ⟨B, 1, none⟩ = some c1 ∧ w.cell? ⟨B, 2, none⟩ = some c2 ∧ w.cell? ⟨B, 3, none⟩ = some c3
def Box2 (w : World) (B : Nat) (c0 c1 : Value) : Prop := w.cell? ⟨B, 0, none⟩ = some c0 ∧ w.cell? ⟨B, 1, none⟩ = some c1

theorem cell_alloc {w : World} {B o : Nat} {v : Value} (h : w.cell? ⟨B, o, none⟩ = some v) (x : Obj) : (w.alloc x).cell? ⟨B, o, none⟩ = some v := by
  rw [World.cell?_alloc_lt _ _ _ (Go.block_lt_of_cell h)]; exact h
theorem cell_writes {w w' : World} {lo hi B o : Nat} {v : Value} (h : w.cell? ⟨B, o, none⟩ = some v) (hw : Writes lo hi w w') (hd : B < lo ∨ hi ≤ B) : w'.cell? ⟨B, o, none⟩ = some v :=
  (hw.cell (Go.block_lt_of_cell h) hd o).trans h
theorem cell_below {w w' : World} {B o : Nat} {v : Value} (h : w.cell? ⟨B, o, none⟩ = some v) (hb : Below w.heap.size w w') : w'.cell? ⟨B, o, none⟩ = some v :=
  (hb.cell (p := ⟨B, o, none⟩) (Go.block_lt_of_cell h)).trans h

theorem Box2.alloc {w : World} {B : Nat} {c0 c1 : Value} (h : Box2 w B c0 c1) (x : Obj) : Box2 (w.alloc x) B c0 c1 := ⟨cell_alloc h.1 x, cell_alloc h.2 x⟩
theorem Box3.alloc {w : World} {B : Nat} {c0 c1 c2 : Value} (h : Box3 w B c0 c1 c2) (x : Obj) : Box3 (w.alloc x) B c0 c1 c2 := ⟨cell_alloc h.1 x, cell_alloc h.2.1 x, cell_alloc h.2.2 x⟩
theorem Box4.alloc {w : World} {B : Nat} {c0 c1 c2 c3 : Value} (h : Box4 w B c0 c1 c2 c3) (x : Obj) : Box4 (w.alloc x) B c0 c1 c2 c3 := ⟨cell_alloc h.1 x, cell_alloc h.2.1 x, cell_alloc h.2.2.1 x, cell_alloc h.2.2.2 x⟩
theorem Box2.below {w w' : World} {B : Nat} {c0 c1 : Value} (h : Box2 w B c0 c1) (x : Below w.heap.size w w') : Box2 w' B c0 c1 := ⟨cell_below h.1 x, cell_below h.2 x⟩
theorem Box3.below {w w' : World} {B : Nat} {c0 c1 c2 : Value} (h : Box3 w B c0 c1 c2) (x : Below w.heap.size w w') : Box3 w' B c0 c1 c2 := ⟨cell_below h.1 x, cell_below h.2.1 x, cell_below h.2.2 x⟩
theorem Box4.below {w w' : World} {B : Nat} {c0 c1 c2 c3 : Value} (h : Box4 w B c0 c1 c2 c3) (x : Below w.heap.size w w') : Box4 w' B c0 c1 c2 c3 := ⟨cell_below h.1 x, cell_below h.2.1 x, cell_below h.2.2.1 x, cell_below h.2.2.2 x⟩
theorem Box2.writes {w w' : World} {lo hi B : Nat} {c0 c1 : Value} (h : Box2 w B c0 c1) (x : Writes lo hi w w') (d : B < lo ∨ hi ≤ B) : Box2 w' B c0 c1 := ⟨cell_writes h.1 x d, cell_writes h.2 x d⟩
theorem Box3.writes {w w' : World} {lo hi B : Nat} {c0 c1 c2 : Value} (h : Box3 w B c0 c1 c2) (x : Writes lo hi w w') (d : B < lo ∨ hi ≤ B) : Box3 w' B c0 c1 c2 := ⟨cell_writes h.1 x d, cell_writes h.2.1 x d, cell_writes h.2.2 x d⟩
theorem Box4.writes {w w' : World} {lo hi B : Nat} {c0 c1 c2 c3 : Value} (h : Box4 w B c0 c1 c2 c3) (x : Writes lo hi w w') (d : B < lo ∨ hi ≤ B) : Box4 w' B c0 c1 c2 c3 := ⟨cell_writes h.1 x d, cell_writes h.2.1 x d, cell_writes h.2.2.1 x d, cell_writes h.2.2.2 x d⟩
theorem Box2.new (w : World) (c0 c1 : Value) (t : TypeId) : Box2 (w.alloc (.cells #[c0, c1] t)) w.heap.size c0 c1 := by simp [Box2]
theorem Box3.new (w : World) (c0 c1 c2 : Value) (t : TypeId) : Box3 (w.alloc (.cells #[c0, c1, c2] t)) w.heap.size c0 c1 c2 := by simp [Box3]
theorem Box4.new (w : World) (c0 c1 c2 c3 : Value) (t : TypeId) : Box4 (w.alloc (.cells #[c0, c1, c2, c3] t)) w.heap.size c0 c1 c2 c3 := by simp [Box4]
theorem Box2.lt {w : World} {B : Nat} {c0 c1 : Value} (h : Box2 w B c0 c1) : B < w.heap.size := Go.block_lt_of_cell h.1
theorem Box3.lt {w : World} {B : Nat} {c0 c1 c2 : Value} (h : Box3 w B c0 c1 c2) : B < w.heap.size := Go.block_lt_of_cell h.1
theorem Box4.lt {w : World} {B : Nat} {c0 c1 c2 c3 : Value} (h : Box4 w B c0 c1 c2 c3) : B < w.heap.size := Go.block_lt_of_cell h.1
theorem below_new (w : World) (o : Obj) : Below w.heap.size w (w.alloc o) := (Below.refl _ _).alloc (Nat.le_refl _) _
def inB (v lo hi : Int) : Bool := decide (lo ≤ v) && decide (v ≤ hi)
theorem inB_iff {v lo hi : Int} : inB v lo hi = true ↔ lo ≤ v ∧ v ≤ hi := by simp [inB]
/-- The first fault of the cells from the i-th on, m of them. -/
def cff (K V : Nat → Int) : Nat → Nat → Int
  | 0, _ => 0
  | m + 1, i => if inB (K i) 0 31 = false ∨ inB (V i) 0 9999 = false then 3 else if 0 < i ∧ K i ≤ K (i - 1) then 1 else cff K V m (i + 1)
def pf (id lsn : Int) (n : Nat) (K V : Nat → Int) : Int :=
  if inB id 0 7 = false ∨ inB lsn 0 1000000 = false then 3 else if 12 < n then 2 else cff K V n 0
theorem cff_at {K V : Nat → Int} {n k : Nat} (h : k < n) : cff K V (n - k) k = if inB (K k) 0 31 = false ∨ inB (V k) 0 9999 = false then 3 else if 0 < k ∧ K k ≤ K (k - 1) then 1 else cff K V (n - (k + 1)) (k + 1) := by
  obtain ⟨m, hm⟩ : ∃ m, n - k = m + 1 := ⟨n - k - 1, by omega⟩
  rw [hm, cff, show n - (k + 1) = m by omega]

/-! ### the small tests -/
theorem l1In_any (v lo hi : Int) (w : World) : Calls Tryz.prog 60 #[.int .i64 v, .int .i64 lo, .int .i64 hi] w fun e w' => e = .returned (.bool (inB v lo hi)) ∧ w' = w := by
  unfold inB
  by_cases h1 : lo ≤ v
  · by_cases h2 : v ≤ hi
    · go_enter Tryz.func60, Tryz.ntmps60
      go_wp2
      go_ret
      exact ⟨ret_bool (by simp [h1, h2]), rfl⟩
    · have h3 : decide (v ≤ hi) = false := by simp; omega
      go_enter Tryz.func60, Tryz.ntmps60
      go_wp2
      go_ret
      exact ⟨ret_bool (by simp), rfl⟩
  · have h3 : decide (lo ≤ v) = false := by simp; omega
    go_enter Tryz.func60, Tryz.ntmps60
    go_wp2
    go_ret
    exact ⟨ret_bool (by simp), rfl⟩
theorem within_any (v lo hi : Int) (w : World) : Calls Tryz.prog 61 #[.int .i64 v, .int .i64 lo, .int .i64 hi] w fun e w' => e = .returned (.bool (inB v lo hi)) ∧ w' = w := by
  unfold inB
  by_cases h1 : lo ≤ v
  · by_cases h2 : v ≤ hi
    · go_enter Tryz.func61, Tryz.ntmps61
      go_wp2
      go_ret
      exact ⟨ret_bool (by simp [h1, h2]), rfl⟩
    · have h3 : decide (v ≤ hi) = false := by simp; omega
      go_enter Tryz.func61, Tryz.ntmps61
      go_wp2
      go_ret
      exact ⟨ret_bool (by simp), rfl⟩
  · have h3 : decide (lo ≤ v) = false := by simp; omega
    go_enter Tryz.func61, Tryz.ntmps61
    go_wp2
    go_ret
    exact ⟨ret_bool (by simp), rfl⟩
theorem l1Key_any (v : Int) (w : World) : Calls Tryz.prog 110 #[.int .i64 v] w fun e w' => e = .returned (.bool (inB v 0 31)) ∧ w' = w := by
  go_enter Tryz.func110, Tryz.ntmps110
  go_wp2_with (go_at_call 60; refine (l1In_any _ _ _ _).mono ?_; rintro e w' ⟨rfl, rfl⟩)
  go_ret
  exact ⟨rfl, rfl⟩
theorem l1Value_any (v : Int) (w : World) : Calls Tryz.prog 141 #[.int .i64 v] w fun e w' => e = .returned (.bool (inB v 0 9999)) ∧ w' = w := by
  go_enter Tryz.func141, Tryz.ntmps141
  go_wp2_with (go_at_call 60; refine (l1In_any _ _ _ _).mono ?_; rintro e w' ⟨rfl, rfl⟩)
  go_ret
  exact ⟨rfl, rfl⟩
theorem isKey_any (v : Int) (w : World) : Calls Tryz.prog 120 #[.int .i64 v] w fun e w' => e = .returned (.bool (inB v 0 31)) ∧ w' = w := by
  go_enter Tryz.func120, Tryz.ntmps120
  go_wp2_with (go_at_call 61; refine (within_any _ _ _ _).mono ?_; rintro e w' ⟨rfl, rfl⟩)
  go_ret
  exact ⟨rfl, rfl⟩
theorem isValue_any (v : Int) (w : World) : Calls Tryz.prog 146 #[.int .i64 v] w fun e w' => e = .returned (.bool (inB v 0 9999)) ∧ w' = w := by
  go_enter Tryz.func146, Tryz.ntmps146
  go_wp2_with (go_at_call 61; refine (within_any _ _ _ _).mono ?_; rintro e w' ⟨rfl, rfl⟩)
  go_ret
  exact ⟨rfl, rfl⟩

/-! ### impl.cellsFault -/
/-! ### impl.PageFault -/
end Go.Proofs.YtnhlcadipkmhhaaGreat
