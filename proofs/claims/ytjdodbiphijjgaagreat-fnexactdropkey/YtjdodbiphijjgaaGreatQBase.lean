/- Rows of undos: marked, held, opened. -/
import Derived.Test.YtjdodbiphijjgaaGreatRows
import Derived.WalkKit
import Derived.WalkSpells
import Derived.ProofKit
import Derived.OpenShut
import Derived.ShutString
import Derived.ChangeOld
import Derived.Below
import Derived.Outline
import Derived.Deep.OwnRows
import Derived.Deep.LoopGhost
import Derived.Deep.QuietTactic
import Derived.BigQuiet
import Derived.WalkSmall
import Derived.Deep.Slices
import Derived.Deep.SlicePairs
import Derived.Deep.RegionHeld3
import Derived.Deep.RegionLaw
import Derived.Lib.SmallJoins
namespace Go.Proofs.YtjdodbiphijjgaaGreat
open Go.RowKit Go.Deep
set_option linter.unusedVariables false
set_option maxRecDepth 20000
open Go.ChangeShapes Go.WideShapes Go.ChangeAt Go.RowKit Go.Deep Go.Joins

theorem own : ownKnob Tryz.prog.godebug = none := by kernel_rfl
theorem laidOut : laidOutB Tryz.prog = true := by kernel_rfl
theorem ret_int {k : IntKind} {a b : Int} (h : a = b) : Ending.returned (.int k a) = .returned (.int k b) := by rw [h]
theorem ret_bool {a b : Bool} (h : a = b) : Ending.returned (.bool a) = .returned (.bool b) := by rw [h]

theorem bcell {W w1 : World} (hb : Below W.heap.size W w1) : (∀ b o, b < W.heap.size → w1.cell? ⟨b, o, none⟩ = W.cell? ⟨b, o, none⟩) ∧ (∀ b o, b < W.heap.size → w1.frozen? ⟨b, o, none⟩ = W.frozen? ⟨b, o, none⟩) :=
  ⟨fun b o h => hb.cell (p := ⟨b, o, none⟩) h, fun b o h => hb.frozen (p := ⟨b, o, none⟩) h⟩

theorem below_then {w w1 w2 : World} (h : Below w.heap.size w w1) (k : Below w1.heap.size w1 w2) : Below w.heap.size w w2 := h.trans (k.mono h.size)
theorem made_none (z : Array Value) : madeCells z 0 = #[] := Array.eq_empty_of_size_eq_zero (size_madeCells _ _)
/-- What the j-th place of a row of cells holds. -/
def cv (K V : Nat → Int) (j : Nat) : Value := .int .i64 (if j % 2 = 0 then K (j / 2) else V (j / 2))
/-- What was there is as it was but for blocks from lo on, below hi. -/
structure Writes (lo hi : Nat) (w w' : World) : Prop where
  os : w'.os = w.os
  tape : w'.tape = w.tape
  output : w'.output = w.output
  size : w.heap.size ≤ w'.heap.size
  block : ∀ k, k < w.heap.size → (k < lo ∨ hi ≤ k) → w'.heap[k]? = w.heap[k]?

theorem Writes.refl (lo hi : Nat) (w : World) : Writes lo hi w w := ⟨rfl, rfl, rfl, Nat.le_refl _, fun _ _ _ => rfl⟩
theorem Writes.trans {lo hi : Nat} {a b c : World} (h : Writes lo hi a b) (k : Writes lo hi b c) : Writes lo hi a c :=
  ⟨k.os.trans h.os, k.tape.trans h.tape, k.output.trans h.output, Nat.le_trans h.size k.size, fun i hi1 hi2 => (k.block i (Nat.lt_of_lt_of_le hi1 h.size) hi2).trans (h.block i hi1 hi2)⟩
theorem Writes.of_below {lo hi : Nat} {w w' : World} (h : Below w.heap.size w w') : Writes lo hi w w' := ⟨h.os, h.tape, h.output, h.size, fun k hk _ => h.block k hk⟩
theorem Writes.below {lo hi : Nat} {W w w' : World} (h0 : Below W.heap.size W w) (h : Writes lo hi w w') (hlo : W.heap.size ≤ lo) : Below W.heap.size W w' :=
  ⟨h.os.trans h0.os, h.tape.trans h0.tape, h.output.trans h0.output, Nat.le_trans h0.size h.size, fun k hk => (h.block k (Nat.lt_of_lt_of_le hk h0.size) (.inl (Nat.lt_of_lt_of_le hk hlo))).trans (h0.block k hk)⟩
theorem Writes.setCell {lo hi : Nat} {w w' : World} (h : Writes lo hi w w') {p : Addr} (h1 : lo ≤ p.block) (h2 : p.block < hi) (v : Value) : Writes lo hi w (w'.setCell p v) :=
  ⟨h.os, h.tape, h.output, by simpa [World.setCell] using h.size, fun k hk hk2 => (Below.heap_setCell _ _ _ _ (by omega)).trans (h.block k hk hk2)⟩
theorem Writes.cell {lo hi : Nat} {w w' : World} (h : Writes lo hi w w') {b : Nat} (h1 : b < w.heap.size) (h2 : b < lo ∨ hi ≤ b) (o : Nat) : w'.cell? ⟨b, o, none⟩ = w.cell? ⟨b, o, none⟩ :=
  World.cell?_of_block (w := w) (h.block b h1 h2)
/-! ### laws.toCellS -/
/-! ### laws.markCellS -/
theorem setO {w : World} {b o o' : Nat} {v : Value} (h : o ≠ o') : (w.setCell ⟨b, o, none⟩ v).cell? ⟨b, o', none⟩ = w.cell? ⟨b, o', none⟩ := World.cell?_setCell_other _ _ _ _ (by intro e; exact h (congrArg Addr.off e))
theorem setS {w : World} {a : Addr} {v u : Value} (h : w.cell? a = some u) : (w.setCell a v).cell? a = some v := World.cell?_setCell_same _ _ _ h
/-! ### laws.heldCellS -/
/-! ### pages -/
def Box4 (w : World) (B : Nat) (c0 c1 c2 c3 : Value) : Prop := w.cell? ⟨B, 0, none⟩ = some c0 ∧ w.cell? ⟨B, 1, none⟩ = some c1 ∧ w.cell? ⟨B, 2, none⟩ = some c2 ∧ w.cell? ⟨B, 3, none⟩ = some c3
def Box2 (w : World) (B : Nat) (c0 c1 : Value) : Prop := w.cell? ⟨B, 0, none⟩ = some c0 ∧ w.cell? ⟨B, 1, none⟩ = some c1

theorem cell_alloc {w : World} {B o : Nat} {v : Value} (h : w.cell? ⟨B, o, none⟩ = some v) (x : Obj) : (w.alloc x).cell? ⟨B, o, none⟩ = some v := by
  rw [World.cell?_alloc_lt _ _ _ (Go.block_lt_of_cell h)]; exact h
theorem cell_writes {w w' : World} {lo hi B o : Nat} {v : Value} (h : w.cell? ⟨B, o, none⟩ = some v) (hw : Writes lo hi w w') (hd : B < lo ∨ hi ≤ B) : w'.cell? ⟨B, o, none⟩ = some v :=
  (hw.cell (Go.block_lt_of_cell h) hd o).trans h
theorem cell_below {w w' : World} {B o : Nat} {v : Value} (h : w.cell? ⟨B, o, none⟩ = some v) (hb : Below w.heap.size w w') : w'.cell? ⟨B, o, none⟩ = some v :=
  (hb.cell (p := ⟨B, o, none⟩) (Go.block_lt_of_cell h)).trans h

theorem Box2.alloc {w : World} {B : Nat} {c0 c1 : Value} (h : Box2 w B c0 c1) (x : Obj) : Box2 (w.alloc x) B c0 c1 := ⟨cell_alloc h.1 x, cell_alloc h.2 x⟩
theorem Box4.alloc {w : World} {B : Nat} {c0 c1 c2 c3 : Value} (h : Box4 w B c0 c1 c2 c3) (x : Obj) : Box4 (w.alloc x) B c0 c1 c2 c3 := ⟨cell_alloc h.1 x, cell_alloc h.2.1 x, cell_alloc h.2.2.1 x, cell_alloc h.2.2.2 x⟩
theorem Box2.below {w w' : World} {B : Nat} {c0 c1 : Value} (h : Box2 w B c0 c1) (x : Below w.heap.size w w') : Box2 w' B c0 c1 := ⟨cell_below h.1 x, cell_below h.2 x⟩
theorem Box4.below {w w' : World} {B : Nat} {c0 c1 c2 c3 : Value} (h : Box4 w B c0 c1 c2 c3) (x : Below w.heap.size w w') : Box4 w' B c0 c1 c2 c3 := ⟨cell_below h.1 x, cell_below h.2.1 x, cell_below h.2.2.1 x, cell_below h.2.2.2 x⟩
theorem Box4.writes {w w' : World} {lo hi B : Nat} {c0 c1 c2 c3 : Value} (h : Box4 w B c0 c1 c2 c3) (x : Writes lo hi w w') (d : B < lo ∨ hi ≤ B) : Box4 w' B c0 c1 c2 c3 := ⟨cell_writes h.1 x d, cell_writes h.2.1 x d, cell_writes h.2.2.1 x d, cell_writes h.2.2.2 x d⟩
theorem Box2.new (w : World) (c0 c1 : Value) (t : TypeId) : Box2 (w.alloc (.cells #[c0, c1] t)) w.heap.size c0 c1 := by simp [Box2]
theorem Box4.new (w : World) (c0 c1 c2 c3 : Value) (t : TypeId) : Box4 (w.alloc (.cells #[c0, c1, c2, c3] t)) w.heap.size c0 c1 c2 c3 := by simp [Box4]
theorem Box4.lt {w : World} {B : Nat} {c0 c1 c2 c3 : Value} (h : Box4 w B c0 c1 c2 c3) : B < w.heap.size := Go.block_lt_of_cell h.1
theorem below_new (w : World) (o : Obj) : Below w.heap.size w (w.alloc o) := (Below.refl _ _).alloc (Nat.le_refl _) _
def inB (v lo hi : Int) : Bool := decide (lo ≤ v) && decide (v ≤ hi)
theorem inB_iff {v lo hi : Int} : inB v lo hi = true ↔ lo ≤ v ∧ v ≤ hi := by simp [inB]
/-! ### the small tests -/
theorem l1In_any (v lo hi : Int) (w : World) : Calls Tryz.prog 75 #[.int .i64 v, .int .i64 lo, .int .i64 hi] w fun e w' => e = .returned (.bool (inB v lo hi)) ∧ w' = w := by
  unfold inB
  by_cases h1 : lo ≤ v
  · by_cases h2 : v ≤ hi
    · go_enter Tryz.func75, Tryz.ntmps75
      go_wp2
      go_ret
      exact ⟨ret_bool (by simp [h1, h2]), rfl⟩
    · have h3 : decide (v ≤ hi) = false := by simp; omega
      go_enter Tryz.func75, Tryz.ntmps75
      go_wp2
      go_ret
      exact ⟨ret_bool (by simp), rfl⟩
  · have h3 : decide (lo ≤ v) = false := by simp; omega
    go_enter Tryz.func75, Tryz.ntmps75
    go_wp2
    go_ret
    exact ⟨ret_bool (by simp), rfl⟩
theorem within_any (v lo hi : Int) (w : World) : Calls Tryz.prog 145 #[.int .i64 v, .int .i64 lo, .int .i64 hi] w fun e w' => e = .returned (.bool (inB v lo hi)) ∧ w' = w := by
  unfold inB
  by_cases h1 : lo ≤ v
  · by_cases h2 : v ≤ hi
    · go_enter Tryz.func145, Tryz.ntmps145
      go_wp2
      go_ret
      exact ⟨ret_bool (by simp [h1, h2]), rfl⟩
    · have h3 : decide (v ≤ hi) = false := by simp; omega
      go_enter Tryz.func145, Tryz.ntmps145
      go_wp2
      go_ret
      exact ⟨ret_bool (by simp), rfl⟩
  · have h3 : decide (lo ≤ v) = false := by simp; omega
    go_enter Tryz.func145, Tryz.ntmps145
    go_wp2
    go_ret
    exact ⟨ret_bool (by simp), rfl⟩
theorem l1Key_any (v : Int) (w : World) : Calls Tryz.prog 61 #[.int .i64 v] w fun e w' => e = .returned (.bool (inB v 0 31)) ∧ w' = w := by
  go_enter Tryz.func61, Tryz.ntmps61
  go_wp2_with (go_at_call 75; refine (l1In_any _ _ _ _).mono ?_; rintro e w' ⟨rfl, rfl⟩)
  go_ret
  exact ⟨rfl, rfl⟩
theorem l1Value_any (v : Int) (w : World) : Calls Tryz.prog 62 #[.int .i64 v] w fun e w' => e = .returned (.bool (inB v 0 9999)) ∧ w' = w := by
  go_enter Tryz.func62, Tryz.ntmps62
  go_wp2_with (go_at_call 75; refine (l1In_any _ _ _ _).mono ?_; rintro e w' ⟨rfl, rfl⟩)
  go_ret
  exact ⟨rfl, rfl⟩
theorem isKey_any (v : Int) (w : World) : Calls Tryz.prog 99 #[.int .i64 v] w fun e w' => e = .returned (.bool (inB v 0 31)) ∧ w' = w := by
  go_enter Tryz.func99, Tryz.ntmps99
  go_wp2_with (go_at_call 145; refine (within_any _ _ _ _).mono ?_; rintro e w' ⟨rfl, rfl⟩)
  go_ret
  exact ⟨rfl, rfl⟩
theorem isValue_any (v : Int) (w : World) : Calls Tryz.prog 120 #[.int .i64 v] w fun e w' => e = .returned (.bool (inB v 0 9999)) ∧ w' = w := by
  go_enter Tryz.func120, Tryz.ntmps120
  go_wp2_with (go_at_call 145; refine (within_any _ _ _ _).mono ?_; rintro e w' ⟨rfl, rfl⟩)
  go_ret
  exact ⟨rfl, rfl⟩

/-! ### impl.cellsFault -/
/-! ### impl.PageFault -/
/-- A version's four fields. -/
structure Vr where
  t : Int
  a : Int
  g : Bool
  v : Int
/-- Its cells. -/
def C4 (w : World) (b o : Nat) (r : Vr) : Prop :=
  w.cell? ⟨b, o, none⟩ = some (.int .i64 r.t) ∧ w.cell? ⟨b, o + 1, none⟩ = some (.int .i64 r.a) ∧ w.cell? ⟨b, o + 2, none⟩ = some (.bool r.g) ∧ w.cell? ⟨b, o + 3, none⟩ = some (.int .i64 r.v)
theorem C4.block {w w' : World} {b o : Nat} {r : Vr} (h : C4 w b o r) (e : w'.heap[b]? = w.heap[b]?) : C4 w' b o r := by
  have g : ∀ i, w'.cell? ⟨b, i, none⟩ = w.cell? ⟨b, i, none⟩ := fun i => World.cell?_of_block (w := w) (a := ⟨b, i, none⟩) e
  obtain ⟨h0, h1, h2, h3⟩ := h
  exact ⟨(g _).trans h0, (g _).trans h1, (g _).trans h2, (g _).trans h3⟩
/-- The slice at 'a' has the n versions R. -/
def VersAt (w : World) (a : Option Addr) (n : Nat) (R : Nat → Vr) : Prop := n = 0 ∨ ∃ b off, a = some ⟨b, off, none⟩ ∧ b < w.heap.size ∧ ∀ i, i < n → C4 w b (off + i * 4) (R i)
def Row4 (w : World) (b off n : Nat) (R : Nat → Vr) : Prop := (∀ i, i < n → C4 w b (off + i * 4) (R i)) ∧ ∀ i, w.frozen? ⟨b, i, none⟩ = false
def Own4 (w : World) (lo hi : Nat) (a : Option Addr) (n : Nat) (R : Nat → Vr) : Prop := hi ≤ w.heap.size ∧ (n = 0 ∨ ∃ b off, a = some ⟨b, off, none⟩ ∧ lo ≤ b ∧ b < hi ∧ Row4 w b off n R)
theorem VersAt.below {w w' : World} {a : Option Addr} {n : Nat} {R : Nat → Vr} (h : VersAt w a n R) (hb : Below w.heap.size w w') : VersAt w' a n R := by
  rcases h with h | ⟨b, off, ha, hl, hc⟩
  · exact .inl h
  · exact .inr ⟨b, off, ha, Nat.lt_of_lt_of_le hl hb.size, fun i hi => (hc i hi).block (hb.block _ hl)⟩
theorem VersAt.congr {w : World} {a : Option Addr} {n : Nat} {R S : Nat → Vr} (h : VersAt w a n R) (e : ∀ i, i < n → R i = S i) : VersAt w a n S := by
  rcases h with h | ⟨b, off, ha, hl, hc⟩
  · exact .inl h
  · exact .inr ⟨b, off, ha, hl, fun i hi => by rw [← e i hi]; exact hc i hi⟩
theorem Own4.at {w : World} {lo hi : Nat} {a : Option Addr} {n : Nat} {R : Nat → Vr} (h : Own4 w lo hi a n R) : VersAt w a n R := by
  obtain ⟨h0, h1 | ⟨b, off, ha, _, hl, hc⟩⟩ := h
  · exact .inl h1
  · exact .inr ⟨b, off, ha, by omega, hc.1⟩
theorem Own4.congr {w : World} {lo hi : Nat} {a : Option Addr} {n : Nat} {R S : Nat → Vr} (h : Own4 w lo hi a n R) (e : ∀ i, i < n → R i = S i) : Own4 w lo hi a n S := by
  obtain ⟨h0, h1 | ⟨b, off, ha, h2, hl, hc⟩⟩ := h
  · exact ⟨h0, .inl h1⟩
  · exact ⟨h0, .inr ⟨b, off, ha, h2, hl, fun i hi => by rw [← e i hi]; exact hc.1 i hi, hc.2⟩⟩
theorem Own4.writes {w w' : World} {lo hi lo' hi' : Nat} {a : Option Addr} {n : Nat} {R : Nat → Vr} (h : Own4 w lo hi a n R) (hw : Writes lo' hi' w w') (hd : hi ≤ lo' ∨ hi' ≤ lo) : Own4 w' lo hi a n R := by
  obtain ⟨h0, h1 | ⟨b, off, ha, h2, hl, hc⟩⟩ := h
  · exact ⟨Nat.le_trans h0 hw.size, .inl h1⟩
  · have hb := hw.block b (by omega) (by omega)
    exact ⟨Nat.le_trans h0 hw.size, .inr ⟨b, off, ha, h2, hl, fun i hi => (hc.1 i hi).block hb, fun i => (World.frozen?_of_block (w := w) (a := ⟨b, i, none⟩) hb).trans (hc.2 i)⟩⟩
theorem Own4.below {w w' : World} {lo hi : Nat} {a : Option Addr} {n : Nat} {R : Nat → Vr} (h : Own4 w lo hi a n R) (hb : Below w.heap.size w w') : Own4 w' lo hi a n R :=
  h.writes (Writes.of_below (lo := hi) (hi := hi) hb) (.inl (Nat.le_refl _))
theorem Own4.wide {w : World} {lo hi lo' hi' : Nat} {a : Option Addr} {n : Nat} {R : Nat → Vr} (h : Own4 w lo hi a n R) (h1 : lo' ≤ lo) (h2 : hi ≤ hi') (h3 : hi' ≤ w.heap.size) : Own4 w lo' hi' a n R := by
  obtain ⟨h0, h4 | ⟨b, off, ha, h5, hl, r⟩⟩ := h
  · exact ⟨h3, .inl h4⟩
  · exact ⟨h3, .inr ⟨b, off, ha, by omega, by omega, r⟩⟩
/-! ### a version is stored -/
def set4 (w : World) (b o : Nat) (r : Vr) : World :=
  (((w.setCell ⟨b, o, none⟩ (.int .i64 r.t)).setCell ⟨b, o + 1, none⟩ (.int .i64 r.a)).setCell ⟨b, o + 2, none⟩ (.bool r.g)).setCell ⟨b, o + 3, none⟩ (.int .i64 r.v)
theorem set4_far {w : World} {b o o' : Nat} {r : Vr} (h : o' < o ∨ o + 3 < o') : (set4 w b o r).cell? ⟨b, o', none⟩ = w.cell? ⟨b, o', none⟩ := by
  unfold set4
  rw [setO (by omega), setO (by omega), setO (by omega), setO (by omega)]
theorem set4_same {w : World} {b o : Nat} {r r0 : Vr} (h : C4 w b o r0) : C4 (set4 w b o r) b o r := by
  obtain ⟨h0, h1, h2, h3⟩ := h
  unfold set4
  refine ⟨?_, ?_, ?_, ?_⟩
  · rw [setO (by omega), setO (by omega), setO (by omega)]; exact setS h0
  · rw [setO (by omega), setO (by omega)]; exact setS (by rw [setO (by omega)]; exact h1)
  · rw [setO (by omega)]; exact setS (by rw [setO (by omega), setO (by omega)]; exact h2)
  · exact setS (by rw [setO (by omega), setO (by omega), setO (by omega)]; exact h3)
theorem set4_frozen {w : World} {b o : Nat} {r : Vr} (h : ∀ i, w.frozen? ⟨b, i, none⟩ = false) : ∀ i, (set4 w b o r).frozen? ⟨b, i, none⟩ = false := fun i => by
  unfold set4
  rw [World.frozen?_setCell, World.frozen?_setCell, World.frozen?_setCell, World.frozen?_setCell]
  exact h i
theorem set4_writes {lo hi : Nat} {w wr : World} {b o : Nat} {r : Vr} (h : Writes lo hi w wr) (h1 : lo ≤ b) (h2 : b < hi) : Writes lo hi w (set4 wr b o r) := by
  unfold set4
  exact (((h.setCell (p := ⟨b, _, none⟩) h1 h2 _).setCell (p := ⟨b, _, none⟩) h1 h2 _).setCell (p := ⟨b, _, none⟩) h1 h2 _).setCell (p := ⟨b, _, none⟩) h1 h2 _
theorem set4_below {n : Nat} {w wr : World} {b o : Nat} {r : Vr} (h : Below n w wr) (h1 : n ≤ b) : Below n w (set4 wr b o r) := by
  unfold set4
  exact (((h.setCell (p := ⟨b, _, none⟩) h1 _).setCell (p := ⟨b, _, none⟩) h1 _).setCell (p := ⟨b, _, none⟩) h1 _).setCell (p := ⟨b, _, none⟩) h1 _
theorem set4_size {w : World} {b o : Nat} {r : Vr} : (set4 w b o r).heap.size = w.heap.size := by simp [set4, World.setCell]
/-- A row of which the k-th version is stored. -/
theorem row4_set {w : World} {b off n k : Nat} {R : Nat → Vr} {r : Vr} (hlt : k < n) (h : Row4 w b off n R) : Row4 (set4 w b (off + k * 4) r) b off n (fun i => if i = k then r else R i) := by
  refine ⟨fun i hi => ?_, set4_frozen h.2⟩
  by_cases e : i = k
  · subst e
    simp only [if_true]
    exact set4_same (h.1 i hi)
  · simp only [if_neg e]
    have g : ∀ j, j < 4 → (set4 w b (off + k * 4) r).cell? ⟨b, off + i * 4 + j, none⟩ = w.cell? ⟨b, off + i * 4 + j, none⟩ := fun j hj => set4_far (by omega)
    obtain ⟨h0, h1, h2, h3⟩ := h.1 i hi
    exact ⟨(g 0 (by omega)).trans h0, (g 1 (by omega)).trans h1, (g 2 (by omega)).trans h2, (g 3 (by omega)).trans h3⟩
theorem row4_congr {w : World} {b off n : Nat} {R S : Nat → Vr} (h : Row4 w b off n R) (e : ∀ i, i < n → R i = S i) : Row4 w b off n S := ⟨fun i hi => by rw [← e i hi]; exact h.1 i hi, h.2⟩
theorem row4_block {w w' : World} {b off n : Nat} {R : Nat → Vr} (h : Row4 w b off n R) (hb : w'.heap[b]? = w.heap[b]?) : Row4 w' b off n R :=
  ⟨fun i hi => (h.1 i hi).block hb, fun i => (World.frozen?_of_block (w := w) (a := ⟨b, i, none⟩) hb).trans (h.2 i)⟩
/-! ### copies -/
theorem toVersion_any (t a : Int) (g : Bool) (v : Int) (w : World) : Calls Tryz.prog 215 #[.agg #[.int .i64 t, .int .i64 a, .bool g, .int .i64 v]] w fun e w' =>
    e = .returned (.agg #[.int .i64 t, .int .i64 a, .bool g, .int .i64 v]) ∧ Below w.heap.size w w' := by
  go_enter Tryz.func215, Tryz.ntmps215
  go_wp2_with fail
  refine bodyPost_ret (v := .agg #[.int .i64 t, .int .i64 a, .bool g, .int .i64 v]) (by simp [results, Tryz.results215, go_sem]) rfl ⟨rfl, ?_⟩
  repeat (first | exact Below.refl _ _ | apply Below.drew | refine Below.setCell ?_ (by first | omega | (simp <;> omega)) _ | refine Below.alloc ?_ (by first | omega | (simp <;> omega)) _)
theorem infoV : (Tryz.prog.info? 179).map (fun i => (i.zero, i.size, i.bytes)) = some (some (.agg #[.int .i64 0, .int .i64 0, .bool false, .int .i64 0]), 4, 32) := by kernel_rfl
/-- 'make([]impl.Version, n)'. -/
theorem run_make_vers (n : Nat) (hn : n ≤ 1048576) (w : World) :
    (Instr.makeSlice 155 (.int .i64 (n : Int)) (.int .i64 (n : Int))).run Tryz.prog w = .ok (.slice (some ⟨w.heap.size, 0, none⟩) n n) (w.alloc (.cells (madeCells #[.int .i64 0, .int .i64 0, .bool false, .int .i64 0] (n * 4)) 179)) := by
  obtain ⟨i, hi, hzz⟩ := Option.map_eq_some_iff.1 infoV
  simp only [Prod.mk.injEq] at hzz
  obtain ⟨hz, hs, hb⟩ := hzz
  have hr := run_make (P := Tryz.prog) w 155 179 i _ Tryz.underlying155 hi hz .i64 .i64 n n (by omega) (Int.le_refl _) (by rw [hb]; omega) (by omega)
  simp only [Int.toNat_natCast, hs] at hr
  exact hr
def zV : Vr := ⟨0, 0, false, 0⟩
theorem made_vers (w : World) (n : Nat) : Row4 (w.alloc (.cells (madeCells #[.int .i64 0, .int .i64 0, .bool false, .int .i64 0] (n * 4)) 179)) w.heap.size 0 n (fun _ => zV) := by
  refine ⟨fun i hi => ?_, fun i => by simp [go_sem]⟩
  have c : ∀ j, j < 4 → (w.alloc (.cells (madeCells #[.int .i64 0, .int .i64 0, .bool false, .int .i64 0] (n * 4)) 179)).cell? ⟨w.heap.size, 0 + i * 4 + j, none⟩ = (#[Value.int .i64 0, .int .i64 0, .bool false, .int .i64 0])[j]? := fun j hj => by
    have l : i * 4 + j < n * 4 := by omega
    have : j = 0 ∨ j = 1 ∨ j = 2 ∨ j = 3 := by omega
    rcases this with rfl | rfl | rfl | rfl <;> simp [go_sem, madeCells] <;> exact ⟨_, by rw [Array.getElem?_range, if_pos (by omega)], by simp [Nat.add_mod]⟩
  exact ⟨c 0 (by omega), c 1 (by omega), c 2 (by omega), c 3 (by omega)⟩
def toK (R : Nat → Vr) (k i : Nat) : Vr := if i < k then R i else zV
theorem toK_step (R : Nat → Vr) (k i : Nat) : (if i = k then R k else toK R k i) = toK R (k + 1) i := by
  unfold toK
  by_cases e : i = k
  · subst e; simp
  · rw [if_neg e]
    have : (i < k + 1) ↔ (i < k) := by omega
    simp only [this]
set_option maxHeartbeats 1000000 in
theorem toVersionS_some (n : Nat) (R : Nat → Vr) (b off cap : Nat) (w : World) (hn : n ≤ 1048576) (hbl : b < w.heap.size) (hc : ∀ i, i < n → C4 w b (off + i * 4) (R i)) :
    Calls Tryz.prog 178 #[.slice (some ⟨b, off, none⟩) n cap] w fun e w' =>
      e = .returned (.slice (some ⟨w.heap.size, 0, none⟩) n n) ∧ Below w.heap.size w w' ∧ w.heap.size < w'.heap.size ∧ Row4 w' w.heap.size 0 n R := by
  have HC : Hid (∀ i, i < n → C4 w b (off + i * 4) (R i)) := hc
  have hmk := run_make_vers n hn
  clear hc
  go_enter Tryz.func178, Tryz.ntmps178
  go_wp2_with fail
  clear hmk
  go_loopw [4] (fun i wr => ∃ k : Nat, k ≤ n ∧ i = .int .i64 k ∧ Hid (Below w.heap.size w wr) ∧ w.heap.size < wr.heap.size ∧ Hid (Row4 wr w.heap.size 0 n (toK R k))) (fun i _ => n - (intOf i).toNat)
  case atStart => exact ⟨0, Nat.zero_le _, rfl, (Below.refl _ _).alloc (Nat.le_refl _) _, by simp, row4_congr (made_vers w n) (fun i _ => by simp [toK])⟩
  case round =>
    obtain ⟨k, hk0, rfl, HB, hsz, HR⟩ := hrel
    by_cases hlt : k < n
    · obtain ⟨x0, x1, x2, x3⟩ := (HC.out k hlt).block (HB.out.block _ hbl)
      obtain ⟨y0, y1, y2, y3⟩ := HR.out.1 k hlt
      have hf := HR.out.2
      have hlt' : (k : Int) < (n : Int) := by omega
      have hk1 : (0 : Int) ≤ (k : Int) := by omega
      generalize hr0 : toK R k k = r0 at *
      go_wp2_with fail
      refine (toVersion_any _ _ _ _ wr).mono ?_
      rintro e w1 ⟨rfl, hb1⟩
      have HR1 : Hid (Row4 w1 w.heap.size 0 n (toK R k)) := row4_block HR.out (hb1.block _ hsz)
      have HB1 : Hid (Below w.heap.size w w1) := below_then HB.out hb1
      have hs1 : w.heap.size < w1.heap.size := Nat.lt_of_lt_of_le hsz hb1.size
      replace y0 := cell_below y0 hb1
      replace y1 := cell_below y1 hb1
      replace y2 := cell_below y2 hb1
      replace y3 := cell_below y3 hb1
      replace hf := HR1.out.2
      rw [Nat.zero_add] at y0 y1 y2 y3
      clear x0 x1 x2 x3 hb1
      go_wp2_with fail
      go_roundw
      case rel => 
        have HS : Row4 (set4 w1 w.heap.size (0 + k * 4) (R k)) w.heap.size 0 n (toK R (k + 1)) := row4_congr (row4_set hlt HR1.out) (fun i _ => toK_step R k i)
        rw [Nat.zero_add] at HS
        exact ⟨k + 1, hlt, by go_num, set4_below (r := R k) (o := k * 4) HB1.out (Nat.le_refl _), by rw [show ((((w1.setCell ⟨w.heap.size, k * 4, none⟩ (.int .i64 (R k).t)).setCell ⟨w.heap.size, k * 4 + 1, none⟩ (.int .i64 (R k).a)).setCell ⟨w.heap.size, k * 4 + 2, none⟩ (.bool (R k).g)).setCell ⟨w.heap.size, k * 4 + 3, none⟩ (.int .i64 (R k).v)).heap.size = w1.heap.size from set4_size (r := R k) (o := k * 4)]; exact hs1, HS⟩
      case measure => simp [intOf]; omega
    · have hkn : k = n := by omega
      have HR1 : Hid (Row4 wr w.heap.size 0 n R) := row4_congr HR.out (fun i hi => by simp [toK, hkn, hi])
      have hnl : ¬ ((k : Int) < (n : Int)) := by omega
      go_wp2_with fail
      go_ret
      exact ⟨rfl, HB.out, hsz, HR1.out⟩
theorem toVersionS_zero (a : Option Addr) (cap : Nat) (w : World) :
    Calls Tryz.prog 178 #[.slice a 0 cap] w fun e w' => e = .returned (.slice (some ⟨w.heap.size, 0, none⟩) 0 0) ∧ Below w.heap.size w w' ∧ w.heap.size < w'.heap.size := by
  have hmk : ∀ w, (Instr.makeSlice 155 (.int .i64 0) (.int .i64 0)).run Tryz.prog w = .ok (.slice (some ⟨w.heap.size, 0, none⟩) 0 0) (w.alloc (.cells #[] 179)) := fun w => by
    have h := run_make_vers 0 (by omega) w
    rw [made_none] at h
    exact h
  go_enter Tryz.func178, Tryz.ntmps178
  go_wp2
  go_loop [4] (fun i => i = .int .i64 0) (fun _ => 0)
  case atStart => exact rfl
  case round =>
    obtain rfl := hrel
    go_wp2
    go_ret
    exact ⟨rfl, (Below.refl _ _).alloc (Nat.le_refl _) _, by simp⟩
theorem toVersionS_any (n : Nat) (R : Nat → Vr) (a : Option Addr) (cap : Nat) (w : World) (hn : n ≤ 1048576) (h : VersAt w a n R) :
    Calls Tryz.prog 178 #[.slice a n cap] w fun e w' => ∃ b,
      e = .returned (.slice (some ⟨b, 0, none⟩) n n) ∧ Below w.heap.size w w' ∧ Own4 w' w.heap.size w'.heap.size (some ⟨b, 0, none⟩) n R := by
  rcases h with rfl | ⟨b, off, rfl, hbl, hc⟩
  · refine (toVersionS_zero a cap w).mono ?_
    rintro e w' ⟨rfl, hb, _⟩
    exact ⟨_, rfl, hb, Nat.le_refl _, .inl rfl⟩
  · refine (toVersionS_some n R b off cap w hn hbl hc).mono ?_
    rintro e w' ⟨rfl, hb, hs, hr⟩
    exact ⟨_, rfl, hb, Nat.le_refl _, .inr ⟨_, 0, rfl, Nat.le_refl _, hs, hr⟩⟩
/-! ### equal -/
theorem eqVersion_same (t a : Int) (g : Bool) (v : Int) (w : World) :
    Calls Tryz.prog 221 #[.agg #[.int .i64 t, .int .i64 a, .bool g, .int .i64 v], .agg #[.int .i64 t, .int .i64 a, .bool g, .int .i64 v]] w fun e w' => e = .returned (.bool true) ∧ Below w.heap.size w w' := by
  have hb0 : ∀ o1 o2, Below w.heap.size w ((w.alloc o1).alloc o2) := fun o1 o2 => ((Below.refl _ _).alloc (Nat.le_refl _) _).alloc (by simp) _
  have e1 : (g != g) = false := by simp
  go_enter Tryz.func221, Tryz.ntmps221
  go_wp2_with fail
  go_ret
  exact ⟨rfl, hb0 _ _⟩
theorem eqVersionS_zero (a a' : Option Addr) (cap cap' : Nat) (w : World) : Calls Tryz.prog 184 #[.slice a 0 cap, .slice a' 0 cap'] w fun e w' => e = .returned (.bool true) ∧ Below w.heap.size w w' := by
  go_enter Tryz.func184, Tryz.ntmps184
  go_wp2_with fail
  go_loop [5] (fun i => i = .int .i64 0) (fun _ => 0)
  case atStart => exact rfl
  case round =>
    obtain rfl := hrel
    go_wp2_with fail
    go_ret
    exact ⟨rfl, Below.refl _ _⟩
theorem drewB6 {w1 w2 : World} (hb : Below w1.drew.heap.size w1.drew w2) : Below w1.heap.size w1 w2 := ((Below.refl _ _).drew).trans hb
set_option maxHeartbeats 2000000 in
theorem eqVersionS_some (n : Nat) (R : Nat → Vr) (b off cap b' off' cap' : Nat) (w : World) (hn : n ≤ 1048576) (hbl : b < w.heap.size) (hbl' : b' < w.heap.size) (hc : ∀ i, i < n → C4 w b (off + i * 4) (R i)) (hc' : ∀ i, i < n → C4 w b' (off' + i * 4) (R i)) :
    Calls Tryz.prog 184 #[.slice (some ⟨b, off, none⟩) n cap, .slice (some ⟨b', off', none⟩) n cap'] w fun e w' => e = .returned (.bool true) ∧ Below w.heap.size w w' := by
  have HC : Hid (∀ i, i < n → C4 w b (off + i * 4) (R i)) := hc
  have HC' : Hid (∀ i, i < n → C4 w b' (off' + i * 4) (R i)) := hc'
  have hne : ((n : Int) != (n : Int)) = false := by simp
  clear hc hc'
  go_enter Tryz.func184, Tryz.ntmps184
  go_wp2_with fail
  go_loopw [5] (fun i wr => ∃ k : Nat, k ≤ n ∧ i = .int .i64 k ∧ Hid (Below w.heap.size w wr)) (fun i _ => n - (intOf i).toNat)
  case atStart => exact ⟨0, Nat.zero_le _, rfl, Below.refl _ _⟩
  case round =>
    obtain ⟨k, hk, rfl, HB⟩ := hrel
    by_cases hlt : k < n
    · have hlt' : (k : Int) < (n : Int) := by omega
      have hk0 : (0 : Int) ≤ (k : Int) := by omega
      obtain ⟨x0, x1, x2, x3⟩ := (HC.out k hlt).block (HB.out.block _ hbl)
      obtain ⟨y0, y1, y2, y3⟩ := (HC'.out k hlt).block (HB.out.block _ hbl')
      generalize R k = r at *
      go_wp2_with fail
      go_region_law (first | (go_simp; go_at_call 221; refine (eqVersion_same r.t r.a r.g r.v _).mono ?_; rintro e w1 ⟨rfl, hb1⟩; have HB1 : Hid (Below w.heap.size w w1) := below_then HB.out (drewB6 hb1)))
      all_goals
        go_wp2_with fail
        go_roundw
        case rel => exact ⟨k + 1, hlt, by go_num, HB1⟩
        case measure => simp [intOf]; omega
    · have hnl : ¬ ((k : Int) < (n : Int)) := by omega
      go_wp2_with fail
      go_ret
      exact ⟨rfl, HB.out⟩
theorem eqVersionS_any (n : Nat) (R : Nat → Vr) (a a' : Option Addr) (cap cap' : Nat) (w : World) (hn : n ≤ 1048576) (h : VersAt w a n R) (h' : VersAt w a' n R) :
    Calls Tryz.prog 184 #[.slice a n cap, .slice a' n cap'] w fun e w' => e = .returned (.bool true) ∧ Below w.heap.size w w' := by
  rcases h with rfl | ⟨b, off, rfl, hl, hc⟩
  · exact eqVersionS_zero a a' cap cap' w
  · rcases h' with rfl | ⟨b', off', rfl, hl', hc'⟩
    · exact eqVersionS_zero _ a' cap cap' w
    · exact eqVersionS_some n R b off cap b' off' cap' w hn hl hl' hc hc'
def mV (m : Int) (i : Nat) : Vr := ⟨m + i * 4, m + i * 4 + 1, (m + i * 4 + 2) % 3 == 0, m + i * 4 + 3⟩
def mkV (m : Int) (R : Nat → Vr) (j i : Nat) : Vr := if i < j then mV m i else R i
theorem mkV_step (m : Int) (R : Nat → Vr) (k i : Nat) : (if i = k then mV m k else mkV m R k i) = mkV m R (k + 1) i := by
  unfold mkV
  by_cases e : i = k
  · subst e; simp
  · rw [if_neg e]
    have : (i < k + 1) ↔ (i < k) := by omega
    simp only [this]
set_option maxHeartbeats 4000000 in
theorem markVersionS_some (n : Nat) (R : Nat → Vr) (b off cap lo hi : Nat) (m : Int) (w : World) (hn : n ≤ 1048576) (hm1 : 0 ≤ m) (hm2 : m ≤ 8796093022208) (hlo : lo ≤ b) (hhi : b < hi) (hr : Row4 w b off n R) :
    Calls Tryz.prog 126 #[.slice (some ⟨b, off, none⟩) n cap, .int .i64 m] w fun e w' =>
      e = .returned (.int .i64 (m + n * 4)) ∧ Writes lo hi w w' ∧ Row4 w' b off n (mkV m R n) := by
  have HR0 : Hid (Row4 w b off n (mkV m R 0)) := ⟨fun i h => by have := hr.1 i h; simpa [mkV] using this, hr.2⟩
  clear hr
  go_enter Tryz.func126, Tryz.ntmps126
  go_wp2_with fail
  go_loopw [1, 5] (fun q i wr => ∃ k : Nat, k ≤ n ∧ i = .int .i64 k ∧ q = .int .i64 (m + k * 4) ∧ Hid (Writes lo hi w wr) ∧ Hid (Row4 wr b off n (mkV m R k))) (fun _ i _ => n - (intOf i).toNat)
  case atStart => exact ⟨0, Nat.zero_le _, rfl, by go_num, Writes.refl _ _ _, HR0⟩
  case round =>
    obtain ⟨k, hk0, rfl, rfl, HB, HR⟩ := hrel
    by_cases hlt : k < n
    · obtain ⟨h0, h1, h2, h3⟩ := HR.out.1 k hlt
      have hf := HR.out.2
      generalize mkV m R k k = r at *
      have hk' : (k : Int) < (n : Int) := by omega
      have hk1 : (0 : Int) ≤ (k : Int) := by omega
      have g1 : IntKind.i64.wrap (m + k * 4 + 1) = m + k * 4 + 1 := by rw [IntKind.wrap_i64]; omega
      have g2 : IntKind.i64.wrap (m + k * 4 + 1 + 1) = m + k * 4 + 2 := by rw [IntKind.wrap_i64]; omega
      have g3 : IntKind.i64.wrap (m + k * 4 + 2 + 1) = m + k * 4 + 3 := by rw [IntKind.wrap_i64]; omega
      have g4 : IntKind.i64.wrap (m + k * 4 + 3 + 1) = m + k * 4 + 4 := by rw [IntKind.wrap_i64]; omega
      go_wp2_with fail
      go_roundw
      case rel => exact ⟨k + 1, hlt, by go_num, by go_num, set4_writes (r := mV m k) (o := off + k * 4) HB.out hlo hhi, row4_congr (row4_set (r := mV m k) hlt HR.out) (fun i _ => mkV_step m R k i)⟩
      case measure => simp [intOf]; omega
    · have hkn : k = n := by omega
      have HR1 : Hid (Row4 wr b off n (mkV m R n)) := by have h := HR.out; rw [hkn] at h; exact h
      have hnl : ¬ ((k : Int) < (n : Int)) := by omega
      go_wp2_with fail
      go_ret
      exact ⟨rfl, HB.out, HR1.out⟩
theorem markVersionS_zero (a : Option Addr) (cap : Nat) (m : Int) (w : World) : Calls Tryz.prog 126 #[.slice a 0 cap, .int .i64 m] w fun e w' => e = .returned (.int .i64 m) ∧ w' = w := by
  go_enter Tryz.func126, Tryz.ntmps126
  go_wp2
  go_loop [1, 5] (fun q i => q = .int .i64 m ∧ i = .int .i64 0) (fun _ _ => 0)
  case atStart => exact ⟨rfl, rfl⟩
  case round =>
    obtain ⟨rfl, rfl⟩ := hrel
    go_wp2
    go_ret
    exact ⟨rfl, rfl⟩
theorem markVersionS_any (n : Nat) (R : Nat → Vr) (a : Option Addr) (cap lo hi : Nat) (m : Int) (w : World) (hn : n ≤ 1048576) (hm1 : 0 ≤ m) (hm2 : m ≤ 8796093022208) (h : Own4 w lo hi a n R) :
    Calls Tryz.prog 126 #[.slice a n cap, .int .i64 m] w fun e w' => e = .returned (.int .i64 (m + n * 4)) ∧ Writes lo hi w w' ∧ Own4 w' lo hi a n (mV m) := by
  obtain ⟨h0, rfl | ⟨b, off, rfl, hlo, hhi, hr⟩⟩ := h
  · refine (markVersionS_zero a cap m w).mono ?_
    rintro e w' ⟨rfl, rfl⟩
    exact ⟨ret_int (by omega), Writes.refl _ _ _, h0, .inl rfl⟩
  · refine (markVersionS_some n R b off cap lo hi m w hn hm1 hm2 hlo hhi hr).mono ?_
    rintro e w' ⟨rfl, hw, h1, h2⟩
    exact ⟨rfl, hw, Nat.le_trans h0 hw.size, .inr ⟨b, off, rfl, hlo, hhi, fun i hi => by have := h1 i hi; simpa [mkV, hi] using this, h2⟩⟩
/-! ### held -/
set_option maxHeartbeats 4000000 in
theorem heldVersionS_some (n b off cap : Nat) (m : Int) (w : World) (hn : n ≤ 1048576) (hm1 : 0 ≤ m) (hm2 : m ≤ 8796093022208) (hc : ∀ i, i < n → C4 w b (off + i * 4) (mV m i)) :
    Calls Tryz.prog 186 #[.slice (some ⟨b, off, none⟩) n cap, .int .i64 m] w fun e w' => e = .returned (.int .i64 (m + n * 4)) ∧ w' = w := by
  have HC : Hid (∀ i, i < n → C4 w b (off + i * 4) (mV m i)) := hc
  clear hc
  go_enter Tryz.func186, Tryz.ntmps186
  go_wp2_with fail
  go_loop [1, 5] (fun q i => ∃ k : Nat, k ≤ n ∧ i = .int .i64 k ∧ q = .int .i64 (m + k * 4)) (fun _ i => n - (intOf i).toNat)
  case atStart => exact ⟨0, Nat.zero_le _, rfl, by go_num⟩
  case round =>
    obtain ⟨k, hk0, rfl, rfl⟩ := hrel
    by_cases hlt : k < n
    · obtain ⟨h0, h1, h2, h3⟩ := HC.out k hlt
      simp only [mV] at h0 h1 h2 h3
      have hk' : (k : Int) < (n : Int) := by omega
      have hk1 : (0 : Int) ≤ (k : Int) := by omega
      have g1 : IntKind.i64.wrap (m + k * 4 + 1) = m + k * 4 + 1 := by rw [IntKind.wrap_i64]; omega
      have g2 : IntKind.i64.wrap (m + k * 4 + 1 + 1) = m + k * 4 + 2 := by rw [IntKind.wrap_i64]; omega
      have g3 : IntKind.i64.wrap (m + k * 4 + 2 + 1) = m + k * 4 + 3 := by rw [IntKind.wrap_i64]; omega
      have g4 : IntKind.i64.wrap (m + k * 4 + 3 + 1) = m + k * 4 + 4 := by rw [IntKind.wrap_i64]; omega
      have e3 : (((m + k * 4 + 2) % 3 == 0) != ((m + k * 4 + 2) % 3 == 0)) = false := by simp
      go_wp2_with fail
      go_round
      case rel => exact ⟨k + 1, hlt, by go_num, by go_num⟩
      case measure => simp [intOf]; omega
    · have hkn : k = n := by omega
      have hnl : ¬ ((k : Int) < (n : Int)) := by omega
      go_wp2_with fail
      go_ret
      exact ⟨rfl, rfl⟩
theorem heldVersionS_zero (a : Option Addr) (cap : Nat) (m : Int) (w : World) : Calls Tryz.prog 186 #[.slice a 0 cap, .int .i64 m] w fun e w' => e = .returned (.int .i64 m) ∧ w' = w := by
  go_enter Tryz.func186, Tryz.ntmps186
  go_wp2
  go_loop [1, 5] (fun q i => q = .int .i64 m ∧ i = .int .i64 0) (fun _ _ => 0)
  case atStart => exact ⟨rfl, rfl⟩
  case round =>
    obtain ⟨rfl, rfl⟩ := hrel
    go_wp2
    go_ret
    exact ⟨rfl, rfl⟩
theorem heldVersionS_any (n : Nat) (a : Option Addr) (cap : Nat) (m : Int) (w : World) (hn : n ≤ 1048576) (hm1 : 0 ≤ m) (hm2 : m ≤ 8796093022208) (h : VersAt w a n (mV m)) :
    Calls Tryz.prog 186 #[.slice a n cap, .int .i64 m] w fun e w' => e = .returned (.int .i64 (m + n * 4)) ∧ w' = w := by
  rcases h with rfl | ⟨b, off, rfl, _, hc⟩
  · refine (heldVersionS_zero a cap m w).mono ?_
    rintro e w' ⟨rfl, rfl⟩
    exact ⟨ret_int (by omega), rfl⟩
  · exact heldVersionS_some n b off cap m w hn hm1 hm2 hc
/-! ### answers that are chains -/
/-! ### arguments, opened -/
theorem cellsVer : Tryz.prog.cellsOf 265 = 4 := by kernel_rfl
theorem cellsI : Tryz.prog.cellsOf 2 = 1 := by kernel_rfl
theorem cellsB : Tryz.prog.cellsOf 4 = 1 := by kernel_rfl
/-- An undo's four fields. -/
structure Ud where
  k : Int
  h : Bool
  g : Bool
  v : Int
/-- Its cells. -/
def CU (w : World) (b o : Nat) (r : Ud) : Prop :=
  w.cell? ⟨b, o, none⟩ = some (.int .i64 r.k) ∧ w.cell? ⟨b, o + 1, none⟩ = some (.bool r.h) ∧ w.cell? ⟨b, o + 2, none⟩ = some (.bool r.g) ∧ w.cell? ⟨b, o + 3, none⟩ = some (.int .i64 r.v)
theorem CU.block {w w' : World} {b o : Nat} {r : Ud} (h : CU w b o r) (e : w'.heap[b]? = w.heap[b]?) : CU w' b o r := by
  have g : ∀ i, w'.cell? ⟨b, i, none⟩ = w.cell? ⟨b, i, none⟩ := fun i => World.cell?_of_block (w := w) (a := ⟨b, i, none⟩) e
  obtain ⟨h0, h1, h2, h3⟩ := h
  exact ⟨(g _).trans h0, (g _).trans h1, (g _).trans h2, (g _).trans h3⟩
/-- The slice at 'a' has the n undos R. -/
def UndsAt (w : World) (a : Option Addr) (n : Nat) (R : Nat → Ud) : Prop := n = 0 ∨ ∃ b off, a = some ⟨b, off, none⟩ ∧ b < w.heap.size ∧ ∀ i, i < n → CU w b (off + i * 4) (R i)
def RowU (w : World) (b off n : Nat) (R : Nat → Ud) : Prop := (∀ i, i < n → CU w b (off + i * 4) (R i)) ∧ ∀ i, w.frozen? ⟨b, i, none⟩ = false
def OwnU (w : World) (lo hi : Nat) (a : Option Addr) (n : Nat) (R : Nat → Ud) : Prop := hi ≤ w.heap.size ∧ (n = 0 ∨ ∃ b off, a = some ⟨b, off, none⟩ ∧ lo ≤ b ∧ b < hi ∧ RowU w b off n R)
theorem UndsAt.below {w w' : World} {a : Option Addr} {n : Nat} {R : Nat → Ud} (h : UndsAt w a n R) (hb : Below w.heap.size w w') : UndsAt w' a n R := by
  rcases h with h | ⟨b, off, ha, hl, hc⟩
  · exact .inl h
  · exact .inr ⟨b, off, ha, Nat.lt_of_lt_of_le hl hb.size, fun i hi => (hc i hi).block (hb.block _ hl)⟩
theorem OwnU.at {w : World} {lo hi : Nat} {a : Option Addr} {n : Nat} {R : Nat → Ud} (h : OwnU w lo hi a n R) : UndsAt w a n R := by
  obtain ⟨h0, h1 | ⟨b, off, ha, _, hl, hc⟩⟩ := h
  · exact .inl h1
  · exact .inr ⟨b, off, ha, by omega, hc.1⟩
theorem OwnU.congr {w : World} {lo hi : Nat} {a : Option Addr} {n : Nat} {R S : Nat → Ud} (h : OwnU w lo hi a n R) (e : ∀ i, i < n → R i = S i) : OwnU w lo hi a n S := by
  obtain ⟨h0, h1 | ⟨b, off, ha, h2, hl, hc⟩⟩ := h
  · exact ⟨h0, .inl h1⟩
  · exact ⟨h0, .inr ⟨b, off, ha, h2, hl, fun i hi => by rw [← e i hi]; exact hc.1 i hi, hc.2⟩⟩
theorem OwnU.writes {w w' : World} {lo hi lo' hi' : Nat} {a : Option Addr} {n : Nat} {R : Nat → Ud} (h : OwnU w lo hi a n R) (hw : Writes lo' hi' w w') (hd : hi ≤ lo' ∨ hi' ≤ lo) : OwnU w' lo hi a n R := by
  obtain ⟨h0, h1 | ⟨b, off, ha, h2, hl, hc⟩⟩ := h
  · exact ⟨Nat.le_trans h0 hw.size, .inl h1⟩
  · have hb := hw.block b (by omega) (by omega)
    exact ⟨Nat.le_trans h0 hw.size, .inr ⟨b, off, ha, h2, hl, fun i hi => (hc.1 i hi).block hb, fun i => (World.frozen?_of_block (w := w) (a := ⟨b, i, none⟩) hb).trans (hc.2 i)⟩⟩
theorem OwnU.wide {w : World} {lo hi lo' hi' : Nat} {a : Option Addr} {n : Nat} {R : Nat → Ud} (h : OwnU w lo hi a n R) (h1 : lo' ≤ lo) (h2 : hi ≤ hi') (h3 : hi' ≤ w.heap.size) : OwnU w lo' hi' a n R := by
  obtain ⟨h0, h4 | ⟨b, off, ha, h5, hl, r⟩⟩ := h
  · exact ⟨h3, .inl h4⟩
  · exact ⟨h3, .inr ⟨b, off, ha, by omega, by omega, r⟩⟩
/-! ### an undo is stored -/
def setU (w : World) (b o : Nat) (r : Ud) : World :=
  (((w.setCell ⟨b, o, none⟩ (.int .i64 r.k)).setCell ⟨b, o + 1, none⟩ (.bool r.h)).setCell ⟨b, o + 2, none⟩ (.bool r.g)).setCell ⟨b, o + 3, none⟩ (.int .i64 r.v)
theorem setU_far {w : World} {b o o' : Nat} {r : Ud} (h : o' < o ∨ o + 3 < o') : (setU w b o r).cell? ⟨b, o', none⟩ = w.cell? ⟨b, o', none⟩ := by
  unfold setU
  rw [setO (by omega), setO (by omega), setO (by omega), setO (by omega)]
theorem setU_same {w : World} {b o : Nat} {r r0 : Ud} (h : CU w b o r0) : CU (setU w b o r) b o r := by
  obtain ⟨h0, h1, h2, h3⟩ := h
  unfold setU
  refine ⟨?_, ?_, ?_, ?_⟩
  · rw [setO (by omega), setO (by omega), setO (by omega)]; exact setS h0
  · rw [setO (by omega), setO (by omega)]; exact setS (by rw [setO (by omega)]; exact h1)
  · rw [setO (by omega)]; exact setS (by rw [setO (by omega), setO (by omega)]; exact h2)
  · exact setS (by rw [setO (by omega), setO (by omega), setO (by omega)]; exact h3)
theorem setU_frozen {w : World} {b o : Nat} {r : Ud} (h : ∀ i, w.frozen? ⟨b, i, none⟩ = false) : ∀ i, (setU w b o r).frozen? ⟨b, i, none⟩ = false := fun i => by
  unfold setU
  rw [World.frozen?_setCell, World.frozen?_setCell, World.frozen?_setCell, World.frozen?_setCell]
  exact h i
theorem setU_writes {lo hi : Nat} {w wr : World} {b o : Nat} {r : Ud} (h : Writes lo hi w wr) (h1 : lo ≤ b) (h2 : b < hi) : Writes lo hi w (setU wr b o r) := by
  unfold setU
  exact (((h.setCell (p := ⟨b, _, none⟩) h1 h2 _).setCell (p := ⟨b, _, none⟩) h1 h2 _).setCell (p := ⟨b, _, none⟩) h1 h2 _).setCell (p := ⟨b, _, none⟩) h1 h2 _
theorem setU_below {n : Nat} {w wr : World} {b o : Nat} {r : Ud} (h : Below n w wr) (h1 : n ≤ b) : Below n w (setU wr b o r) := by
  unfold setU
  exact (((h.setCell (p := ⟨b, _, none⟩) h1 _).setCell (p := ⟨b, _, none⟩) h1 _).setCell (p := ⟨b, _, none⟩) h1 _).setCell (p := ⟨b, _, none⟩) h1 _
theorem setU_size {w : World} {b o : Nat} {r : Ud} : (setU w b o r).heap.size = w.heap.size := by simp [setU, World.setCell]
/-- A row of which the k-th undo is stored. -/
theorem rowU_set {w : World} {b off n k : Nat} {R : Nat → Ud} {r : Ud} (hlt : k < n) (h : RowU w b off n R) : RowU (setU w b (off + k * 4) r) b off n (fun i => if i = k then r else R i) := by
  refine ⟨fun i hi => ?_, setU_frozen h.2⟩
  by_cases e : i = k
  · subst e
    simp only [if_true]
    exact setU_same (h.1 i hi)
  · simp only [if_neg e]
    have g : ∀ j, j < 4 → (setU w b (off + k * 4) r).cell? ⟨b, off + i * 4 + j, none⟩ = w.cell? ⟨b, off + i * 4 + j, none⟩ := fun j hj => setU_far (by omega)
    obtain ⟨h0, h1, h2, h3⟩ := h.1 i hi
    exact ⟨(g 0 (by omega)).trans h0, (g 1 (by omega)).trans h1, (g 2 (by omega)).trans h2, (g 3 (by omega)).trans h3⟩
theorem rowU_congr {w : World} {b off n : Nat} {R S : Nat → Ud} (h : RowU w b off n R) (e : ∀ i, i < n → R i = S i) : RowU w b off n S := ⟨fun i hi => by rw [← e i hi]; exact h.1 i hi, h.2⟩
theorem rowU_block {w w' : World} {b off n : Nat} {R : Nat → Ud} (h : RowU w b off n R) (hb : w'.heap[b]? = w.heap[b]?) : RowU w' b off n R :=
  ⟨fun i hi => (h.1 i hi).block hb, fun i => (World.frozen?_of_block (w := w) (a := ⟨b, i, none⟩) hb).trans (h.2 i)⟩
/-! ### copies -/
theorem toUndo_any (t : Int) (a : Bool) (g : Bool) (v : Int) (w : World) : Calls Tryz.prog 214 #[.agg #[.int .i64 t, .bool a, .bool g, .int .i64 v]] w fun e w' =>
    e = .returned (.agg #[.int .i64 t, .bool a, .bool g, .int .i64 v]) ∧ Below w.heap.size w w' := by
  go_enter Tryz.func214, Tryz.ntmps214
  go_wp2_with fail
  refine bodyPost_ret (v := .agg #[.int .i64 t, .bool a, .bool g, .int .i64 v]) (by simp [results, Tryz.results214, go_sem]) rfl ⟨rfl, ?_⟩
  repeat (first | exact Below.refl _ _ | apply Below.drew | refine Below.setCell ?_ (by first | omega | (simp <;> omega)) _ | refine Below.alloc ?_ (by first | omega | (simp <;> omega)) _)
theorem infoU : (Tryz.prog.info? 176).map (fun i => (i.zero, i.size, i.bytes)) = some (some (.agg #[.int .i64 0, .bool false, .bool false, .int .i64 0]), 4, 24) := by kernel_rfl
/-- 'make([]impl.Undo, n)'. -/
theorem run_make_unds (n : Nat) (hn : n ≤ 1048576) (w : World) :
    (Instr.makeSlice 125 (.int .i64 (n : Int)) (.int .i64 (n : Int))).run Tryz.prog w = .ok (.slice (some ⟨w.heap.size, 0, none⟩) n n) (w.alloc (.cells (madeCells #[.int .i64 0, .bool false, .bool false, .int .i64 0] (n * 4)) 176)) := by
  obtain ⟨i, hi, hzz⟩ := Option.map_eq_some_iff.1 infoU
  simp only [Prod.mk.injEq] at hzz
  obtain ⟨hz, hs, hb⟩ := hzz
  have hr := run_make (P := Tryz.prog) w 125 176 i _ Tryz.underlying125 hi hz .i64 .i64 n n (by omega) (Int.le_refl _) (by rw [hb]; omega) (by omega)
  simp only [Int.toNat_natCast, hs] at hr
  exact hr
def zU : Ud := ⟨0, false, false, 0⟩
theorem made_unds (w : World) (n : Nat) : RowU (w.alloc (.cells (madeCells #[.int .i64 0, .bool false, .bool false, .int .i64 0] (n * 4)) 176)) w.heap.size 0 n (fun _ => zU) := by
  refine ⟨fun i hi => ?_, fun i => by simp [go_sem]⟩
  have c : ∀ j, j < 4 → (w.alloc (.cells (madeCells #[.int .i64 0, .bool false, .bool false, .int .i64 0] (n * 4)) 176)).cell? ⟨w.heap.size, 0 + i * 4 + j, none⟩ = (#[Value.int .i64 0, .bool false, .bool false, .int .i64 0])[j]? := fun j hj => by
    have l : i * 4 + j < n * 4 := by omega
    have : j = 0 ∨ j = 1 ∨ j = 2 ∨ j = 3 := by omega
    rcases this with rfl | rfl | rfl | rfl <;> simp [go_sem, madeCells] <;> exact ⟨_, by rw [Array.getElem?_range, if_pos (by omega)], by simp [Nat.add_mod]⟩
  exact ⟨c 0 (by omega), c 1 (by omega), c 2 (by omega), c 3 (by omega)⟩
def toKU (R : Nat → Ud) (k i : Nat) : Ud := if i < k then R i else zU
theorem toKU_step (R : Nat → Ud) (k i : Nat) : (if i = k then R k else toKU R k i) = toKU R (k + 1) i := by
  unfold toKU
  by_cases e : i = k
  · subst e; simp
  · rw [if_neg e]
    have : (i < k + 1) ↔ (i < k) := by omega
    simp only [this]
set_option maxHeartbeats 1000000 in
theorem toUndoS_some (n : Nat) (R : Nat → Ud) (b off cap : Nat) (w : World) (hn : n ≤ 1048576) (hbl : b < w.heap.size) (hc : ∀ i, i < n → CU w b (off + i * 4) (R i)) :
    Calls Tryz.prog 177 #[.slice (some ⟨b, off, none⟩) n cap] w fun e w' =>
      e = .returned (.slice (some ⟨w.heap.size, 0, none⟩) n n) ∧ Below w.heap.size w w' ∧ w.heap.size < w'.heap.size ∧ RowU w' w.heap.size 0 n R := by
  have HC : Hid (∀ i, i < n → CU w b (off + i * 4) (R i)) := hc
  have hmk := run_make_unds n hn
  clear hc
  go_enter Tryz.func177, Tryz.ntmps177
  go_wp2_with fail
  clear hmk
  go_loopw [4] (fun i wr => ∃ k : Nat, k ≤ n ∧ i = .int .i64 k ∧ Hid (Below w.heap.size w wr) ∧ w.heap.size < wr.heap.size ∧ Hid (RowU wr w.heap.size 0 n (toKU R k))) (fun i _ => n - (intOf i).toNat)
  case atStart => exact ⟨0, Nat.zero_le _, rfl, (Below.refl _ _).alloc (Nat.le_refl _) _, by simp, rowU_congr (made_unds w n) (fun i _ => by simp [toKU])⟩
  case round =>
    obtain ⟨k, hk0, rfl, HB, hsz, HR⟩ := hrel
    by_cases hlt : k < n
    · obtain ⟨x0, x1, x2, x3⟩ := (HC.out k hlt).block (HB.out.block _ hbl)
      obtain ⟨y0, y1, y2, y3⟩ := HR.out.1 k hlt
      have hf := HR.out.2
      have hlt' : (k : Int) < (n : Int) := by omega
      have hk1 : (0 : Int) ≤ (k : Int) := by omega
      generalize hr0 : toKU R k k = r0 at *
      go_wp2_with fail
      refine (toUndo_any _ _ _ _ wr).mono ?_
      rintro e w1 ⟨rfl, hb1⟩
      have HR1 : Hid (RowU w1 w.heap.size 0 n (toKU R k)) := rowU_block HR.out (hb1.block _ hsz)
      have HB1 : Hid (Below w.heap.size w w1) := below_then HB.out hb1
      have hs1 : w.heap.size < w1.heap.size := Nat.lt_of_lt_of_le hsz hb1.size
      replace y0 := cell_below y0 hb1
      replace y1 := cell_below y1 hb1
      replace y2 := cell_below y2 hb1
      replace y3 := cell_below y3 hb1
      replace hf := HR1.out.2
      rw [Nat.zero_add] at y0 y1 y2 y3
      clear x0 x1 x2 x3 hb1
      go_wp2_with fail
      go_roundw
      case rel => 
        have HS : RowU (setU w1 w.heap.size (0 + k * 4) (R k)) w.heap.size 0 n (toKU R (k + 1)) := rowU_congr (rowU_set hlt HR1.out) (fun i _ => toKU_step R k i)
        rw [Nat.zero_add] at HS
        exact ⟨k + 1, hlt, by go_num, setU_below (r := R k) (o := k * 4) HB1.out (Nat.le_refl _), by rw [show ((((w1.setCell ⟨w.heap.size, k * 4, none⟩ (.int .i64 (R k).k)).setCell ⟨w.heap.size, k * 4 + 1, none⟩ (.bool (R k).h)).setCell ⟨w.heap.size, k * 4 + 2, none⟩ (.bool (R k).g)).setCell ⟨w.heap.size, k * 4 + 3, none⟩ (.int .i64 (R k).v)).heap.size = w1.heap.size from setU_size (r := R k) (o := k * 4)]; exact hs1, HS⟩
      case measure => simp [intOf]; omega
    · have hkn : k = n := by omega
      have HR1 : Hid (RowU wr w.heap.size 0 n R) := rowU_congr HR.out (fun i hi => by simp [toKU, hkn, hi])
      have hnl : ¬ ((k : Int) < (n : Int)) := by omega
      go_wp2_with fail
      go_ret
      exact ⟨rfl, HB.out, hsz, HR1.out⟩
theorem toUndoS_zero (a : Option Addr) (cap : Nat) (w : World) :
    Calls Tryz.prog 177 #[.slice a 0 cap] w fun e w' => e = .returned (.slice (some ⟨w.heap.size, 0, none⟩) 0 0) ∧ Below w.heap.size w w' ∧ w.heap.size < w'.heap.size := by
  have hmk : ∀ w, (Instr.makeSlice 125 (.int .i64 0) (.int .i64 0)).run Tryz.prog w = .ok (.slice (some ⟨w.heap.size, 0, none⟩) 0 0) (w.alloc (.cells #[] 176)) := fun w => by
    have h := run_make_unds 0 (by omega) w
    rw [made_none] at h
    exact h
  go_enter Tryz.func177, Tryz.ntmps177
  go_wp2
  go_loop [4] (fun i => i = .int .i64 0) (fun _ => 0)
  case atStart => exact rfl
  case round =>
    obtain rfl := hrel
    go_wp2
    go_ret
    exact ⟨rfl, (Below.refl _ _).alloc (Nat.le_refl _) _, by simp⟩
theorem toUndoS_any (n : Nat) (R : Nat → Ud) (a : Option Addr) (cap : Nat) (w : World) (hn : n ≤ 1048576) (h : UndsAt w a n R) :
    Calls Tryz.prog 177 #[.slice a n cap] w fun e w' => ∃ b,
      e = .returned (.slice (some ⟨b, 0, none⟩) n n) ∧ Below w.heap.size w w' ∧ OwnU w' w.heap.size w'.heap.size (some ⟨b, 0, none⟩) n R := by
  rcases h with rfl | ⟨b, off, rfl, hbl, hc⟩
  · refine (toUndoS_zero a cap w).mono ?_
    rintro e w' ⟨rfl, hb, _⟩
    exact ⟨_, rfl, hb, Nat.le_refl _, .inl rfl⟩
  · refine (toUndoS_some n R b off cap w hn hbl hc).mono ?_
    rintro e w' ⟨rfl, hb, hs, hr⟩
    exact ⟨_, rfl, hb, Nat.le_refl _, .inr ⟨_, 0, rfl, Nat.le_refl _, hs, hr⟩⟩
/-! ### equal -/
theorem eqUndo_same (t : Int) (a : Bool) (g : Bool) (v : Int) (w : World) :
    Calls Tryz.prog 220 #[.agg #[.int .i64 t, .bool a, .bool g, .int .i64 v], .agg #[.int .i64 t, .bool a, .bool g, .int .i64 v]] w fun e w' => e = .returned (.bool true) ∧ Below w.heap.size w w' := by
  have hb0 : ∀ o1 o2, Below w.heap.size w ((w.alloc o1).alloc o2) := fun o1 o2 => ((Below.refl _ _).alloc (Nat.le_refl _) _).alloc (by simp) _
  have e1 : (g != g) = false := by simp
  have e2 : (a != a) = false := by simp
  go_enter Tryz.func220, Tryz.ntmps220
  go_wp2_with fail
  go_ret
  exact ⟨rfl, hb0 _ _⟩
theorem eqUndoS_zero (a a' : Option Addr) (cap cap' : Nat) (w : World) : Calls Tryz.prog 183 #[.slice a 0 cap, .slice a' 0 cap'] w fun e w' => e = .returned (.bool true) ∧ Below w.heap.size w w' := by
  go_enter Tryz.func183, Tryz.ntmps183
  go_wp2_with fail
  go_loop [5] (fun i => i = .int .i64 0) (fun _ => 0)
  case atStart => exact rfl
  case round =>
    obtain rfl := hrel
    go_wp2_with fail
    go_ret
    exact ⟨rfl, Below.refl _ _⟩
set_option maxHeartbeats 2000000 in
theorem eqUndoS_some (n : Nat) (R : Nat → Ud) (b off cap b' off' cap' : Nat) (w : World) (hn : n ≤ 1048576) (hbl : b < w.heap.size) (hbl' : b' < w.heap.size) (hc : ∀ i, i < n → CU w b (off + i * 4) (R i)) (hc' : ∀ i, i < n → CU w b' (off' + i * 4) (R i)) :
    Calls Tryz.prog 183 #[.slice (some ⟨b, off, none⟩) n cap, .slice (some ⟨b', off', none⟩) n cap'] w fun e w' => e = .returned (.bool true) ∧ Below w.heap.size w w' := by
  have HC : Hid (∀ i, i < n → CU w b (off + i * 4) (R i)) := hc
  have HC' : Hid (∀ i, i < n → CU w b' (off' + i * 4) (R i)) := hc'
  have hne : ((n : Int) != (n : Int)) = false := by simp
  clear hc hc'
  go_enter Tryz.func183, Tryz.ntmps183
  go_wp2_with fail
  go_loopw [5] (fun i wr => ∃ k : Nat, k ≤ n ∧ i = .int .i64 k ∧ Hid (Below w.heap.size w wr)) (fun i _ => n - (intOf i).toNat)
  case atStart => exact ⟨0, Nat.zero_le _, rfl, Below.refl _ _⟩
  case round =>
    obtain ⟨k, hk, rfl, HB⟩ := hrel
    by_cases hlt : k < n
    · have hlt' : (k : Int) < (n : Int) := by omega
      have hk0 : (0 : Int) ≤ (k : Int) := by omega
      obtain ⟨x0, x1, x2, x3⟩ := (HC.out k hlt).block (HB.out.block _ hbl)
      obtain ⟨y0, y1, y2, y3⟩ := (HC'.out k hlt).block (HB.out.block _ hbl')
      generalize R k = r at *
      go_wp2_with fail
      go_region_law (first | (go_simp; go_at_call 220; refine (eqUndo_same r.k r.h r.g r.v _).mono ?_; rintro e w1 ⟨rfl, hb1⟩; have HB1 : Hid (Below w.heap.size w w1) := below_then HB.out (drewB6 hb1)))
      all_goals
        go_wp2_with fail
        go_roundw
        case rel => exact ⟨k + 1, hlt, by go_num, HB1⟩
        case measure => simp [intOf]; omega
    · have hnl : ¬ ((k : Int) < (n : Int)) := by omega
      go_wp2_with fail
      go_ret
      exact ⟨rfl, HB.out⟩
theorem eqUndoS_any (n : Nat) (R : Nat → Ud) (a a' : Option Addr) (cap cap' : Nat) (w : World) (hn : n ≤ 1048576) (h : UndsAt w a n R) (h' : UndsAt w a' n R) :
    Calls Tryz.prog 183 #[.slice a n cap, .slice a' n cap'] w fun e w' => e = .returned (.bool true) ∧ Below w.heap.size w w' := by
  rcases h with rfl | ⟨b, off, rfl, hl, hc⟩
  · exact eqUndoS_zero a a' cap cap' w
  · rcases h' with rfl | ⟨b', off', rfl, hl', hc'⟩
    · exact eqUndoS_zero _ a' cap cap' w
    · exact eqUndoS_some n R b off cap b' off' cap' w hn hl hl' hc hc'
def mU (m : Int) (i : Nat) : Ud := ⟨m + i * 4, (m + i * 4 + 1) % 3 == 0, (m + i * 4 + 2) % 3 == 0, m + i * 4 + 3⟩
def mkU (m : Int) (R : Nat → Ud) (j i : Nat) : Ud := if i < j then mU m i else R i
theorem mkU_step (m : Int) (R : Nat → Ud) (k i : Nat) : (if i = k then mU m k else mkU m R k i) = mkU m R (k + 1) i := by
  unfold mkU
  by_cases e : i = k
  · subst e; simp
  · rw [if_neg e]
    have : (i < k + 1) ↔ (i < k) := by omega
    simp only [this]
set_option maxHeartbeats 4000000 in
theorem markUndoS_some (n : Nat) (R : Nat → Ud) (b off cap lo hi : Nat) (m : Int) (w : World) (hn : n ≤ 1048576) (hm1 : 0 ≤ m) (hm2 : m ≤ 8796093022208) (hlo : lo ≤ b) (hhi : b < hi) (hr : RowU w b off n R) :
    Calls Tryz.prog 125 #[.slice (some ⟨b, off, none⟩) n cap, .int .i64 m] w fun e w' =>
      e = .returned (.int .i64 (m + n * 4)) ∧ Writes lo hi w w' ∧ RowU w' b off n (mkU m R n) := by
  have HR0 : Hid (RowU w b off n (mkU m R 0)) := ⟨fun i h => by have := hr.1 i h; simpa [mkU] using this, hr.2⟩
  clear hr
  go_enter Tryz.func125, Tryz.ntmps125
  go_wp2_with fail
  go_loopw [1, 5] (fun q i wr => ∃ k : Nat, k ≤ n ∧ i = .int .i64 k ∧ q = .int .i64 (m + k * 4) ∧ Hid (Writes lo hi w wr) ∧ Hid (RowU wr b off n (mkU m R k))) (fun _ i _ => n - (intOf i).toNat)
  case atStart => exact ⟨0, Nat.zero_le _, rfl, by go_num, Writes.refl _ _ _, HR0⟩
  case round =>
    obtain ⟨k, hk0, rfl, rfl, HB, HR⟩ := hrel
    by_cases hlt : k < n
    · obtain ⟨h0, h1, h2, h3⟩ := HR.out.1 k hlt
      have hf := HR.out.2
      generalize mkU m R k k = r at *
      have hk' : (k : Int) < (n : Int) := by omega
      have hk1 : (0 : Int) ≤ (k : Int) := by omega
      have g1 : IntKind.i64.wrap (m + k * 4 + 1) = m + k * 4 + 1 := by rw [IntKind.wrap_i64]; omega
      have g2 : IntKind.i64.wrap (m + k * 4 + 1 + 1) = m + k * 4 + 2 := by rw [IntKind.wrap_i64]; omega
      have g3 : IntKind.i64.wrap (m + k * 4 + 2 + 1) = m + k * 4 + 3 := by rw [IntKind.wrap_i64]; omega
      have g4 : IntKind.i64.wrap (m + k * 4 + 3 + 1) = m + k * 4 + 4 := by rw [IntKind.wrap_i64]; omega
      go_wp2_with fail
      go_roundw
      case rel => exact ⟨k + 1, hlt, by go_num, by go_num, setU_writes (r := mU m k) (o := off + k * 4) HB.out hlo hhi, rowU_congr (rowU_set (r := mU m k) hlt HR.out) (fun i _ => mkU_step m R k i)⟩
      case measure => simp [intOf]; omega
    · have hkn : k = n := by omega
      have HR1 : Hid (RowU wr b off n (mkU m R n)) := by have h := HR.out; rw [hkn] at h; exact h
      have hnl : ¬ ((k : Int) < (n : Int)) := by omega
      go_wp2_with fail
      go_ret
      exact ⟨rfl, HB.out, HR1.out⟩
theorem markUndoS_zero (a : Option Addr) (cap : Nat) (m : Int) (w : World) : Calls Tryz.prog 125 #[.slice a 0 cap, .int .i64 m] w fun e w' => e = .returned (.int .i64 m) ∧ w' = w := by
  go_enter Tryz.func125, Tryz.ntmps125
  go_wp2
  go_loop [1, 5] (fun q i => q = .int .i64 m ∧ i = .int .i64 0) (fun _ _ => 0)
  case atStart => exact ⟨rfl, rfl⟩
  case round =>
    obtain ⟨rfl, rfl⟩ := hrel
    go_wp2
    go_ret
    exact ⟨rfl, rfl⟩
theorem markUndoS_any (n : Nat) (R : Nat → Ud) (a : Option Addr) (cap lo hi : Nat) (m : Int) (w : World) (hn : n ≤ 1048576) (hm1 : 0 ≤ m) (hm2 : m ≤ 8796093022208) (h : OwnU w lo hi a n R) :
    Calls Tryz.prog 125 #[.slice a n cap, .int .i64 m] w fun e w' => e = .returned (.int .i64 (m + n * 4)) ∧ Writes lo hi w w' ∧ OwnU w' lo hi a n (mU m) := by
  obtain ⟨h0, rfl | ⟨b, off, rfl, hlo, hhi, hr⟩⟩ := h
  · refine (markUndoS_zero a cap m w).mono ?_
    rintro e w' ⟨rfl, rfl⟩
    exact ⟨ret_int (by omega), Writes.refl _ _ _, h0, .inl rfl⟩
  · refine (markUndoS_some n R b off cap lo hi m w hn hm1 hm2 hlo hhi hr).mono ?_
    rintro e w' ⟨rfl, hw, h1, h2⟩
    exact ⟨rfl, hw, Nat.le_trans h0 hw.size, .inr ⟨b, off, rfl, hlo, hhi, fun i hi => by have := h1 i hi; simpa [mkU, hi] using this, h2⟩⟩
/-! ### held -/
set_option maxHeartbeats 4000000 in
theorem heldUndoS_some (n b off cap : Nat) (m : Int) (w : World) (hn : n ≤ 1048576) (hm1 : 0 ≤ m) (hm2 : m ≤ 8796093022208) (hc : ∀ i, i < n → CU w b (off + i * 4) (mU m i)) :
    Calls Tryz.prog 185 #[.slice (some ⟨b, off, none⟩) n cap, .int .i64 m] w fun e w' => e = .returned (.int .i64 (m + n * 4)) ∧ w' = w := by
  have HC : Hid (∀ i, i < n → CU w b (off + i * 4) (mU m i)) := hc
  clear hc
  go_enter Tryz.func185, Tryz.ntmps185
  go_wp2_with fail
  go_loop [1, 5] (fun q i => ∃ k : Nat, k ≤ n ∧ i = .int .i64 k ∧ q = .int .i64 (m + k * 4)) (fun _ i => n - (intOf i).toNat)
  case atStart => exact ⟨0, Nat.zero_le _, rfl, by go_num⟩
  case round =>
    obtain ⟨k, hk0, rfl, rfl⟩ := hrel
    by_cases hlt : k < n
    · obtain ⟨h0, h1, h2, h3⟩ := HC.out k hlt
      simp only [mU] at h0 h1 h2 h3
      have hk' : (k : Int) < (n : Int) := by omega
      have hk1 : (0 : Int) ≤ (k : Int) := by omega
      have g1 : IntKind.i64.wrap (m + k * 4 + 1) = m + k * 4 + 1 := by rw [IntKind.wrap_i64]; omega
      have g2 : IntKind.i64.wrap (m + k * 4 + 1 + 1) = m + k * 4 + 2 := by rw [IntKind.wrap_i64]; omega
      have g3 : IntKind.i64.wrap (m + k * 4 + 2 + 1) = m + k * 4 + 3 := by rw [IntKind.wrap_i64]; omega
      have g4 : IntKind.i64.wrap (m + k * 4 + 3 + 1) = m + k * 4 + 4 := by rw [IntKind.wrap_i64]; omega
      have e2 : (((m + k * 4 + 1) % 3 == 0) != ((m + k * 4 + 1) % 3 == 0)) = false := by simp
      have e3 : (((m + k * 4 + 2) % 3 == 0) != ((m + k * 4 + 2) % 3 == 0)) = false := by simp
      go_wp2_with fail
      go_round
      case rel => exact ⟨k + 1, hlt, by go_num, by go_num⟩
      case measure => simp [intOf]; omega
    · have hkn : k = n := by omega
      have hnl : ¬ ((k : Int) < (n : Int)) := by omega
      go_wp2_with fail
      go_ret
      exact ⟨rfl, rfl⟩
theorem heldUndoS_zero (a : Option Addr) (cap : Nat) (m : Int) (w : World) : Calls Tryz.prog 185 #[.slice a 0 cap, .int .i64 m] w fun e w' => e = .returned (.int .i64 m) ∧ w' = w := by
  go_enter Tryz.func185, Tryz.ntmps185
  go_wp2
  go_loop [1, 5] (fun q i => q = .int .i64 m ∧ i = .int .i64 0) (fun _ _ => 0)
  case atStart => exact ⟨rfl, rfl⟩
  case round =>
    obtain ⟨rfl, rfl⟩ := hrel
    go_wp2
    go_ret
    exact ⟨rfl, rfl⟩
theorem heldUndoS_any (n : Nat) (a : Option Addr) (cap : Nat) (m : Int) (w : World) (hn : n ≤ 1048576) (hm1 : 0 ≤ m) (hm2 : m ≤ 8796093022208) (h : UndsAt w a n (mU m)) :
    Calls Tryz.prog 185 #[.slice a n cap, .int .i64 m] w fun e w' => e = .returned (.int .i64 (m + n * 4)) ∧ w' = w := by
  rcases h with rfl | ⟨b, off, rfl, _, hc⟩
  · refine (heldUndoS_zero a cap m w).mono ?_
    rintro e w' ⟨rfl, rfl⟩
    exact ⟨ret_int (by omega), rfl⟩
  · exact heldUndoS_some n b off cap m w hn hm1 hm2 hc
theorem cellsUnd : Tryz.prog.cellsOf 263 = 4 := by kernel_rfl
end Go.Proofs.YtjdodbiphijjgaaGreat
