/- Slices of numbers, for the tree: equal, marked, held; answers that are lists of numbers. -/
import Derived.Test.YtaokclhcmgbgnaaGreatRows
import Derived.WalkKit
import Derived.WalkSpells
import Derived.ProofKit
import Derived.OpenShut
import Derived.ShutString
import Derived.ChangeOld
import Derived.Below
import Derived.Outline
import Derived.Deep.OwnRows
import Derived.Deep.LoopGhost
import Derived.Deep.QuietTactic
import Derived.BigQuiet
import Derived.WalkSmall
import Derived.Deep.Slices
import Derived.Deep.SlicePairs
import Derived.Deep.RegionHeld3
import Derived.Lib.SmallJoins
import Derived.Deep.RegionLaw
import Derived.Deep.DeepCutAuto
import Derived.Laws.AppendOwn
import Derived.OwnWalk
import Derived.Deep.AppendLies
namespace Go.Proofs.YtaokclhcmgbgnaaGreat
open Go.RowKit Go.Deep
set_option linter.unusedVariables false
open Go.ChangeShapes Go.WideShapes Go.ChangeAt Go.RowKit Go.Deep Go.Joins
set_option maxRecDepth 20000

theorem own : ownKnob Tryz.prog.godebug = none := by kernel_rfl
theorem laidOut : laidOutB Tryz.prog = true := by kernel_rfl
theorem info5 : (Tryz.prog.info? 5).map (fun i => (i.zero, i.size, i.bytes)) = some (some (.int .u8 0), 1, 1) := by kernel_rfl

theorem ret_int {k : IntKind} {a b : Int} (h : a = b) : Ending.returned (.int k a) = .returned (.int k b) := by rw [h]
theorem ret_bool {a b : Bool} (h : a = b) : Ending.returned (.bool a) = .returned (.bool b) := by rw [h]

theorem bcell {W w1 : World} (hb : Below W.heap.size W w1) : (∀ b o, b < W.heap.size → w1.cell? ⟨b, o, none⟩ = W.cell? ⟨b, o, none⟩) ∧ (∀ b o, b < W.heap.size → w1.frozen? ⟨b, o, none⟩ = W.frozen? ⟨b, o, none⟩) :=
  ⟨fun b o h => hb.cell (p := ⟨b, o, none⟩) h, fun b o h => hb.frozen (p := ⟨b, o, none⟩) h⟩

theorem below_then {w w1 w2 : World} (h : Below w.heap.size w w1) (k : Below w1.heap.size w1 w2) : Below w.heap.size w w2 := h.trans (k.mono h.size)
theorem made_none (z : Array Value) : madeCells z 0 = #[] := Array.eq_empty_of_size_eq_zero (size_madeCells _ _)

/-- The slice at 'a' has the n bytes z. -/
def BytesAt (w : World) (a : Option Addr) (n : Nat) (z : Nat → Int) : Prop :=
  n = 0 ∨ ∃ b off, a = some ⟨b, off, none⟩ ∧ b < w.heap.size ∧ ∀ i, i < n → w.cell? ⟨b, off + i, none⟩ = some (.int .u8 (z i))
def Byt (n : Nat) (z : Nat → Int) : Prop := ∀ i, i < n → 0 ≤ z i ∧ z i ≤ 255

theorem BytesAt.below {w w' : World} {a : Option Addr} {n : Nat} {z : Nat → Int} (h : BytesAt w a n z) (hb : Below w.heap.size w w') : BytesAt w' a n z := by
  rcases h with h | ⟨b, off, ha, hl, hc⟩
  · exact .inl h
  · exact .inr ⟨b, off, ha, Nat.lt_of_lt_of_le hl hb.size, fun i hi => (hb.cell (p := ⟨b, off + i, none⟩) hl).trans (hc i hi)⟩

/-- What SumBytes makes of the first k bytes. -/
def sumB (z : Nat → Int) : Nat → Int
  | 0 => 9
  | k + 1 => (sumB z k * 269 + z k + 1) % 65521
theorem sumB_bd (z : Nat → Int) (k : Nat) : 0 ≤ sumB z k ∧ sumB z k ≤ 65520 := by
  cases k with
  | zero => simp [sumB]
  | succ k => simp only [sumB]; omega
/-- What the j-th place of a row of cells holds. -/
def cv (K V : Nat → Int) (j : Nat) : Value := .int .i64 (if j % 2 = 0 then K (j / 2) else V (j / 2))
theorem cv_key (K V : Nat → Int) (i : Nat) : cv K V (i * 2) = .int .i64 (K i) := by unfold cv; rw [if_pos (by omega)]; congr 2; omega
theorem cv_val (K V : Nat → Int) (i : Nat) : cv K V (i * 2 + 1) = .int .i64 (V i) := by unfold cv; rw [if_neg (by omega)]; congr 2; omega

/-- The slice at 'a' has n cells: keys K, values V. -/
def CellsAt (w : World) (a : Option Addr) (n : Nat) (K V : Nat → Int) : Prop :=
  n = 0 ∨ ∃ b off, a = some ⟨b, off, none⟩ ∧ b < w.heap.size ∧ (∀ i, i < n → w.cell? ⟨b, off + i * 2, none⟩ = some (.int .i64 (K i))) ∧ (∀ i, i < n → w.cell? ⟨b, off + i * 2 + 1, none⟩ = some (.int .i64 (V i)))

/-- .. in a block from lo on, below hi, that may be written. -/
def Own (w : World) (lo hi : Nat) (a : Option Addr) (n : Nat) (K V : Nat → Int) : Prop :=
  hi ≤ w.heap.size ∧ (n = 0 ∨ ∃ b off, a = some ⟨b, off, none⟩ ∧ lo ≤ b ∧ b < hi ∧ (∀ i, i < n → w.cell? ⟨b, off + i * 2, none⟩ = some (.int .i64 (K i))) ∧ (∀ i, i < n → w.cell? ⟨b, off + i * 2 + 1, none⟩ = some (.int .i64 (V i))) ∧
    (∀ i, i < n → w.frozen? ⟨b, off + i * 2, none⟩ = false) ∧ (∀ i, i < n → w.frozen? ⟨b, off + i * 2 + 1, none⟩ = false))

/-- What was there is as it was but for blocks from lo on, below hi. -/
structure Writes (lo hi : Nat) (w w' : World) : Prop where
  os : w'.os = w.os
  tape : w'.tape = w.tape
  output : w'.output = w.output
  size : w.heap.size ≤ w'.heap.size
  block : ∀ k, k < w.heap.size → (k < lo ∨ hi ≤ k) → w'.heap[k]? = w.heap[k]?

theorem Writes.refl (lo hi : Nat) (w : World) : Writes lo hi w w := ⟨rfl, rfl, rfl, Nat.le_refl _, fun _ _ _ => rfl⟩
theorem Writes.trans {lo hi : Nat} {a b c : World} (h : Writes lo hi a b) (k : Writes lo hi b c) : Writes lo hi a c :=
  ⟨k.os.trans h.os, k.tape.trans h.tape, k.output.trans h.output, Nat.le_trans h.size k.size, fun i hi1 hi2 => (k.block i (Nat.lt_of_lt_of_le hi1 h.size) hi2).trans (h.block i hi1 hi2)⟩
theorem Writes.of_below {lo hi : Nat} {w w' : World} (h : Below w.heap.size w w') : Writes lo hi w w' := ⟨h.os, h.tape, h.output, h.size, fun k hk _ => h.block k hk⟩
theorem Writes.below {lo hi : Nat} {W w w' : World} (h0 : Below W.heap.size W w) (h : Writes lo hi w w') (hlo : W.heap.size ≤ lo) : Below W.heap.size W w' :=
  ⟨h.os.trans h0.os, h.tape.trans h0.tape, h.output.trans h0.output, Nat.le_trans h0.size h.size, fun k hk => (h.block k (Nat.lt_of_lt_of_le hk h0.size) (.inl (Nat.lt_of_lt_of_le hk hlo))).trans (h0.block k hk)⟩
theorem Writes.setCell {lo hi : Nat} {w w' : World} (h : Writes lo hi w w') {p : Addr} (h1 : lo ≤ p.block) (h2 : p.block < hi) (v : Value) : Writes lo hi w (w'.setCell p v) :=
  ⟨h.os, h.tape, h.output, by simpa [World.setCell] using h.size, fun k hk hk2 => (Below.heap_setCell _ _ _ _ (by omega)).trans (h.block k hk hk2)⟩
theorem Writes.alloc {lo hi : Nat} {w w' : World} (h : Writes lo hi w w') (o : Obj) : Writes lo hi w (w'.alloc o) :=
  ⟨h.os, h.tape, h.output, by have := h.size; simp; omega, fun k hk hk2 => (Below.heap_alloc _ _ _ (by have := h.size; omega)).trans (h.block k hk hk2)⟩
theorem Writes.cell {lo hi : Nat} {w w' : World} (h : Writes lo hi w w') {b : Nat} (h1 : b < w.heap.size) (h2 : b < lo ∨ hi ≤ b) (o : Nat) : w'.cell? ⟨b, o, none⟩ = w.cell? ⟨b, o, none⟩ :=
  World.cell?_of_block (w := w) (h.block b h1 h2)

theorem Own.at {w : World} {lo hi : Nat} {a : Option Addr} {n : Nat} {K V : Nat → Int} (h : Own w lo hi a n K V) : CellsAt w a n K V := by
  obtain ⟨h0, h1 | ⟨b, off, ha, _, hl, hk, hv, _, _⟩⟩ := h
  · exact .inl h1
  · exact .inr ⟨b, off, ha, by omega, hk, hv⟩
theorem CellsAt.writes {w w' : World} {a : Option Addr} {n : Nat} {K V : Nat → Int} {lo hi : Nat} (h : CellsAt w a n K V) (hw : Writes lo hi w w') (hlo : w.heap.size ≤ lo) : CellsAt w' a n K V := by
  rcases h with h | ⟨b, off, ha, hl, hk, hv⟩
  · exact .inl h
  · exact .inr ⟨b, off, ha, Nat.lt_of_lt_of_le hl hw.size, fun i hi => (hw.cell hl (.inl (by omega)) _).trans (hk i hi), fun i hi => (hw.cell hl (.inl (by omega)) _).trans (hv i hi)⟩
theorem CellsAt.below {w w' : World} {a : Option Addr} {n : Nat} {K V : Nat → Int} (h : CellsAt w a n K V) (hb : Below w.heap.size w w') : CellsAt w' a n K V :=
  h.writes (Writes.of_below (lo := w.heap.size) (hi := 0) hb) (Nat.le_refl _)
/-- .. whose block is none of those that were written. -/
theorem Own.writes {w w' : World} {lo hi lo' hi' : Nat} {a : Option Addr} {n : Nat} {K V : Nat → Int} (h : Own w lo hi a n K V) (hw : Writes lo' hi' w w') (hd : hi ≤ lo' ∨ hi' ≤ lo) : Own w' lo hi a n K V := by
  obtain ⟨h0, h1 | ⟨b, off, ha, h2, hl, hk, hv, hf, hg⟩⟩ := h
  · exact ⟨Nat.le_trans h0 hw.size, .inl h1⟩
  · have hb := hw.block b (by omega) (by omega)
    exact ⟨Nat.le_trans h0 hw.size, .inr ⟨b, off, ha, h2, hl, fun i hi => (World.cell?_of_block (w := w) (a := ⟨b, _, none⟩) hb).trans (hk i hi), fun i hi => (World.cell?_of_block (w := w) (a := ⟨b, _, none⟩) hb).trans (hv i hi),
      fun i hi => (World.frozen?_of_block (w := w) (a := ⟨b, _, none⟩) hb).trans (hf i hi), fun i hi => (World.frozen?_of_block (w := w) (a := ⟨b, _, none⟩) hb).trans (hg i hi)⟩⟩
theorem Own.below {w w' : World} {lo hi : Nat} {a : Option Addr} {n : Nat} {K V : Nat → Int} (h : Own w lo hi a n K V) (hb : Below w.heap.size w w') : Own w' lo hi a n K V :=
  h.writes (Writes.of_below (lo := hi) (hi := hi) hb) (.inl (Nat.le_refl _))
theorem Own.wide {w : World} {lo hi lo' hi' : Nat} {a : Option Addr} {n : Nat} {K V : Nat → Int} (h : Own w lo hi a n K V) (h1 : lo' ≤ lo) (h2 : hi ≤ hi') (h3 : hi' ≤ w.heap.size) : Own w lo' hi' a n K V := by
  obtain ⟨h0, h4 | ⟨b, off, ha, h5, hl, r⟩⟩ := h
  · exact ⟨h3, .inl h4⟩
  · exact ⟨h3, .inr ⟨b, off, ha, by omega, by omega, r⟩⟩
theorem Own.of_row {w : World} {b n : Nat} {K V : Nat → Int} (h : w.rowIs b 139 (n * 2) (cv K V)) : Own w b (b + 1) (some ⟨b, 0, none⟩) n K V :=
  ⟨h.lt, .inr ⟨b, 0, rfl, Nat.le_refl _, by omega, fun i hi => by have := h.cell (i := i * 2) (by omega); rw [cv_key] at this; simpa using this, fun i hi => by have := h.cell (i := i * 2 + 1) (by omega); rw [cv_val] at this; simpa using this,
    fun i _ => h.frozen _, fun i _ => h.frozen _⟩⟩
theorem info99 : (Tryz.prog.info? 139).map (fun i => (i.zero, i.size, i.bytes)) = some (some (.agg #[.int .i64 0, .int .i64 0]), 2, 16) := by kernel_rfl
/-- 'make([]impl.Cell, n)'. -/
theorem run_make_cells (n : Nat) (hn : n ≤ 8796093022208) (w : World) :
    (Instr.makeSlice 64 (.int .i64 (n : Int)) (.int .i64 (n : Int))).run Tryz.prog w = .ok (.slice (some ⟨w.heap.size, 0, none⟩) n n) (w.alloc (.cells (madeCells #[.int .i64 0, .int .i64 0] (n * 2)) 139)) := by
  obtain ⟨i, hi, hzz⟩ := Option.map_eq_some_iff.1 info99
  simp only [Prod.mk.injEq] at hzz
  obtain ⟨hz, hs, hb⟩ := hzz
  have hr := run_make (P := Tryz.prog) w 64 139 i _ Tryz.underlying64 hi hz .i64 .i64 n n (by omega) (Int.le_refl _) (by rw [hb]; omega) (by omega)
  simp only [Int.toNat_natCast, hs] at hr
  exact hr
theorem made_cells (w : World) (n : Nat) : (w.alloc (.cells (madeCells #[.int .i64 0, .int .i64 0] (n * 2)) 139)).rowIs w.heap.size 139 (n * 2) (cv (fun _ => 0) (fun _ => 0)) :=
  ⟨_, blk_alloc_new _ _, size_madeCells _ _, fun i hi => by
    have h : i % 2 = 0 ∨ i % 2 = 1 := by omega
    rcases h with h | h <;> simp [madeCells, hi, cv, h]⟩

/-- laws.eqCell of one cell with itself. -/
theorem eqCell_same (k v : Int) (w : World) : Calls Tryz.prog 202 #[.agg #[.int .i64 k, .int .i64 v], .agg #[.int .i64 k, .int .i64 v]] w fun e w' =>
    e = .returned (.bool true) ∧ ∃ c1 c2 : Array Value, w' = (w.alloc (.cells c1 139)).alloc (.cells c2 139) := by
  go_enter Tryz.func202, Tryz.ntmps202
  go_wp2
  go_ret
  exact ⟨rfl, _, _, rfl⟩
theorem toCell_any (k v : Int) (w : World) : Calls Tryz.prog 186 #[.agg #[.int .i64 k, .int .i64 v]] w fun e w' =>
    e = .returned (.agg #[.int .i64 k, .int .i64 v]) ∧ Below w.heap.size w w' := by
  go_enter Tryz.func186, Tryz.ntmps186
  go_wp2
  exact bodyPost_ret (v := .agg #[.int .i64 k, .int .i64 v]) (by simp [results, Tryz.results186, go_sem]) rfl ⟨rfl, (((Below.refl _ _).alloc (Nat.le_refl _) _).alloc (by simp) _).alloc (by simp; omega) _⟩

set_option maxHeartbeats 400000 in
theorem eqCellS_some (n : Nat) (K V : Nat → Int) (b off cap b' off' cap' : Nat) (w : World) (hn : n ≤ 140737488355328) (hbl : b < w.heap.size) (hbl' : b' < w.heap.size)
    (hk : ∀ i, i < n → w.cell? ⟨b, off + i * 2, none⟩ = some (.int .i64 (K i))) (hv : ∀ i, i < n → w.cell? ⟨b, off + i * 2 + 1, none⟩ = some (.int .i64 (V i)))
    (hk' : ∀ i, i < n → w.cell? ⟨b', off' + i * 2, none⟩ = some (.int .i64 (K i))) (hv' : ∀ i, i < n → w.cell? ⟨b', off' + i * 2 + 1, none⟩ = some (.int .i64 (V i))) :
    Calls Tryz.prog 167 #[.slice (some ⟨b, off, none⟩) n cap, .slice (some ⟨b', off', none⟩) n cap'] w fun e w' => e = .returned (.bool true) ∧ Below w.heap.size w w' := by
  go_enter Tryz.func167, Tryz.ntmps167
  go_wp2
  go_loopw [5] (fun i wr => ∃ k : Nat, k ≤ n ∧ i = .int .i64 k ∧ Below w.heap.size w wr) (fun i _ => n - (intOf i).toNat)
  case atStart => exact ⟨0, Nat.zero_le _, rfl, Below.refl _ _⟩
  case round =>
    obtain ⟨k, hk0, rfl, hb⟩ := hrel
    by_cases hlt : k < n
    · have h1 : wr.cell? ⟨b, off + k * 2, none⟩ = some (.int .i64 (K k)) := (hb.cell (p := ⟨b, _, none⟩) hbl).trans (hk k hlt)
      have h2 : wr.cell? ⟨b, off + k * 2 + 1, none⟩ = some (.int .i64 (V k)) := (hb.cell (p := ⟨b, _, none⟩) hbl).trans (hv k hlt)
      have h3 : wr.cell? ⟨b', off' + k * 2, none⟩ = some (.int .i64 (K k)) := (hb.cell (p := ⟨b', _, none⟩) hbl').trans (hk' k hlt)
      have h4 : wr.cell? ⟨b', off' + k * 2 + 1, none⟩ = some (.int .i64 (V k)) := (hb.cell (p := ⟨b', _, none⟩) hbl').trans (hv' k hlt)
      have hlt' : (k : Int) < (n : Int) := by omega
      clear hk hk' hv hv'
      go_wp2
      go_region_held3 (fun w' => w'.cell? ⟨b, off + k * 2, none⟩ = some (.int .i64 (K k)) ∧ w'.cell? ⟨b, off + k * 2 + 1, none⟩ = some (.int .i64 (V k)) ∧ w'.cell? ⟨b', off' + k * 2, none⟩ = some (.int .i64 (K k)) ∧ w'.cell? ⟨b', off' + k * 2 + 1, none⟩ = some (.int .i64 (V k))) (go_keep)
        (first | (go_at_call 202; refine (eqCell_same (K k) (V k) _).mono ?_; rintro e w' ⟨rfl, o1, o2, rfl⟩))
      have HB : Hid (Below w.heap.size w wr) := hb
      clear hb
      go_wp2
      go_roundw
      case rel => exact ⟨k + 1, hlt, by go_num, by have hs := HB.out.size; repeat (first | exact HB.out | apply Below.drew | refine Below.alloc ?_ (by first | omega | (simp; omega)) _)⟩
      case measure => simp [intOf]; omega
    · have hkn : k = n := by omega
      clear hk hk' hv hv'
      go_wp2
      go_ret
      exact ⟨rfl, hb⟩
theorem eqCellS_zero (a a' : Option Addr) (cap cap' : Nat) (w : World) :
    Calls Tryz.prog 167 #[.slice a 0 cap, .slice a' 0 cap'] w fun e w' => e = .returned (.bool true) ∧ Below w.heap.size w w' := by
  go_enter Tryz.func167, Tryz.ntmps167
  go_wp2
  go_loop [5] (fun i => i = .int .i64 0) (fun _ => 0)
  case atStart => exact rfl
  case round =>
    obtain rfl := hrel
    go_wp2
    go_ret
    exact ⟨rfl, Below.refl _ _⟩
theorem eqCellS_any (n : Nat) (K V : Nat → Int) (a a' : Option Addr) (cap cap' : Nat) (w : World) (hn : n ≤ 140737488355328) (h : CellsAt w a n K V) (h' : CellsAt w a' n K V) :
    Calls Tryz.prog 167 #[.slice a n cap, .slice a' n cap'] w fun e w' => e = .returned (.bool true) ∧ Below w.heap.size w w' := by
  rcases h with rfl | ⟨b, off, rfl, hl, hk, hv⟩
  · exact eqCellS_zero a a' cap cap' w
  · rcases h' with rfl | ⟨b', off', rfl, hl', hk', hv'⟩
    · exact eqCellS_zero _ a' cap cap' w
    · exact eqCellS_some n K V b off cap b' off' cap' w hn hl hl' hk hv hk' hv'
/-! ### laws.toCellS -/
theorem cv_step {K V : Nat → Int} {w : World} {b n k : Nat} (h : w.rowIs b 139 (n * 2) (cv (fun i => if i < k then K i else 0) (fun i => if i < k then V i else 0))) :
    ((w.setCell ⟨b, k * 2, none⟩ (.int .i64 (K k))).setCell ⟨b, k * 2 + 1, none⟩ (.int .i64 (V k))).rowIs b 139 (n * 2) (cv (fun i => if i < k + 1 then K i else 0) (fun i => if i < k + 1 then V i else 0)) := by
  refine ((h.set (k * 2) _).set (k * 2 + 1) _).congr fun j _ => ?_
  by_cases e1 : j = k * 2 + 1
  · subst e1; rw [if_pos rfl, cv_val]; simp
  · rw [if_neg e1]
    by_cases e2 : j = k * 2
    · subst e2; rw [if_pos rfl, cv_key]; simp
    · rw [if_neg e2]
      have : (j / 2 < k) ↔ (j / 2 < k + 1) := by omega
      unfold cv; simp only [this]
set_option maxHeartbeats 400000 in
theorem toCellS_some (n : Nat) (K V : Nat → Int) (b off cap : Nat) (w : World) (hn : n ≤ 8796093022208) (hbl : b < w.heap.size)
    (hk : ∀ i, i < n → w.cell? ⟨b, off + i * 2, none⟩ = some (.int .i64 (K i))) (hv : ∀ i, i < n → w.cell? ⟨b, off + i * 2 + 1, none⟩ = some (.int .i64 (V i))) :
    Calls Tryz.prog 149 #[.slice (some ⟨b, off, none⟩) n cap] w fun e w' =>
      e = .returned (.slice (some ⟨w.heap.size, 0, none⟩) n n) ∧ Below w.heap.size w w' ∧ w'.rowIs w.heap.size 139 (n * 2) (cv K V) := by
  have hmk := run_make_cells n hn
  go_enter Tryz.func149, Tryz.ntmps149
  go_wp2
  go_loopw [4] (fun i wr => ∃ k : Nat, k ≤ n ∧ i = .int .i64 k ∧ Below w.heap.size w wr ∧ wr.rowIs w.heap.size 139 (n * 2) (cv (fun i => if i < k then K i else 0) (fun i => if i < k then V i else 0))) (fun i _ => n - (intOf i).toNat)
  case atStart => exact ⟨0, Nat.zero_le _, rfl, (Below.refl _ _).alloc (Nat.le_refl _) _, (made_cells w n).congr (fun i _ => by simp)⟩
  case round =>
    obtain ⟨k, hk0, rfl, hb, hrow⟩ := hrel
    by_cases hlt : k < n
    · have h1 : wr.cell? ⟨b, off + k * 2, none⟩ = some (.int .i64 (K k)) := (hb.cell (p := ⟨b, _, none⟩) hbl).trans (hk k hlt)
      have h2 : wr.cell? ⟨b, off + k * 2 + 1, none⟩ = some (.int .i64 (V k)) := (hb.cell (p := ⟨b, _, none⟩) hbl).trans (hv k hlt)
      obtain ⟨v3, hv3⟩ : ∃ v, wr.cell? ⟨w.heap.size, k * 2, none⟩ = some v := ⟨_, hrow.cell (by omega)⟩
      obtain ⟨v4, hv4⟩ : ∃ v, wr.cell? ⟨w.heap.size, k * 2 + 1, none⟩ = some v := ⟨_, hrow.cell (by omega)⟩
      have hf3 := hrow.frozen (k * 2)
      have hf4 := hrow.frozen (k * 2 + 1)
      have hsz := hrow.lt
      have HR : Hid (wr.rowIs w.heap.size 139 (n * 2) (cv (fun i => if i < k then K i else 0) (fun i => if i < k then V i else 0))) := hrow
      have HB : Hid (Below w.heap.size w wr) := hb
      clear hk hv hmk hrow hb
      go_wp2_with fail
      refine (toCell_any (K k) (V k) wr).mono ?_
      rintro e w1 ⟨rfl, hb1⟩
      have g3 : w1.cell? ⟨w.heap.size, k * 2, none⟩ = some v3 := (hb1.cell (p := ⟨_, _, none⟩) hsz).trans hv3
      have g4 : w1.cell? ⟨w.heap.size, k * 2 + 1, none⟩ = some v4 := (hb1.cell (p := ⟨_, _, none⟩) hsz).trans hv4
      have f3 : w1.frozen? ⟨w.heap.size, k * 2, none⟩ = false := (hb1.frozen (p := ⟨_, _, none⟩) hsz).trans hf3
      have f4 : w1.frozen? ⟨w.heap.size, k * 2 + 1, none⟩ = false := (hb1.frozen (p := ⟨_, _, none⟩) hsz).trans hf4
      have HB1 : Hid (Below wr.heap.size wr w1) := hb1
      clear hb1 h1 h2 hv3 hv4 hf3 hf4
      go_wp2_with fail
      go_roundw
      case rel => exact ⟨k + 1, hlt, by go_num, ((HB.out.trans (HB1.out.mono HB.out.size)).setCell (Nat.le_refl _) _).setCell (Nat.le_refl _) _, cv_step (HR.out.of_block (HB1.out.block _ hsz))⟩
      case measure => simp [intOf]; omega
    · have hkn : k = n := by omega
      have HR : Hid (wr.rowIs w.heap.size 139 (n * 2) (cv K V)) := hrow.congr (fun i hi => by
        have : i / 2 < k := by omega
        simp [cv, this])
      clear hk hv hmk hrow
      go_wp2
      go_ret
      exact ⟨rfl, hb, HR.out⟩
theorem toCellS_zero (K V : Nat → Int) (a : Option Addr) (cap : Nat) (w : World) :
    Calls Tryz.prog 149 #[.slice a 0 cap] w fun e w' =>
      e = .returned (.slice (some ⟨w.heap.size, 0, none⟩) 0 0) ∧ Below w.heap.size w w' ∧ w'.rowIs w.heap.size 139 (0 * 2) (cv K V) := by
  have hmk : ∀ w, (Instr.makeSlice 64 (.int .i64 0) (.int .i64 0)).run Tryz.prog w = .ok (.slice (some ⟨w.heap.size, 0, none⟩) 0 0) (w.alloc (.cells #[] 139)) := fun w => by
    have h := run_make_cells 0 (by omega) w
    rw [made_none] at h
    exact h
  go_enter Tryz.func149, Tryz.ntmps149
  go_wp2
  go_loop [4] (fun i => i = .int .i64 0) (fun _ => 0)
  case atStart => exact rfl
  case round =>
    obtain rfl := hrel
    go_wp2
    go_ret
    exact ⟨rfl, (Below.refl _ _).alloc (Nat.le_refl _) _, World.rowIs_alloc w #[] 139 _ (fun i hi => by simp at hi)⟩
theorem toCellS_any (n : Nat) (K V : Nat → Int) (a : Option Addr) (cap : Nat) (w : World) (hn : n ≤ 8796093022208) (h : CellsAt w a n K V) :
    Calls Tryz.prog 149 #[.slice a n cap] w fun e w' =>
      e = .returned (.slice (some ⟨w.heap.size, 0, none⟩) n n) ∧ Below w.heap.size w w' ∧ w'.rowIs w.heap.size 139 (n * 2) (cv K V) := by
  rcases h with rfl | ⟨b, off, rfl, hbl, hk, hv⟩
  · exact toCellS_zero K V a cap w
  · exact toCellS_some n K V b off cap w hn hbl hk hv

/-! ### laws.markCellS -/
theorem setO {w : World} {b o o' : Nat} {v : Value} (h : o ≠ o') : (w.setCell ⟨b, o, none⟩ v).cell? ⟨b, o', none⟩ = w.cell? ⟨b, o', none⟩ := World.cell?_setCell_other _ _ _ _ (by intro e; exact h (congrArg Addr.off e))
theorem setS {w : World} {a : Addr} {v u : Value} (h : w.cell? a = some u) : (w.setCell a v).cell? a = some v := World.cell?_setCell_same _ _ _ h
/-- The four rows of facts that 'Own' has of its cells. -/
def Row2 (w : World) (b off n : Nat) (K V : Nat → Int) : Prop :=
  (∀ i, i < n → w.cell? ⟨b, off + i * 2, none⟩ = some (.int .i64 (K i))) ∧ (∀ i, i < n → w.cell? ⟨b, off + i * 2 + 1, none⟩ = some (.int .i64 (V i))) ∧
    (∀ i, i < n → w.frozen? ⟨b, off + i * 2, none⟩ = false) ∧ (∀ i, i < n → w.frozen? ⟨b, off + i * 2 + 1, none⟩ = false)
def mk (m : Int) (K : Nat → Int) (j i : Nat) : Int := if i < j then m + i * 2 else K i
theorem mk_lt {m : Int} {K : Nat → Int} {j i : Nat} (h : i < j) : mk m K j i = m + i * 2 := by simp [mk, h]
theorem mk_ne {m : Int} {K : Nat → Int} {j i : Nat} (h : i ≠ j) : mk m K (j + 1) i = mk m K j i := by
  unfold mk; by_cases e : i < j
  · rw [if_pos e, if_pos (by omega)]
  · rw [if_neg e, if_neg (by omega)]
theorem row2_step {w : World} {b off n k : Nat} {K V : Nat → Int} {m : Int} (hlt : k < n) (h : Row2 w b off n (mk m K k) (mk (m + 1) V k)) :
    Row2 ((w.setCell ⟨b, off + k * 2, none⟩ (.int .i64 (m + k * 2))).setCell ⟨b, off + k * 2 + 1, none⟩ (.int .i64 (m + k * 2 + 1))) b off n (mk m K (k + 1)) (mk (m + 1) V (k + 1)) := by
  obtain ⟨hk, hv, hf, hg⟩ := h
  refine ⟨fun i hi => ?_, fun i hi => ?_, fun i hi => ?_, fun i hi => ?_⟩
  · rw [setO (by omega)]
    by_cases e : i = k
    · subst e; rw [setS (hk i hi), mk_lt (by omega)]
    · rw [setO (by omega), mk_ne e, hk i hi]
  · by_cases e : i = k
    · subst e
      have h0 : (w.setCell ⟨b, off + i * 2, none⟩ (.int .i64 (m + i * 2))).cell? ⟨b, off + i * 2 + 1, none⟩ = some (.int .i64 (mk (m + 1) V i i)) := by
        rw [setO (by omega), hv i hi]
      rw [setS h0, mk_lt (by omega)]
      congr 2; omega
    · rw [setO (by omega), setO (by omega), mk_ne e, hv i hi]
  · simp [go_sem, hf i hi]
  · simp [go_sem, hg i hi]
set_option maxHeartbeats 400000 in
theorem markCellS_some (n : Nat) (K V : Nat → Int) (b off cap lo hi : Nat) (m : Int) (w : World) (hn : n ≤ 8796093022208) (hm1 : 0 ≤ m) (hm2 : m ≤ 8796093022208) (hlo : lo ≤ b) (hhi : b < hi) (hr : Row2 w b off n K V) :
    Calls Tryz.prog 108 #[.slice (some ⟨b, off, none⟩) n cap, .int .i64 m] w fun e w' =>
      e = .returned (.int .i64 (m + n * 2)) ∧ Writes lo hi w w' ∧ Row2 w' b off n (mk m K n) (mk (m + 1) V n) := by
  go_enter Tryz.func108, Tryz.ntmps108
  go_wp2
  go_loopw [1, 5] (fun q i wr => ∃ k : Nat, k ≤ n ∧ i = .int .i64 k ∧ q = .int .i64 (m + k * 2) ∧ Writes lo hi w wr ∧ Row2 wr b off n (mk m K k) (mk (m + 1) V k)) (fun _ i _ => n - (intOf i).toNat)
  case atStart => exact ⟨0, Nat.zero_le _, rfl, by go_num, Writes.refl _ _ _, ⟨fun i h => by rw [hr.1 i h]; simp [mk], fun i h => by rw [hr.2.1 i h]; simp [mk], hr.2.2.1, hr.2.2.2⟩⟩
  case round =>
    obtain ⟨k, hk0, rfl, rfl, hb, hrow⟩ := hrel
    by_cases hlt : k < n
    · have h1 := hrow.1 k hlt
      have h2 := hrow.2.1 k hlt
      have h3 := hrow.2.2.1 k hlt
      have h4 := hrow.2.2.2 k hlt
      generalize mk m K k k = x1 at h1
      generalize mk (m + 1) V k k = x2 at h2
      have HR : Hid (Row2 wr b off n (mk m K k) (mk (m + 1) V k)) := hrow
      have HB : Hid (Writes lo hi w wr) := hb
      clear hr hrow hb
      go_wp2
      go_roundw
      case rel => exact ⟨k + 1, hlt, by go_num, by go_num, (HB.out.setCell (p := ⟨b, _, none⟩) hlo hhi _).setCell (p := ⟨b, _, none⟩) hlo hhi _, row2_step hlt HR.out⟩
      case measure => simp [intOf]; omega
    · have hkn : k = n := by omega
      have HR : Hid (Row2 wr b off n (mk m K n) (mk (m + 1) V n)) := by have h := hrow; rw [hkn] at h; exact h
      clear hr hrow
      go_wp2
      go_ret
      exact ⟨ret_int (by rw [hkn]), hb, HR.out⟩
theorem markCellS_zero (a : Option Addr) (cap lo hi : Nat) (m : Int) (w : World) (hm1 : 0 ≤ m) (hm2 : m ≤ 8796093022208) :
    Calls Tryz.prog 108 #[.slice a 0 cap, .int .i64 m] w fun e w' => e = .returned (.int .i64 m) ∧ w' = w := by
  go_enter Tryz.func108, Tryz.ntmps108
  go_wp2
  go_loop [1, 5] (fun q i => q = .int .i64 m ∧ i = .int .i64 0) (fun _ _ => 0)
  case atStart => exact ⟨rfl, rfl⟩
  case round =>
    obtain ⟨rfl, rfl⟩ := hrel
    go_wp2
    go_ret
    exact ⟨rfl, rfl⟩
def mK (m : Int) (i : Nat) : Int := m + i * 2
theorem markCellS_any (n : Nat) (K V : Nat → Int) (a : Option Addr) (cap lo hi : Nat) (m : Int) (w : World) (hn : n ≤ 8796093022208) (hm1 : 0 ≤ m) (hm2 : m ≤ 8796093022208) (h : Own w lo hi a n K V) :
    Calls Tryz.prog 108 #[.slice a n cap, .int .i64 m] w fun e w' =>
      e = .returned (.int .i64 (m + n * 2)) ∧ Writes lo hi w w' ∧ Own w' lo hi a n (mK m) (mK (m + 1)) := by
  obtain ⟨h0, rfl | ⟨b, off, rfl, hlo, hhi, hr⟩⟩ := h
  · refine (markCellS_zero a cap lo hi m w hm1 hm2).mono ?_
    rintro e w' ⟨rfl, rfl⟩
    exact ⟨ret_int (by omega), Writes.refl _ _ _, h0, .inl rfl⟩
  · refine (markCellS_some n K V b off cap lo hi m w hn hm1 hm2 hlo hhi hr).mono ?_
    rintro e w' ⟨rfl, hw, h1, h2, h3⟩
    exact ⟨rfl, hw, Nat.le_trans h0 hw.size, .inr ⟨b, off, rfl, hlo, hhi, fun i hi => by rw [h1 i hi, mk_lt hi]; rfl, fun i hi => by rw [h2 i hi, mk_lt hi]; rfl, h3⟩⟩

/-! ### laws.heldCellS -/
set_option maxHeartbeats 400000 in
theorem heldCellS_some (n b off cap : Nat) (m : Int) (w : World) (hn : n ≤ 8796093022208) (hm1 : 0 ≤ m) (hm2 : m ≤ 8796093022208)
    (hk : ∀ i, i < n → w.cell? ⟨b, off + i * 2, none⟩ = some (.int .i64 (mK m i))) (hv : ∀ i, i < n → w.cell? ⟨b, off + i * 2 + 1, none⟩ = some (.int .i64 (mK (m + 1) i))) :
    Calls Tryz.prog 169 #[.slice (some ⟨b, off, none⟩) n cap, .int .i64 m] w fun e w' => e = .returned (.int .i64 (m + n * 2)) ∧ w' = w := by
  go_enter Tryz.func169, Tryz.ntmps169
  go_wp2
  go_loop [1, 5] (fun q i => ∃ k : Nat, k ≤ n ∧ i = .int .i64 k ∧ q = .int .i64 (m + k * 2)) (fun _ i => n - (intOf i).toNat)
  case atStart => exact ⟨0, Nat.zero_le _, rfl, by go_num⟩
  case round =>
    obtain ⟨k, hk0, rfl, rfl⟩ := hrel
    by_cases hlt : k < n
    · have h1 : w.cell? ⟨b, off + k * 2, none⟩ = some (.int .i64 (m + k * 2)) := hk k hlt
      have h2 : w.cell? ⟨b, off + k * 2 + 1, none⟩ = some (.int .i64 (m + k * 2 + 1)) := by rw [hv k hlt]; unfold mK; congr 2; omega
      clear hk hv
      go_wp2
      go_round
      case rel => exact ⟨k + 1, hlt, by go_num, by go_num⟩
      case measure => simp [intOf]; omega
    · have hkn : k = n := by omega
      clear hk hv
      go_wp2
      go_ret
      exact ⟨rfl, rfl⟩
theorem heldCellS_zero (a : Option Addr) (cap : Nat) (m : Int) (w : World) (hm1 : 0 ≤ m) (hm2 : m ≤ 8796093022208) :
    Calls Tryz.prog 169 #[.slice a 0 cap, .int .i64 m] w fun e w' => e = .returned (.int .i64 m) ∧ w' = w := by
  go_enter Tryz.func169, Tryz.ntmps169
  go_wp2
  go_loop [1, 5] (fun q i => q = .int .i64 m ∧ i = .int .i64 0) (fun _ _ => 0)
  case atStart => exact ⟨rfl, rfl⟩
  case round =>
    obtain ⟨rfl, rfl⟩ := hrel
    go_wp2
    go_ret
    exact ⟨rfl, rfl⟩
theorem heldCellS_any (n : Nat) (a : Option Addr) (cap : Nat) (m : Int) (w : World) (hn : n ≤ 8796093022208) (hm1 : 0 ≤ m) (hm2 : m ≤ 8796093022208) (h : CellsAt w a n (mK m) (mK (m + 1))) :
    Calls Tryz.prog 169 #[.slice a n cap, .int .i64 m] w fun e w' => e = .returned (.int .i64 (m + n * 2)) ∧ w' = w := by
  rcases h with rfl | ⟨b, off, rfl, _, hk, hv⟩
  · refine (heldCellS_zero a cap m w hm1 hm2).mono ?_
    rintro e w' ⟨rfl, rfl⟩
    exact ⟨ret_int (by omega), rfl⟩
  · exact heldCellS_some n b off cap m w hn hm1 hm2 hk hv

/-! ### pages -/
def Box3 (w : World) (B : Nat) (c0 c1 c2 : Value) : Prop := w.cell? ⟨B, 0, none⟩ = some c0 ∧ w.cell? ⟨B, 1, none⟩ = some c1 ∧ w.cell? ⟨B, 2, none⟩ = some c2
def Box4 (w : World) (B : Nat) (c0 c1 c2 c3 : Value) : Prop := w.cell? ⟨B, 0, none⟩ = some c0 ∧ w.cell? ⟨B, 1, none⟩ = some c1 ∧ w.cell? ⟨B, 2, none⟩ = some c2 ∧ w.cell? ⟨B, 3, none⟩ = some c3
def Box2 (w : World) (B : Nat) (c0 c1 : Value) : Prop := w.cell? ⟨B, 0, none⟩ = some c0 ∧ w.cell? ⟨B, 1, none⟩ = some c1

theorem cell_alloc {w : World} {B o : Nat} {v : Value} (h : w.cell? ⟨B, o, none⟩ = some v) (x : Obj) : (w.alloc x).cell? ⟨B, o, none⟩ = some v := by
  rw [World.cell?_alloc_lt _ _ _ (Go.block_lt_of_cell h)]; exact h
theorem cell_writes {w w' : World} {lo hi B o : Nat} {v : Value} (h : w.cell? ⟨B, o, none⟩ = some v) (hw : Writes lo hi w w') (hd : B < lo ∨ hi ≤ B) : w'.cell? ⟨B, o, none⟩ = some v :=
  (hw.cell (Go.block_lt_of_cell h) hd o).trans h
theorem cell_below {w w' : World} {B o : Nat} {v : Value} (h : w.cell? ⟨B, o, none⟩ = some v) (hb : Below w.heap.size w w') : w'.cell? ⟨B, o, none⟩ = some v :=
  (hb.cell (p := ⟨B, o, none⟩) (Go.block_lt_of_cell h)).trans h

theorem Box2.alloc {w : World} {B : Nat} {c0 c1 : Value} (h : Box2 w B c0 c1) (x : Obj) : Box2 (w.alloc x) B c0 c1 := ⟨cell_alloc h.1 x, cell_alloc h.2 x⟩
theorem Box3.alloc {w : World} {B : Nat} {c0 c1 c2 : Value} (h : Box3 w B c0 c1 c2) (x : Obj) : Box3 (w.alloc x) B c0 c1 c2 := ⟨cell_alloc h.1 x, cell_alloc h.2.1 x, cell_alloc h.2.2 x⟩
theorem Box2.below {w w' : World} {B : Nat} {c0 c1 : Value} (h : Box2 w B c0 c1) (x : Below w.heap.size w w') : Box2 w' B c0 c1 := ⟨cell_below h.1 x, cell_below h.2 x⟩
theorem Box3.below {w w' : World} {B : Nat} {c0 c1 c2 : Value} (h : Box3 w B c0 c1 c2) (x : Below w.heap.size w w') : Box3 w' B c0 c1 c2 := ⟨cell_below h.1 x, cell_below h.2.1 x, cell_below h.2.2 x⟩
theorem Box3.writes {w w' : World} {lo hi B : Nat} {c0 c1 c2 : Value} (h : Box3 w B c0 c1 c2) (x : Writes lo hi w w') (d : B < lo ∨ hi ≤ B) : Box3 w' B c0 c1 c2 := ⟨cell_writes h.1 x d, cell_writes h.2.1 x d, cell_writes h.2.2 x d⟩
theorem Box2.new (w : World) (c0 c1 : Value) (t : TypeId) : Box2 (w.alloc (.cells #[c0, c1] t)) w.heap.size c0 c1 := by simp [Box2]
theorem Box3.new (w : World) (c0 c1 c2 : Value) (t : TypeId) : Box3 (w.alloc (.cells #[c0, c1, c2] t)) w.heap.size c0 c1 c2 := by simp [Box3]
theorem Box2.lt {w : World} {B : Nat} {c0 c1 : Value} (h : Box2 w B c0 c1) : B < w.heap.size := Go.block_lt_of_cell h.1
theorem below_new (w : World) (o : Obj) : Below w.heap.size w (w.alloc o) := (Below.refl _ _).alloc (Nat.le_refl _) _
def inB (v lo hi : Int) : Bool := decide (lo ≤ v) && decide (v ≤ hi)
theorem inB_iff {v lo hi : Int} : inB v lo hi = true ↔ lo ≤ v ∧ v ≤ hi := by simp [inB]
/-- The first fault of the cells from the i-th on, m of them. -/
def cff (K V : Nat → Int) : Nat → Nat → Int
  | 0, _ => 0
  | m + 1, i => if inB (K i) 0 31 = false ∨ inB (V i) 0 9999 = false then 3 else if 0 < i ∧ K i ≤ K (i - 1) then 1 else cff K V m (i + 1)
def pf (id lsn : Int) (n : Nat) (K V : Nat → Int) : Int :=
  if inB id 0 7 = false ∨ inB lsn 0 1000000 = false then 3 else if 12 < n then 2 else cff K V n 0
theorem cff_at {K V : Nat → Int} {n k : Nat} (h : k < n) : cff K V (n - k) k = if inB (K k) 0 31 = false ∨ inB (V k) 0 9999 = false then 3 else if 0 < k ∧ K k ≤ K (k - 1) then 1 else cff K V (n - (k + 1)) (k + 1) := by
  obtain ⟨m, hm⟩ : ∃ m, n - k = m + 1 := ⟨n - k - 1, by omega⟩
  rw [hm, cff, show n - (k + 1) = m by omega]

/-! ### the small tests -/
theorem l1In_any (v lo hi : Int) (w : World) : Calls Tryz.prog 26 #[.int .i64 v, .int .i64 lo, .int .i64 hi] w fun e w' => e = .returned (.bool (inB v lo hi)) ∧ w' = w := by
  unfold inB
  by_cases h1 : lo ≤ v
  · by_cases h2 : v ≤ hi
    · go_enter Tryz.func26, Tryz.ntmps26
      go_wp2
      go_ret
      exact ⟨ret_bool (by simp [h1, h2]), rfl⟩
    · have h3 : decide (v ≤ hi) = false := by simp; omega
      go_enter Tryz.func26, Tryz.ntmps26
      go_wp2
      go_ret
      exact ⟨ret_bool (by simp), rfl⟩
  · have h3 : decide (lo ≤ v) = false := by simp; omega
    go_enter Tryz.func26, Tryz.ntmps26
    go_wp2
    go_ret
    exact ⟨ret_bool (by simp), rfl⟩
theorem within_any (v lo hi : Int) (w : World) : Calls Tryz.prog 176 #[.int .i64 v, .int .i64 lo, .int .i64 hi] w fun e w' => e = .returned (.bool (inB v lo hi)) ∧ w' = w := by
  unfold inB
  by_cases h1 : lo ≤ v
  · by_cases h2 : v ≤ hi
    · go_enter Tryz.func176, Tryz.ntmps176
      go_wp2
      go_ret
      exact ⟨ret_bool (by simp [h1, h2]), rfl⟩
    · have h3 : decide (v ≤ hi) = false := by simp; omega
      go_enter Tryz.func176, Tryz.ntmps176
      go_wp2
      go_ret
      exact ⟨ret_bool (by simp), rfl⟩
  · have h3 : decide (lo ≤ v) = false := by simp; omega
    go_enter Tryz.func176, Tryz.ntmps176
    go_wp2
    go_ret
    exact ⟨ret_bool (by simp), rfl⟩
theorem l1Lsn_any (v : Int) (w : World) : Calls Tryz.prog 185 #[.int .i64 v] w fun e w' => e = .returned (.bool (inB v 0 1000000)) ∧ w' = w := by
  go_enter Tryz.func185, Tryz.ntmps185
  go_wp2_with (go_at_call 26; refine (l1In_any _ _ _ _).mono ?_; rintro e w' ⟨rfl, rfl⟩)
  go_ret
  exact ⟨rfl, rfl⟩
theorem l1Key_any (v : Int) (w : World) : Calls Tryz.prog 64 #[.int .i64 v] w fun e w' => e = .returned (.bool (inB v 0 31)) ∧ w' = w := by
  go_enter Tryz.func64, Tryz.ntmps64
  go_wp2_with (go_at_call 26; refine (l1In_any _ _ _ _).mono ?_; rintro e w' ⟨rfl, rfl⟩)
  go_ret
  exact ⟨rfl, rfl⟩
theorem l1Value_any (v : Int) (w : World) : Calls Tryz.prog 65 #[.int .i64 v] w fun e w' => e = .returned (.bool (inB v 0 9999)) ∧ w' = w := by
  go_enter Tryz.func65, Tryz.ntmps65
  go_wp2_with (go_at_call 26; refine (l1In_any _ _ _ _).mono ?_; rintro e w' ⟨rfl, rfl⟩)
  go_ret
  exact ⟨rfl, rfl⟩
theorem isLsn_any (v : Int) (w : World) : Calls Tryz.prog 204 #[.int .i64 v] w fun e w' => e = .returned (.bool (inB v 0 1000000)) ∧ w' = w := by
  go_enter Tryz.func204, Tryz.ntmps204
  go_wp2_with (go_at_call 176; refine (within_any _ _ _ _).mono ?_; rintro e w' ⟨rfl, rfl⟩)
  go_ret
  exact ⟨rfl, rfl⟩
theorem isKey_any (v : Int) (w : World) : Calls Tryz.prog 135 #[.int .i64 v] w fun e w' => e = .returned (.bool (inB v 0 31)) ∧ w' = w := by
  go_enter Tryz.func135, Tryz.ntmps135
  go_wp2_with (go_at_call 176; refine (within_any _ _ _ _).mono ?_; rintro e w' ⟨rfl, rfl⟩)
  go_ret
  exact ⟨rfl, rfl⟩
theorem isValue_any (v : Int) (w : World) : Calls Tryz.prog 136 #[.int .i64 v] w fun e w' => e = .returned (.bool (inB v 0 9999)) ∧ w' = w := by
  go_enter Tryz.func136, Tryz.ntmps136
  go_wp2_with (go_at_call 176; refine (within_any _ _ _ _).mono ?_; rintro e w' ⟨rfl, rfl⟩)
  go_ret
  exact ⟨rfl, rfl⟩

/-! ### impl.cellsFault -/
set_option maxHeartbeats 1000000 in
theorem cellsFault_some (n : Nat) (K V : Nat → Int) (b off cap : Nat) (w : World) (hn : n ≤ 140737488355328) (hbl : b < w.heap.size)
    (hk : ∀ i, i < n → w.cell? ⟨b, off + i * 2, none⟩ = some (.int .i64 (K i))) (hv : ∀ i, i < n → w.cell? ⟨b, off + i * 2 + 1, none⟩ = some (.int .i64 (V i))) :
    Calls Tryz.prog 207 #[.slice (some ⟨b, off, none⟩) n cap] w fun e w' => e = .returned (.int .i64 (cff K V n 0)) ∧ Below w.heap.size w w' := by
  go_enter Tryz.func207, Tryz.ntmps207
  go_wp2
  go_loopw [3, 4, 7] (fun _ _ i wr => ∃ k : Nat, k ≤ n ∧ i = .int .i64 k ∧ Hid (cff K V n 0 = cff K V (n - k) k) ∧ Below w.heap.size w wr) (fun _ _ i _ => n - (intOf i).toNat)
  case atStart => exact ⟨0, Nat.zero_le _, rfl, rfl, Below.refl _ _⟩
  case round =>
    obtain ⟨k, hk0, rfl, HC, hb⟩ := hrel
    by_cases hlt : k < n
    · have h1 : wr.cell? ⟨b, off + k * 2, none⟩ = some (.int .i64 (K k)) := (hb.cell (p := ⟨b, _, none⟩) hbl).trans (hk k hlt)
      have h2 : wr.cell? ⟨b, off + k * 2 + 1, none⟩ = some (.int .i64 (V k)) := (hb.cell (p := ⟨b, _, none⟩) hbl).trans (hv k hlt)
      have hbne : ¬ b = wr.heap.size := by have := hb.size; omega
      have hlt' : (k : Int) < (n : Int) := by omega
      have HB : Hid (Below w.heap.size w wr) := hb
      have HA : Hid (cff K V n 0 = _) := HC.out.trans (cff_at hlt)
      clear HC
      by_cases hc1 : inB (K k) 0 31 = true
      · by_cases hc2 : inB (V k) 0 9999 = true
        · rcases Nat.eq_zero_or_pos k with hk9 | hpos
          · have hd : decide (0 < k) = false := by simp; omega
            have HC : Hid (cff K V n 0 = cff K V (n - (k + 1)) (k + 1)) := by
              refine HA.out.trans ?_
              rw [if_neg (by simp [hc1, hc2]), if_neg (by omega)]
            clear hk hv hb HA hk9
            go_wp2_with (first | (go_at_call 135; refine (isKey_any _ _).mono ?_; rintro e w' ⟨rfl, rfl⟩) | (go_at_call 136; refine (isValue_any _ _).mono ?_; rintro e w' ⟨rfl, rfl⟩))
            go_quiet (fail)
            go_wp2
            go_roundw
            case rel => exact ⟨k + 1, hlt, by go_num, HC, by have hs := HB.out.size; repeat (first | exact HB.out | apply Below.drew | refine below_drewN ?_ _ | refine Below.alloc ?_ (by first | omega | (simp; omega)) _)⟩
            case measure => simp [intOf]; omega
          · obtain ⟨j, rfl⟩ : ∃ j, k = j + 1 := ⟨k - 1, by omega⟩
            have h3 : wr.cell? ⟨b, off + j * 2, none⟩ = some (.int .i64 (K j)) := (hb.cell (p := ⟨b, _, none⟩) hbl).trans (hk j (by omega))
            have hj1 : (j : Int) < (n : Int) := by omega
            have hj2 : j < n := by omega
            have h3a : ∀ o : Obj, (wr.alloc o).cell? ⟨b, off + j * 2, none⟩ = some (.int .i64 (K j)) := fun o => cell_alloc h3 o
            have hwj : IntKind.i64.wrap (j : Int) = (j : Int) := by rw [IntKind.wrap_i64]; omega
            by_cases hc3 : K (j + 1) ≤ K j
            · have HC : Hid (cff K V n 0 = 1) := by
                refine HA.out.trans ?_
                rw [if_neg (by simp [hc1, hc2]), if_pos ⟨by omega, by simpa using hc3⟩]
              clear hk hv hb HA
              go_wp2_with (first | (go_at_call 135; refine (isKey_any _ _).mono ?_; rintro e w' ⟨rfl, rfl⟩) | (go_at_call 136; refine (isValue_any _ _).mono ?_; rintro e w' ⟨rfl, rfl⟩))
              go_quiet (fail)
              go_wp2
              go_ret
              exact ⟨ret_int HC.out.symm, by have hs := HB.out.size; repeat (first | exact HB.out | apply Below.drew | refine below_drewN ?_ _ | refine Below.alloc ?_ (by first | omega | (simp; omega)) _)⟩
            · have HC : Hid (cff K V n 0 = cff K V (n - (j + 1 + 1)) (j + 1 + 1)) := by
                refine HA.out.trans ?_
                rw [if_neg (by simp [hc1, hc2]), if_neg (by simp; omega)]
              have hc4 : decide (K (j + 1) ≤ K j) = false := by simp; omega
              clear hk hv hb HA
              go_wp2_with (first | (go_at_call 135; refine (isKey_any _ _).mono ?_; rintro e w' ⟨rfl, rfl⟩) | (go_at_call 136; refine (isValue_any _ _).mono ?_; rintro e w' ⟨rfl, rfl⟩))
              go_quiet (fail)
              go_wp2
              go_roundw
              case rel => exact ⟨j + 1 + 1, hlt, by go_num, HC, by have hs := HB.out.size; repeat (first | exact HB.out | apply Below.drew | refine below_drewN ?_ _ | refine Below.alloc ?_ (by first | omega | (simp; omega)) _)⟩
              case measure => simp [intOf]; omega
        · have hc4 : inB (V k) 0 9999 = false := by simpa using hc2
          have HC : Hid (cff K V n 0 = 3) := by
            refine HA.out.trans ?_
            rw [if_pos (.inr hc4)]
          clear hk hv hb HA hc2
          go_wp2_with (first | (go_at_call 135; refine (isKey_any _ _).mono ?_; rintro e w' ⟨rfl, rfl⟩) | (go_at_call 136; refine (isValue_any _ _).mono ?_; rintro e w' ⟨rfl, rfl⟩))
          go_ret
          exact ⟨ret_int HC.out.symm, by have hs := HB.out.size; repeat (first | exact HB.out | apply Below.drew | refine below_drewN ?_ _ | refine Below.alloc ?_ (by first | omega | (simp; omega)) _)⟩
      · have hc4 : inB (K k) 0 31 = false := by simpa using hc1
        have HC : Hid (cff K V n 0 = 3) := by
          refine HA.out.trans ?_
          rw [if_pos (.inl hc4)]
        clear hk hv hb HA hc1
        go_wp2_with (first | (go_at_call 135; refine (isKey_any _ _).mono ?_; rintro e w' ⟨rfl, rfl⟩) | (go_at_call 136; refine (isValue_any _ _).mono ?_; rintro e w' ⟨rfl, rfl⟩))
        go_ret
        exact ⟨ret_int HC.out.symm, by have hs := HB.out.size; repeat (first | exact HB.out | apply Below.drew | refine below_drewN ?_ _ | refine Below.alloc ?_ (by first | omega | (simp; omega)) _)⟩
    · have HC2 : Hid (cff K V n 0 = 0) := by
        refine HC.out.trans ?_
        rw [show n - k = 0 by omega, cff]
      clear hk hv HC
      go_wp2
      go_ret
      exact ⟨ret_int HC2.out.symm, hb⟩
theorem cellsFault_zero (K V : Nat → Int) (a : Option Addr) (cap : Nat) (w : World) :
    Calls Tryz.prog 207 #[.slice a 0 cap] w fun e w' => e = .returned (.int .i64 (cff K V 0 0)) ∧ Below w.heap.size w w' := by
  go_enter Tryz.func207, Tryz.ntmps207
  go_wp2
  go_loop [3, 4, 7] (fun _ _ i => i = .int .i64 0) (fun _ _ _ => 0)
  case atStart => exact rfl
  case round =>
    obtain rfl := hrel
    go_wp2
    go_ret
    exact ⟨rfl, Below.refl _ _⟩
theorem cellsFault_any (n : Nat) (K V : Nat → Int) (a : Option Addr) (cap : Nat) (w : World) (hn : n ≤ 140737488355328) (h : CellsAt w a n K V) :
    Calls Tryz.prog 207 #[.slice a n cap] w fun e w' => e = .returned (.int .i64 (cff K V n 0)) ∧ Below w.heap.size w w' := by
  rcases h with rfl | ⟨b, off, rfl, hbl, hk, hv⟩
  · exact cellsFault_zero K V a cap w
  · exact cellsFault_some n K V b off cap w hn hbl hk hv
/-! ### impl.PageFault -/
theorem implFault_any (id lsn : Int) (n : Nat) (K V : Nat → Int) (a : Option Addr) (cap : Nat) (w : World) (hn : n ≤ 140737488355328) (h : CellsAt w a n K V) :
    Calls Tryz.prog 187 #[.agg #[.int .i64 id, .int .i64 lsn, .slice a n cap]] w fun e w' => e = .returned (.int .i64 (pf id lsn n K V)) ∧ Below w.heap.size w w' := by
  have hA : ∀ o : Obj, CellsAt (w.alloc o) a n K V := fun o => h.below (below_new _ _)
  unfold pf
  by_cases h1 : inB id 0 7 = true
  · by_cases h2 : inB lsn 0 1000000 = true
    · rw [if_neg (by simp [h1, h2])]
      by_cases h3 : 12 < n
      · rw [if_pos h3]
        clear hA h
        go_enter Tryz.func187, Tryz.ntmps187
        go_wp2_with (first | (go_at_call 176; refine (within_any _ _ _ _).mono ?_; rintro e w' ⟨rfl, rfl⟩) | (go_at_call 204; refine (isLsn_any _ _).mono ?_; rintro e w' ⟨rfl, rfl⟩))
        go_ret
        exact ⟨rfl, below_new _ _⟩
      · rw [if_neg h3]
        have HA : Hid (∀ o : Obj, CellsAt (w.alloc o) a n K V) := hA
        clear hA h
        go_enter Tryz.func187, Tryz.ntmps187
        go_wp2_with (first | (go_at_call 176; refine (within_any _ _ _ _).mono ?_; rintro e w' ⟨rfl, rfl⟩) | (go_at_call 204; refine (isLsn_any _ _).mono ?_; rintro e w' ⟨rfl, rfl⟩) | (go_at_call 207; refine (cellsFault_any n K V a cap _ hn (HA.out _)).mono ?_; rintro e w1 ⟨rfl, hb1⟩))
        go_ret
        exact ⟨rfl, below_then (below_new _ _) hb1⟩
    · rw [if_pos (.inr (by simpa using h2))]
      have h4 : inB lsn 0 1000000 = false := by simpa using h2
      clear h2 hA h
      go_enter Tryz.func187, Tryz.ntmps187
      go_wp2_with (first | (go_at_call 176; refine (within_any _ _ _ _).mono ?_; rintro e w' ⟨rfl, rfl⟩) | (go_at_call 204; refine (isLsn_any _ _).mono ?_; rintro e w' ⟨rfl, rfl⟩))
      go_ret
      exact ⟨rfl, below_new _ _⟩
  · rw [if_pos (.inl (by simpa using h1))]
    have h4 : inB id 0 7 = false := by simpa using h1
    clear h1 hA h
    go_enter Tryz.func187, Tryz.ntmps187
    go_wp2_with (first | (go_at_call 176; refine (within_any _ _ _ _).mono ?_; rintro e w' ⟨rfl, rfl⟩) | (go_at_call 204; refine (isLsn_any _ _).mono ?_; rintro e w' ⟨rfl, rfl⟩))
    go_ret
    exact ⟨rfl, below_new _ _⟩
theorem info2 : (Tryz.prog.info? 2).map (fun i => (i.zero, i.size, i.bytes)) = some (some (.int .i64 0), 1, 8) := by kernel_rfl
/-- Numbers, as values. -/
def ivs (F : Nat → Int) (n : Nat) : List Value := (List.range n).map fun i => .int .i64 (F i)
theorem ivs_len (F : Nat → Int) (n : Nat) : (ivs F n).length = n := by simp [ivs]
theorem ivs_succ (F : Nat → Int) (n : Nat) : ivs F (n + 1) = ivs F n ++ [.int .i64 (F n)] := by simp [ivs, List.range_succ]
/-- The n numbers at 'a'. -/
def IntsAt (w : World) (a : Option Addr) (n : Nat) (F : Nat → Int) : Prop :=
  n = 0 ∨ ∃ b off, a = some ⟨b, off, none⟩ ∧ b < w.heap.size ∧ ∀ i, i < n → w.cell? ⟨b, off + i, none⟩ = some (.int .i64 (F i))
theorem IntsAt.below {w w' : World} {a : Option Addr} {n : Nat} {F : Nat → Int} (h : IntsAt w a n F) (hb : Below w.heap.size w w') : IntsAt w' a n F := by
  rcases h with h | ⟨b, off, ha, hl, hc⟩
  · exact .inl h
  · exact .inr ⟨b, off, ha, Nat.lt_of_lt_of_le hl hb.size, fun i hi => (hb.cell (p := ⟨b, off + i, none⟩) hl).trans (hc i hi)⟩
theorem ints_of_own {w : World} {base n : Nat} {v : Value} {F : Nat → Int} (h : w.ownsRow base 2 1 v n (ivs F n)) : ∃ a cap, v = .slice a n cap ∧ IntsAt w a n F := by
  rcases h.2 with ⟨rfl, h0⟩ | ⟨g, cap, cur, rfl, hbg, hg, _⟩
  · exact ⟨none, 0, by rw [h0], .inl h0⟩
  · have hlt : g < w.heap.size := by
      obtain ⟨hlt, _⟩ := Array.getElem?_eq_some_iff.1 hg
      exact hlt
    refine ⟨_, cap, rfl, .inr ⟨g, 0, rfl, hlt, fun i hi => ?_⟩⟩
    rw [Nat.zero_add, h.cellAt i (by omega)]
    simp [ivs, hi]
theorem one_i64 (z : Int) : ∀ u ∈ [Value.int .i64 z], u.oneCell' = true := by intro u hu; simp at hu; subst hu; rfl
def ik (m : Int) (i : Nat) : Int := m + i
def mki (m : Int) (z : Nat → Int) (j i : Nat) : Int := if i < j then ik m i else z i
def RowI (w : World) (b off n : Nat) (z : Nat → Int) : Prop := (∀ i, i < n → w.cell? ⟨b, off + i, none⟩ = some (.int .i64 (z i))) ∧ (∀ i, i < n → w.frozen? ⟨b, off + i, none⟩ = false)
def OwnI (w : World) (lo hi : Nat) (a : Option Addr) (n : Nat) (z : Nat → Int) : Prop :=
  hi ≤ w.heap.size ∧ (n = 0 ∨ ∃ g off, a = some ⟨g, off, none⟩ ∧ lo ≤ g ∧ g < hi ∧ (∀ i, i < n → w.cell? ⟨g, off + i, none⟩ = some (.int .i64 (z i))) ∧ (∀ i, i < n → w.frozen? ⟨g, off + i, none⟩ = false))
theorem OwnI.at {w : World} {lo hi : Nat} {a : Option Addr} {n : Nat} {z : Nat → Int} (h : OwnI w lo hi a n z) : IntsAt w a n z := by
  obtain ⟨h0, h1 | ⟨g, off, ha, _, hl, hc, _⟩⟩ := h
  · exact .inl h1
  · exact .inr ⟨g, off, ha, by omega, hc⟩
theorem OwnI.writes {w w' : World} {lo hi lo' hi' : Nat} {a : Option Addr} {n : Nat} {z : Nat → Int} (h : OwnI w lo hi a n z) (hw : Writes lo' hi' w w') (hd : hi ≤ lo' ∨ hi' ≤ lo) : OwnI w' lo hi a n z := by
  obtain ⟨h0, h1 | ⟨g, off, ha, h2, hl, hc, hf⟩⟩ := h
  · exact ⟨Nat.le_trans h0 hw.size, .inl h1⟩
  · have hb := hw.block g (by omega) (by omega)
    exact ⟨Nat.le_trans h0 hw.size, .inr ⟨g, off, ha, h2, hl, fun i hi => (World.cell?_of_block (w := w) (a := ⟨g, _, none⟩) hb).trans (hc i hi), fun i hi => (World.frozen?_of_block (w := w) (a := ⟨g, _, none⟩) hb).trans (hf i hi)⟩⟩
theorem OwnI.below {w w' : World} {lo hi : Nat} {a : Option Addr} {n : Nat} {z : Nat → Int} (h : OwnI w lo hi a n z) (hb : Below w.heap.size w w') : OwnI w' lo hi a n z :=
  h.writes (Writes.of_below (lo := hi) (hi := hi) hb) (.inl (Nat.le_refl _))
set_option maxHeartbeats 400000 in
theorem toInt64S_some (n : Nat) (z : Nat → Int) (b off cap : Nat) (w : World) (hn : n ≤ 1048576) (hbl : b < w.heap.size) (hc : ∀ i, i < n → w.cell? ⟨b, off + i, none⟩ = some (.int .i64 (z i))) :
    Calls Tryz.prog 36 #[.slice (some ⟨b, off, none⟩) n cap] w fun e w' =>
      e = .returned (.slice (some ⟨w.heap.size, 0, none⟩) n n) ∧ Below w.heap.size w w' ∧ w'.rowIs w.heap.size 2 n (fun i => .int .i64 (z i)) := by
  have hmk := run_make_row' (P := Tryz.prog) 31 2 (.int .i64 0) 8 Tryz.underlying31 info2 rfl .i64 .i64 n (by omega) (by omega)
  go_enter Tryz.func36, Tryz.ntmps36
  go_wp2
  go_loopw [4] (fun i wr => ∃ k : Nat, k ≤ n ∧ i = .int .i64 k ∧ Below w.heap.size w wr ∧ wr.rowIs w.heap.size 2 n (fun j => if j < k then .int .i64 (z j) else .int .i64 0)) (fun i _ => n - (intOf i).toNat)
  case atStart => exact ⟨0, Nat.zero_le _, rfl, (Below.refl _ _).alloc (Nat.le_refl _) _, (World.rowIs_made w _ n 2).congr (fun i _ => by simp)⟩
  case round =>
    obtain ⟨k, hk, rfl, hb, hrow⟩ := hrel
    by_cases hlt : k < n
    · have hcell : wr.cell? ⟨b, off + k, none⟩ = some (.int .i64 (z k)) := (hb.cell (p := ⟨b, off + k, none⟩) hbl).trans (hc k hlt)
      obtain ⟨v3, hv3⟩ : ∃ v, wr.cell? ⟨w.heap.size, k, none⟩ = some v := ⟨_, hrow.cell hlt⟩
      have hfz := hrow.frozen k
      clear hc hmk
      have HR : Hid (wr.rowIs w.heap.size 2 n (fun j => if j < k then .int .i64 (z j) else .int .i64 0)) := hrow
      have HB : Hid (Below w.heap.size w wr) := hb
      clear hrow hb
      go_wp2
      go_roundw
      case rel => exact ⟨k + 1, hlt, by go_num, HB.out.setCell (Nat.le_refl _) _, (HR.out.set k _).congr (fun i hi => by by_cases e : i = k <;> by_cases e2 : i < k <;> simp [e, e2] <;> omega)⟩
      case measure => simp [intOf]; omega
    · have hkn : k = n := by omega
      have HR : Hid (wr.rowIs w.heap.size 2 n (fun j => .int .i64 (z j))) := hrow.congr (fun i hi => by simp; omega)
      clear hc hmk hrow
      go_wp2
      go_ret
      exact ⟨rfl, hb, HR.out⟩
theorem toInt64S_zero (z : Nat → Int) (a : Option Addr) (cap : Nat) (w : World) :
    Calls Tryz.prog 36 #[.slice a 0 cap] w fun e w' =>
      e = .returned (.slice (some ⟨w.heap.size, 0, none⟩) 0 0) ∧ Below w.heap.size w w' ∧ w'.rowIs w.heap.size 2 0 (fun i => .int .i64 (z i)) := by
  have hmk : ∀ w, (Instr.makeSlice 31 (.int .i64 0) (.int .i64 0)).run Tryz.prog w = .ok (.slice (some ⟨w.heap.size, 0, none⟩) 0 0) (w.alloc (.cells #[] 2)) := fun w => by
    have h := run_make_row' (P := Tryz.prog) 31 2 (.int .i64 0) 8 Tryz.underlying31 info2 rfl .i64 .i64 0 (by omega) (by omega) w
    rw [made_none] at h
    exact h
  go_enter Tryz.func36, Tryz.ntmps36
  go_wp2
  go_loop [4] (fun i => i = .int .i64 0) (fun _ => 0)
  case atStart => exact rfl
  case round =>
    obtain rfl := hrel
    go_wp2
    go_ret
    exact ⟨rfl, (Below.refl _ _).alloc (Nat.le_refl _) _, World.rowIs_alloc w #[] 2 _ (fun i hi => by simp at hi)⟩
theorem toInt64S_any (n : Nat) (z : Nat → Int) (a : Option Addr) (cap : Nat) (w : World) (hn : n ≤ 1048576) (h : IntsAt w a n z) :
    Calls Tryz.prog 36 #[.slice a n cap] w fun e w' =>
      e = .returned (.slice (some ⟨w.heap.size, 0, none⟩) n n) ∧ Below w.heap.size w w' ∧ w'.rowIs w.heap.size 2 n (fun i => .int .i64 (z i)) := by
  rcases h with rfl | ⟨b, off, rfl, hbl, hc⟩
  · exact toInt64S_zero z a cap w
  · exact toInt64S_some n z b off cap w hn hbl hc
set_option maxHeartbeats 400000 in
theorem eqInt64S_same (n : Nat) (z : Nat → Int) (b off cap b' off' cap' : Nat) (w : World) (hn : n ≤ 1048576) (hc : ∀ i, i < n → w.cell? ⟨b, off + i, none⟩ = some (.int .i64 (z i))) (hc' : ∀ i, i < n → w.cell? ⟨b', off' + i, none⟩ = some (.int .i64 (z i))) :
    Calls Tryz.prog 45 #[.slice (some ⟨b, off, none⟩) n cap, .slice (some ⟨b', off', none⟩) n cap'] w fun e w' => e = .returned (.bool true) ∧ ∃ m, w' = w.drewN m := by
  go_enter Tryz.func45, Tryz.ntmps45
  go_wp2
  go_loopw [5] (fun i wr => ∃ k : Nat, k ≤ n ∧ i = .int .i64 k ∧ ∃ m, wr = w.drewN m) (fun i _ => n - (intOf i).toNat)
  case atStart => exact ⟨0, Nat.zero_le _, rfl, 0, rfl⟩
  case round =>
    obtain ⟨k, hk, rfl, m, rfl⟩ := hrel
    by_cases hlt : k < n
    · have hcell := hc k hlt
      have hcell' := hc' k hlt
      have hlt' : (k : Int) < (n : Int) := by omega
      clear hc hc'
      go_wp2
      go_quiet (fail)
      go_wp2
      go_roundw
      case rel => exact ⟨k + 1, hlt, by go_num, _, rfl⟩
      case measure => simp [intOf]; omega
    · have hkn : k = n := by omega
      clear hc hc'
      go_wp2
      go_ret
      exact ⟨rfl, _, rfl⟩
theorem rowI_step {w : World} {b off n k : Nat} {z : Nat → Int} {m : Int} (hlt : k < n) (h : RowI w b off n (mki m z k)) : RowI (w.setCell ⟨b, off + k, none⟩ (.int .i64 (m + k))) b off n (mki m z (k + 1)) := by
  obtain ⟨hc, hf⟩ := h
  refine ⟨fun i hi => ?_, fun i hi => ?_⟩
  · by_cases e : i = k
    · subst e; rw [setS (hc i hi)]; simp [mki, ik]
    · rw [setO (by omega), hc i hi]
      have : (i < k + 1) ↔ (i < k) := by omega
      simp only [mki, this]
  · rw [World.frozen?_setCell]; exact hf i hi
set_option maxHeartbeats 400000 in
theorem markInt64S_some (n : Nat) (z : Nat → Int) (b off cap lo hi : Nat) (m : Int) (w : World) (hn : n ≤ 1048576) (hm1 : 0 ≤ m) (hm2 : m ≤ 8796093022208) (hlo : lo ≤ b) (hhi : b < hi) (hr : RowI w b off n z) :
    Calls Tryz.prog 50 #[.slice (some ⟨b, off, none⟩) n cap, .int .i64 m] w fun e w' =>
      e = .returned (.int .i64 (m + n)) ∧ Writes lo hi w w' ∧ RowI w' b off n (mki m z n) := by
  go_enter Tryz.func50, Tryz.ntmps50
  go_wp2
  go_loopw [1, 5] (fun q i wr => ∃ k : Nat, k ≤ n ∧ i = .int .i64 k ∧ q = .int .i64 (m + k) ∧ Writes lo hi w wr ∧ RowI wr b off n (mki m z k)) (fun _ i _ => n - (intOf i).toNat)
  case atStart => exact ⟨0, Nat.zero_le _, rfl, by go_num, Writes.refl _ _ _, ⟨fun i h => by rw [hr.1 i h]; simp [mki], hr.2⟩⟩
  case round =>
    obtain ⟨k, hk0, rfl, rfl, hb, hrow⟩ := hrel
    by_cases hlt : k < n
    · have h1 := hrow.1 k hlt
      have h3 := hrow.2 k hlt
      have hw : IntKind.i64.wrap (m + k) = m + k := by rw [IntKind.wrap_i64]; omega
      generalize mki m z k k = x1 at h1
      have HR : Hid (RowI wr b off n (mki m z k)) := hrow
      have HB : Hid (Writes lo hi w wr) := hb
      clear hr hrow hb
      go_wp2
      go_roundw
      case rel => exact ⟨k + 1, hlt, by go_num, by go_num, HB.out.setCell (p := ⟨b, _, none⟩) hlo hhi _, rowI_step hlt HR.out⟩
      case measure => simp [intOf]; omega
    · have hkn : k = n := by omega
      have HR : Hid (RowI wr b off n (mki m z n)) := by have h := hrow; rw [hkn] at h; exact h
      clear hr hrow
      go_wp2
      go_ret
      exact ⟨ret_int (by rw [hkn]), hb, HR.out⟩
theorem markInt64S_zero (a : Option Addr) (cap : Nat) (m : Int) (w : World) : Calls Tryz.prog 50 #[.slice a 0 cap, .int .i64 m] w fun e w' => e = .returned (.int .i64 m) ∧ w' = w := by
  go_enter Tryz.func50, Tryz.ntmps50
  go_wp2
  go_loop [1, 5] (fun q i => q = .int .i64 m ∧ i = .int .i64 0) (fun _ _ => 0)
  case atStart => exact ⟨rfl, rfl⟩
  case round =>
    obtain ⟨rfl, rfl⟩ := hrel
    go_wp2
    go_ret
    exact ⟨rfl, rfl⟩
theorem markInt64S_any (n : Nat) (z : Nat → Int) (a : Option Addr) (cap lo hi : Nat) (m : Int) (w : World) (hn : n ≤ 1048576) (hm1 : 0 ≤ m) (hm2 : m ≤ 8796093022208) (h : OwnI w lo hi a n z) :
    Calls Tryz.prog 50 #[.slice a n cap, .int .i64 m] w fun e w' => e = .returned (.int .i64 (m + n)) ∧ Writes lo hi w w' ∧ OwnI w' lo hi a n (ik m) := by
  obtain ⟨h0, rfl | ⟨b, off, rfl, hlo, hhi, hr⟩⟩ := h
  · refine (markInt64S_zero a cap m w).mono ?_
    rintro e w' ⟨rfl, rfl⟩
    exact ⟨ret_int (by omega), Writes.refl _ _ _, h0, .inl rfl⟩
  · refine (markInt64S_some n z b off cap lo hi m w hn hm1 hm2 hlo hhi hr).mono ?_
    rintro e w' ⟨rfl, hw, h1, h2⟩
    exact ⟨rfl, hw, Nat.le_trans h0 hw.size, .inr ⟨b, off, rfl, hlo, hhi, fun i hi => by rw [h1 i hi]; simp [mki, hi], h2⟩⟩
theorem eqInt64S_zero (a a' : Option Addr) (cap cap' : Nat) (w : World) : Calls Tryz.prog 45 #[.slice a 0 cap, .slice a' 0 cap'] w fun e w' => e = .returned (.bool true) ∧ w' = w := by
  go_enter Tryz.func45, Tryz.ntmps45
  go_wp2
  go_loop [5] (fun i => i = .int .i64 0) (fun _ => 0)
  case atStart => exact rfl
  case round =>
    obtain rfl := hrel
    go_wp2
    go_ret
    exact ⟨rfl, rfl⟩
theorem eqInt64S_any (n : Nat) (z : Nat → Int) (a a' : Option Addr) (cap cap' : Nat) (w : World) (hn : n ≤ 1048576) (h : IntsAt w a n z) (h' : IntsAt w a' n z) :
    Calls Tryz.prog 45 #[.slice a n cap, .slice a' n cap'] w fun e w' => e = .returned (.bool true) ∧ Below w.heap.size w w' := by
  have z0 : ∀ (e : Ending) (w' : World), (e = .returned (.bool true) ∧ w' = w) → e = .returned (.bool true) ∧ Below w.heap.size w w' := by
    rintro e w' ⟨rfl, rfl⟩
    exact ⟨rfl, Below.refl _ _⟩
  rcases h with rfl | ⟨b, off, rfl, _, hc⟩
  · exact (eqInt64S_zero a a' cap cap' w).mono z0
  · rcases h' with rfl | ⟨b', off', rfl, _, hc'⟩
    · exact (eqInt64S_zero _ a' cap cap' w).mono z0
    · refine (eqInt64S_same n z b off cap b' off' cap' w (by omega) hc hc').mono ?_
      rintro e w' ⟨rfl, m, rfl⟩
      exact ⟨rfl, below_drewN (Below.refl _ _) _⟩
set_option maxHeartbeats 400000 in
theorem heldInt64S_some (n b off cap : Nat) (m : Int) (w : World) (hn : n ≤ 1048576) (hm1 : 0 ≤ m) (hm2 : m ≤ 8796093022208) (hc : ∀ i, i < n → w.cell? ⟨b, off + i, none⟩ = some (.int .i64 (ik m i))) :
    Calls Tryz.prog 116 #[.slice (some ⟨b, off, none⟩) n cap, .int .i64 m] w fun e w' => e = .returned (.int .i64 (m + n)) ∧ w' = w := by
  go_enter Tryz.func116, Tryz.ntmps116
  go_wp2
  go_loop [1, 5] (fun q i => ∃ k : Nat, k ≤ n ∧ i = .int .i64 k ∧ q = .int .i64 (m + k)) (fun _ i => n - (intOf i).toNat)
  case atStart => exact ⟨0, Nat.zero_le _, rfl, by go_num⟩
  case round =>
    obtain ⟨k, hk0, rfl, rfl⟩ := hrel
    by_cases hlt : k < n
    · have h1 : w.cell? ⟨b, off + k, none⟩ = some (.int .i64 (m + k)) := hc k hlt
      have hw : IntKind.i64.wrap (m + k) = m + k := by rw [IntKind.wrap_i64]; omega
      clear hc
      go_wp2
      go_round
      case rel => exact ⟨k + 1, hlt, by go_num, by go_num⟩
      case measure => simp [intOf]; omega
    · have hkn : k = n := by omega
      clear hc
      go_wp2
      go_ret
      exact ⟨rfl, rfl⟩
theorem heldInt64S_zero (a : Option Addr) (cap : Nat) (m : Int) (w : World) : Calls Tryz.prog 116 #[.slice a 0 cap, .int .i64 m] w fun e w' => e = .returned (.int .i64 m) ∧ w' = w := by
  go_enter Tryz.func116, Tryz.ntmps116
  go_wp2
  go_loop [1, 5] (fun q i => q = .int .i64 m ∧ i = .int .i64 0) (fun _ _ => 0)
  case atStart => exact ⟨rfl, rfl⟩
  case round =>
    obtain ⟨rfl, rfl⟩ := hrel
    go_wp2
    go_ret
    exact ⟨rfl, rfl⟩
theorem heldInt64S_any (n : Nat) (a : Option Addr) (cap : Nat) (m : Int) (w : World) (hn : n ≤ 1048576) (hm1 : 0 ≤ m) (hm2 : m ≤ 8796093022208) (h : IntsAt w a n (ik m)) :
    Calls Tryz.prog 116 #[.slice a n cap, .int .i64 m] w fun e w' => e = .returned (.int .i64 (m + n)) ∧ w' = w := by
  rcases h with rfl | ⟨b, off, rfl, _, hc⟩
  · refine (heldInt64S_zero a cap m w).mono ?_
    rintro e w' ⟨rfl, rfl⟩
    exact ⟨ret_int (by omega), rfl⟩
  · exact heldInt64S_some n b off cap m w hn hm1 hm2 hc
/-! ### a list of numbers that grows -/
def zI (zs : List Int) (i : Nat) : Int := zs.getD i 0
theorem szInt64S_x (n : Nat) (a : Option Addr) (cap : Nat) (x : Int) (w : World) (hn : n ≤ 9223372036854775807) (h0 : 0 ≤ x) (h1 : x ≤ 1048576) :
    Calls Tryz.prog 23 #[.slice a n cap, .int .i64 x] w fun e w' => e = .returned (.int .i64 (if x - n < 0 then -1 else x - n)) ∧ w' = w := by
  by_cases h : x - (n : Int) < 0
  · go_enter Tryz.func23, Tryz.ntmps23
    go_wp2
    go_ret
    exact ⟨rfl, rfl⟩
  · go_enter Tryz.func23, Tryz.ntmps23
    go_wp2
    go_ret
    exact ⟨rfl, rfl⟩
theorem toInt64S_own (n : Nat) (z : Nat → Int) (a : Option Addr) (cap : Nat) (w : World) (hn : n ≤ 1048576) (h : IntsAt w a n z) :
    Calls Tryz.prog 36 #[.slice a n cap] w fun e w' => ∃ B, e = .returned (.slice (some ⟨B, 0, none⟩) n n) ∧ Below w.heap.size w w' ∧ OwnI w' w.heap.size w'.heap.size (some ⟨B, 0, none⟩) n z := by
  refine (toInt64S_any n z a cap w hn h).mono ?_
  rintro e w' ⟨rfl, hb, hr⟩
  refine ⟨_, rfl, hb, Nat.le_refl _, .inr ⟨_, 0, rfl, Nat.le_refl _, hr.lt, fun i hi => ?_, fun i hi => hr.frozen _⟩⟩
  rw [Nat.zero_add]
  exact hr.cell hi
theorem cellsI1 : Tryz.prog.cellsOf 2 = 1 := by kernel_rfl
theorem openIntS {H : Type} {enc : TypeId × Value → H} {W : World} {fuel : Nat} {cs : List Value} {x : DataW H × List MemPlace}
    (h : DataW.trod enc Tryz.prog W 0 (fun _ => true) true fuel 31 cs = some x) :
    ∃ (a : Option Addr) (n cap : Nat) (z : Nat → Int), cs = [.slice a n cap] ∧ n ≤ cap ∧ n ≤ 9223372036854775807 ∧ IntsAt W a n z := by
  rcases open_slice Tryz.underlying31 h with ⟨rfl, _⟩ | ⟨a, l, c, m, nn, D, Pl, rfl, _, hl, hm, hmm, _, hx⟩
  · exact ⟨none, 0, 0, fun _ => 0, rfl, Nat.le_refl _, by omega, .inl rfl⟩
  · have hmc : m = c := by simpa using hmm
    unfold maxLen at hm
    rw [cellsI1] at hx
    have each : ∀ i, i < l → ∃ q : Int, W.cell? (a.add (i * 1)) = some (.int .i64 q) := fun i hi => by
      obtain ⟨cs', h1, h2⟩ := hx i (by omega)
      obtain ⟨_, hlen, hcell⟩ := World.cells?_some h1
      match cs', hlen with
      | [v0], _ =>
        obtain ⟨z0, f0, _, _⟩ := DataW.trod_int Tryz.underlying2 h2
        simp at f0
        subst f0
        have e0 := hcell 0 (by omega)
        rw [add_add] at e0
        exact ⟨z0, by simpa using e0⟩
    obtain ⟨q, hq⟩ := choose_lt each
    refine ⟨some a, l, c, q, rfl, by omega, by omega, ?_⟩
    by_cases hz0 : l = 0
    · exact .inl hz0
    · obtain ⟨b, off, spot⟩ := a
      have hc0 := hq 0 (by omega)
      have hspot : spot = none := by simpa [Addr.add] using World.cell?_spot hc0
      subst hspot
      refine .inr ⟨b, off, rfl, Go.block_lt_of_cell hc0, fun i hi => ?_⟩
      have k0 := hq i hi
      rw [add_plain, Nat.mul_one] at k0
      exact k0
end Go.Proofs.YtaokclhcmgbgnaaGreat
