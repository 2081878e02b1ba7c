/- Where a key stands among cells: its model, and the walks of spec.l1Find, impl.placeOfKey and impl.hasCell. -/
import Derived.Test.YtjggplfhkejbbaaQBase
import Derived.Deep.RegionHeld3
namespace Go.Proofs.Ytjggplfhkejbbaa
open Go.RowKit Go.Deep
set_option linter.unusedVariables false

/-- What the j-th place of a row of cells holds. -/
def cv (K V : Nat → Int) (j : Nat) : Value := .int .i64 (if j % 2 = 0 then K (j / 2) else V (j / 2))
theorem cv_key (K V : Nat → Int) (i : Nat) : cv K V (i * 2) = .int .i64 (K i) := by unfold cv; rw [if_pos (by omega)]; congr 2; omega
theorem cv_val (K V : Nat → Int) (i : Nat) : cv K V (i * 2 + 1) = .int .i64 (V i) := by unfold cv; rw [if_neg (by omega)]; congr 2; omega

/-- The slice at 'a' has n cells: keys K, values V. -/
def CellsAt (w : World) (a : Option Addr) (n : Nat) (K V : Nat → Int) : Prop :=
  n = 0 ∨ ∃ b off, a = some ⟨b, off, none⟩ ∧ b < w.heap.size ∧ (∀ i, i < n → w.cell? ⟨b, off + i * 2, none⟩ = some (.int .i64 (K i))) ∧ (∀ i, i < n → w.cell? ⟨b, off + i * 2 + 1, none⟩ = some (.int .i64 (V i)))

/-- .. in a block from lo on, below hi, that may be written. -/
def Own (w : World) (lo hi : Nat) (a : Option Addr) (n : Nat) (K V : Nat → Int) : Prop :=
  hi ≤ w.heap.size ∧ (n = 0 ∨ ∃ b off, a = some ⟨b, off, none⟩ ∧ lo ≤ b ∧ b < hi ∧ (∀ i, i < n → w.cell? ⟨b, off + i * 2, none⟩ = some (.int .i64 (K i))) ∧ (∀ i, i < n → w.cell? ⟨b, off + i * 2 + 1, none⟩ = some (.int .i64 (V i))) ∧
    (∀ i, i < n → w.frozen? ⟨b, off + i * 2, none⟩ = false) ∧ (∀ i, i < n → w.frozen? ⟨b, off + i * 2 + 1, none⟩ = false))

/-- What was there is as it was but for blocks from lo on, below hi. -/
structure Writes (lo hi : Nat) (w w' : World) : Prop where
  os : w'.os = w.os
  tape : w'.tape = w.tape
  output : w'.output = w.output
  size : w.heap.size ≤ w'.heap.size
  block : ∀ k, k < w.heap.size → (k < lo ∨ hi ≤ k) → w'.heap[k]? = w.heap[k]?

theorem Writes.refl (lo hi : Nat) (w : World) : Writes lo hi w w := ⟨rfl, rfl, rfl, Nat.le_refl _, fun _ _ _ => rfl⟩
theorem Writes.trans {lo hi : Nat} {a b c : World} (h : Writes lo hi a b) (k : Writes lo hi b c) : Writes lo hi a c :=
  ⟨k.os.trans h.os, k.tape.trans h.tape, k.output.trans h.output, Nat.le_trans h.size k.size, fun i hi1 hi2 => (k.block i (Nat.lt_of_lt_of_le hi1 h.size) hi2).trans (h.block i hi1 hi2)⟩
theorem Writes.of_below {lo hi : Nat} {w w' : World} (h : Below w.heap.size w w') : Writes lo hi w w' := ⟨h.os, h.tape, h.output, h.size, fun k hk _ => h.block k hk⟩
theorem Writes.below {lo hi : Nat} {W w w' : World} (h0 : Below W.heap.size W w) (h : Writes lo hi w w') (hlo : W.heap.size ≤ lo) : Below W.heap.size W w' :=
  ⟨h.os.trans h0.os, h.tape.trans h0.tape, h.output.trans h0.output, Nat.le_trans h0.size h.size, fun k hk => (h.block k (Nat.lt_of_lt_of_le hk h0.size) (.inl (Nat.lt_of_lt_of_le hk hlo))).trans (h0.block k hk)⟩
theorem Writes.setCell {lo hi : Nat} {w w' : World} (h : Writes lo hi w w') {p : Addr} (h1 : lo ≤ p.block) (h2 : p.block < hi) (v : Value) : Writes lo hi w (w'.setCell p v) :=
  ⟨h.os, h.tape, h.output, by simpa [World.setCell] using h.size, fun k hk hk2 => (Below.heap_setCell _ _ _ _ (by omega)).trans (h.block k hk hk2)⟩
theorem Writes.alloc {lo hi : Nat} {w w' : World} (h : Writes lo hi w w') (o : Obj) : Writes lo hi w (w'.alloc o) :=
  ⟨h.os, h.tape, h.output, by have := h.size; simp; omega, fun k hk hk2 => (Below.heap_alloc _ _ _ (by have := h.size; omega)).trans (h.block k hk hk2)⟩
theorem Writes.cell {lo hi : Nat} {w w' : World} (h : Writes lo hi w w') {b : Nat} (h1 : b < w.heap.size) (h2 : b < lo ∨ hi ≤ b) (o : Nat) : w'.cell? ⟨b, o, none⟩ = w.cell? ⟨b, o, none⟩ :=
  World.cell?_of_block (w := w) (h.block b h1 h2)

theorem Own.at {w : World} {lo hi : Nat} {a : Option Addr} {n : Nat} {K V : Nat → Int} (h : Own w lo hi a n K V) : CellsAt w a n K V := by
  obtain ⟨h0, h1 | ⟨b, off, ha, _, hl, hk, hv, _, _⟩⟩ := h
  · exact .inl h1
  · exact .inr ⟨b, off, ha, by omega, hk, hv⟩
theorem CellsAt.writes {w w' : World} {a : Option Addr} {n : Nat} {K V : Nat → Int} {lo hi : Nat} (h : CellsAt w a n K V) (hw : Writes lo hi w w') (hlo : w.heap.size ≤ lo) : CellsAt w' a n K V := by
  rcases h with h | ⟨b, off, ha, hl, hk, hv⟩
  · exact .inl h
  · exact .inr ⟨b, off, ha, Nat.lt_of_lt_of_le hl hw.size, fun i hi => (hw.cell hl (.inl (by omega)) _).trans (hk i hi), fun i hi => (hw.cell hl (.inl (by omega)) _).trans (hv i hi)⟩
theorem CellsAt.below {w w' : World} {a : Option Addr} {n : Nat} {K V : Nat → Int} (h : CellsAt w a n K V) (hb : Below w.heap.size w w') : CellsAt w' a n K V :=
  h.writes (Writes.of_below (lo := w.heap.size) (hi := 0) hb) (Nat.le_refl _)
/-- .. whose block is none of those that were written. -/
theorem Own.writes {w w' : World} {lo hi lo' hi' : Nat} {a : Option Addr} {n : Nat} {K V : Nat → Int} (h : Own w lo hi a n K V) (hw : Writes lo' hi' w w') (hd : hi ≤ lo' ∨ hi' ≤ lo) : Own w' lo hi a n K V := by
  obtain ⟨h0, h1 | ⟨b, off, ha, h2, hl, hk, hv, hf, hg⟩⟩ := h
  · exact ⟨Nat.le_trans h0 hw.size, .inl h1⟩
  · have hb := hw.block b (by omega) (by omega)
    exact ⟨Nat.le_trans h0 hw.size, .inr ⟨b, off, ha, h2, hl, fun i hi => (World.cell?_of_block (w := w) (a := ⟨b, _, none⟩) hb).trans (hk i hi), fun i hi => (World.cell?_of_block (w := w) (a := ⟨b, _, none⟩) hb).trans (hv i hi),
      fun i hi => (World.frozen?_of_block (w := w) (a := ⟨b, _, none⟩) hb).trans (hf i hi), fun i hi => (World.frozen?_of_block (w := w) (a := ⟨b, _, none⟩) hb).trans (hg i hi)⟩⟩
theorem Own.below {w w' : World} {lo hi : Nat} {a : Option Addr} {n : Nat} {K V : Nat → Int} (h : Own w lo hi a n K V) (hb : Below w.heap.size w w') : Own w' lo hi a n K V :=
  h.writes (Writes.of_below (lo := hi) (hi := hi) hb) (.inl (Nat.le_refl _))
theorem Own.wide {w : World} {lo hi lo' hi' : Nat} {a : Option Addr} {n : Nat} {K V : Nat → Int} (h : Own w lo hi a n K V) (h1 : lo' ≤ lo) (h2 : hi ≤ hi') (h3 : hi' ≤ w.heap.size) : Own w lo' hi' a n K V := by
  obtain ⟨h0, h4 | ⟨b, off, ha, h5, hl, r⟩⟩ := h
  · exact ⟨h3, .inl h4⟩
  · exact ⟨h3, .inr ⟨b, off, ha, by omega, by omega, r⟩⟩
theorem Own.of_row {w : World} {b n : Nat} {K V : Nat → Int} (h : w.rowIs b 124 (n * 2) (cv K V)) : Own w b (b + 1) (some ⟨b, 0, none⟩) n K V :=
  ⟨h.lt, .inr ⟨b, 0, rfl, Nat.le_refl _, by omega, fun i hi => by have := h.cell (i := i * 2) (by omega); rw [cv_key] at this; simpa using this, fun i hi => by have := h.cell (i := i * 2 + 1) (by omega); rw [cv_val] at this; simpa using this,
    fun i _ => h.frozen _, fun i _ => h.frozen _⟩⟩
theorem Own.congr {w : World} {lo hi : Nat} {a : Option Addr} {n : Nat} {K V K' V' : Nat → Int} (h : Own w lo hi a n K V) (h1 : ∀ i, i < n → K i = K' i) (h2 : ∀ i, i < n → V i = V' i) : Own w lo hi a n K' V' := by
  obtain ⟨h0, h4 | ⟨b, off, ha, h5, hl, hk, hv, r⟩⟩ := h
  · exact ⟨h0, .inl h4⟩
  · exact ⟨h0, .inr ⟨b, off, ha, h5, hl, fun i hi => by rw [hk i hi, h1 i hi], fun i hi => by rw [hv i hi, h2 i hi], r⟩⟩

theorem info99 : (Try.prog.info? 124).map (fun i => (i.zero, i.size, i.bytes)) = some (some (.agg #[.int .i64 0, .int .i64 0]), 2, 16) := by kernel_rfl
/-- 'make([]impl.Cell, n)'. -/
theorem run_make_cells (n : Nat) (hn : n ≤ 8796093022208) (w : World) :
    (Instr.makeSlice 65 (.int .i64 (n : Int)) (.int .i64 (n : Int))).run Try.prog w = .ok (.slice (some ⟨w.heap.size, 0, none⟩) n n) (w.alloc (.cells (madeCells #[.int .i64 0, .int .i64 0] (n * 2)) 124)) := by
  obtain ⟨i, hi, hzz⟩ := Option.map_eq_some_iff.1 info99
  simp only [Prod.mk.injEq] at hzz
  obtain ⟨hz, hs, hb⟩ := hzz
  have hr := run_make (P := Try.prog) w 65 124 i _ Try.underlying65 hi hz .i64 .i64 n n (by omega) (Int.le_refl _) (by rw [hb]; omega) (by omega)
  simp only [Int.toNat_natCast, hs] at hr
  exact hr
theorem made_cells (w : World) (n : Nat) : (w.alloc (.cells (madeCells #[.int .i64 0, .int .i64 0] (n * 2)) 124)).rowIs w.heap.size 124 (n * 2) (cv (fun _ => 0) (fun _ => 0)) :=
  ⟨_, blk_alloc_new _ _, size_madeCells _ _, fun i hi => by
    have h : i % 2 = 0 ∨ i % 2 = 1 := by omega
    rcases h with h | h <;> simp [madeCells, hi, cv, h]⟩

/-- laws.eqCell of one cell with itself. -/
theorem eqCell_same (k v : Int) (w : World) : Calls Try.prog 119 #[.agg #[.int .i64 k, .int .i64 v], .agg #[.int .i64 k, .int .i64 v]] w fun e w' =>
    e = .returned (.bool true) ∧ ∃ c1 c2 : Array Value, w' = (w.alloc (.cells c1 124)).alloc (.cells c2 124) := by
  go_enter Try.func119, Try.ntmps119
  go_wp2
  go_ret
  exact ⟨rfl, _, _, rfl⟩
theorem toCell_any (k v : Int) (w : World) : Calls Try.prog 115 #[.agg #[.int .i64 k, .int .i64 v]] w fun e w' =>
    e = .returned (.agg #[.int .i64 k, .int .i64 v]) ∧ Below w.heap.size w w' := by
  go_enter Try.func115, Try.ntmps115
  go_wp2
  exact bodyPost_ret (v := .agg #[.int .i64 k, .int .i64 v]) (by simp [results, Try.results115, go_sem]) rfl ⟨rfl, (((Below.refl _ _).alloc (Nat.le_refl _) _).alloc (by simp) _).alloc (by simp; omega) _⟩

set_option maxHeartbeats 400000 in
theorem eqCellS_some (n : Nat) (K V : Nat → Int) (b off cap b' off' cap' : Nat) (w : World) (hn : n ≤ 140737488355328) (hbl : b < w.heap.size) (hbl' : b' < w.heap.size)
    (hk : ∀ i, i < n → w.cell? ⟨b, off + i * 2, none⟩ = some (.int .i64 (K i))) (hv : ∀ i, i < n → w.cell? ⟨b, off + i * 2 + 1, none⟩ = some (.int .i64 (V i)))
    (hk' : ∀ i, i < n → w.cell? ⟨b', off' + i * 2, none⟩ = some (.int .i64 (K i))) (hv' : ∀ i, i < n → w.cell? ⟨b', off' + i * 2 + 1, none⟩ = some (.int .i64 (V i))) :
    Calls Try.prog 98 #[.slice (some ⟨b, off, none⟩) n cap, .slice (some ⟨b', off', none⟩) n cap'] w fun e w' => e = .returned (.bool true) ∧ Below w.heap.size w w' := by
  go_enter Try.func98, Try.ntmps98
  go_wp2
  go_loopw [5] (fun i wr => ∃ k : Nat, k ≤ n ∧ i = .int .i64 k ∧ Below w.heap.size w wr) (fun i _ => n - (intOf i).toNat)
  case atStart => exact ⟨0, Nat.zero_le _, rfl, Below.refl _ _⟩
  case round =>
    obtain ⟨k, hk0, rfl, hb⟩ := hrel
    by_cases hlt : k < n
    · have h1 : wr.cell? ⟨b, off + k * 2, none⟩ = some (.int .i64 (K k)) := (hb.cell (p := ⟨b, _, none⟩) hbl).trans (hk k hlt)
      have h2 : wr.cell? ⟨b, off + k * 2 + 1, none⟩ = some (.int .i64 (V k)) := (hb.cell (p := ⟨b, _, none⟩) hbl).trans (hv k hlt)
      have h3 : wr.cell? ⟨b', off' + k * 2, none⟩ = some (.int .i64 (K k)) := (hb.cell (p := ⟨b', _, none⟩) hbl').trans (hk' k hlt)
      have h4 : wr.cell? ⟨b', off' + k * 2 + 1, none⟩ = some (.int .i64 (V k)) := (hb.cell (p := ⟨b', _, none⟩) hbl').trans (hv' k hlt)
      have hlt' : (k : Int) < (n : Int) := by omega
      clear hk hk' hv hv'
      go_wp2
      go_region_held3 (fun w' => w'.cell? ⟨b, off + k * 2, none⟩ = some (.int .i64 (K k)) ∧ w'.cell? ⟨b, off + k * 2 + 1, none⟩ = some (.int .i64 (V k)) ∧ w'.cell? ⟨b', off' + k * 2, none⟩ = some (.int .i64 (K k)) ∧ w'.cell? ⟨b', off' + k * 2 + 1, none⟩ = some (.int .i64 (V k))) (go_keep)
        (first | (go_at_call 119; refine (eqCell_same (K k) (V k) _).mono ?_; rintro e w' ⟨rfl, o1, o2, rfl⟩))
      have HB : Hid (Below w.heap.size w wr) := hb
      clear hb
      go_wp2
      go_roundw
      case rel => exact ⟨k + 1, hlt, by go_num, by have hs := HB.out.size; repeat (first | exact HB.out | apply Below.drew | refine Below.alloc ?_ (by first | omega | (simp; omega)) _)⟩
      case measure => simp [intOf]; omega
    · have hkn : k = n := by omega
      clear hk hk' hv hv'
      go_wp2
      go_ret
      exact ⟨rfl, hb⟩
theorem eqCellS_zero (a a' : Option Addr) (cap cap' : Nat) (w : World) :
    Calls Try.prog 98 #[.slice a 0 cap, .slice a' 0 cap'] w fun e w' => e = .returned (.bool true) ∧ Below w.heap.size w w' := by
  go_enter Try.func98, Try.ntmps98
  go_wp2
  go_loop [5] (fun i => i = .int .i64 0) (fun _ => 0)
  case atStart => exact rfl
  case round =>
    obtain rfl := hrel
    go_wp2
    go_ret
    exact ⟨rfl, Below.refl _ _⟩
theorem eqCellS_any (n : Nat) (K V : Nat → Int) (a a' : Option Addr) (cap cap' : Nat) (w : World) (hn : n ≤ 140737488355328) (h : CellsAt w a n K V) (h' : CellsAt w a' n K V) :
    Calls Try.prog 98 #[.slice a n cap, .slice a' n cap'] w fun e w' => e = .returned (.bool true) ∧ Below w.heap.size w w' := by
  rcases h with rfl | ⟨b, off, rfl, hl, hk, hv⟩
  · exact eqCellS_zero a a' cap cap' w
  · rcases h' with rfl | ⟨b', off', rfl, hl', hk', hv'⟩
    · exact eqCellS_zero _ a' cap cap' w
    · exact eqCellS_some n K V b off cap b' off' cap' w hn hl hl' hk hv hk' hv'
/-! ### laws.toCellS -/
theorem cv_step {K V : Nat → Int} {w : World} {b n k : Nat} (h : w.rowIs b 124 (n * 2) (cv (fun i => if i < k then K i else 0) (fun i => if i < k then V i else 0))) :
    ((w.setCell ⟨b, k * 2, none⟩ (.int .i64 (K k))).setCell ⟨b, k * 2 + 1, none⟩ (.int .i64 (V k))).rowIs b 124 (n * 2) (cv (fun i => if i < k + 1 then K i else 0) (fun i => if i < k + 1 then V i else 0)) := by
  refine ((h.set (k * 2) _).set (k * 2 + 1) _).congr fun j _ => ?_
  by_cases e1 : j = k * 2 + 1
  · subst e1; rw [if_pos rfl, cv_val]; simp
  · rw [if_neg e1]
    by_cases e2 : j = k * 2
    · subst e2; rw [if_pos rfl, cv_key]; simp
    · rw [if_neg e2]
      have : (j / 2 < k) ↔ (j / 2 < k + 1) := by omega
      unfold cv; simp only [this]
set_option maxHeartbeats 400000 in
theorem toCellS_some (n : Nat) (K V : Nat → Int) (b off cap : Nat) (w : World) (hn : n ≤ 8796093022208) (hbl : b < w.heap.size)
    (hk : ∀ i, i < n → w.cell? ⟨b, off + i * 2, none⟩ = some (.int .i64 (K i))) (hv : ∀ i, i < n → w.cell? ⟨b, off + i * 2 + 1, none⟩ = some (.int .i64 (V i))) :
    Calls Try.prog 89 #[.slice (some ⟨b, off, none⟩) n cap] w fun e w' =>
      e = .returned (.slice (some ⟨w.heap.size, 0, none⟩) n n) ∧ Below w.heap.size w w' ∧ w'.rowIs w.heap.size 124 (n * 2) (cv K V) := by
  have hmk := run_make_cells n hn
  go_enter Try.func89, Try.ntmps89
  go_wp2
  go_loopw [4] (fun i wr => ∃ k : Nat, k ≤ n ∧ i = .int .i64 k ∧ Below w.heap.size w wr ∧ wr.rowIs w.heap.size 124 (n * 2) (cv (fun i => if i < k then K i else 0) (fun i => if i < k then V i else 0))) (fun i _ => n - (intOf i).toNat)
  case atStart => exact ⟨0, Nat.zero_le _, rfl, (Below.refl _ _).alloc (Nat.le_refl _) _, (made_cells w n).congr (fun i _ => by simp)⟩
  case round =>
    obtain ⟨k, hk0, rfl, hb, hrow⟩ := hrel
    by_cases hlt : k < n
    · have h1 : wr.cell? ⟨b, off + k * 2, none⟩ = some (.int .i64 (K k)) := (hb.cell (p := ⟨b, _, none⟩) hbl).trans (hk k hlt)
      have h2 : wr.cell? ⟨b, off + k * 2 + 1, none⟩ = some (.int .i64 (V k)) := (hb.cell (p := ⟨b, _, none⟩) hbl).trans (hv k hlt)
      obtain ⟨v3, hv3⟩ : ∃ v, wr.cell? ⟨w.heap.size, k * 2, none⟩ = some v := ⟨_, hrow.cell (by omega)⟩
      obtain ⟨v4, hv4⟩ : ∃ v, wr.cell? ⟨w.heap.size, k * 2 + 1, none⟩ = some v := ⟨_, hrow.cell (by omega)⟩
      have hf3 := hrow.frozen (k * 2)
      have hf4 := hrow.frozen (k * 2 + 1)
      have hsz := hrow.lt
      have HR : Hid (wr.rowIs w.heap.size 124 (n * 2) (cv (fun i => if i < k then K i else 0) (fun i => if i < k then V i else 0))) := hrow
      have HB : Hid (Below w.heap.size w wr) := hb
      clear hk hv hmk hrow hb
      go_wp2_with fail
      refine (toCell_any (K k) (V k) wr).mono ?_
      rintro e w1 ⟨rfl, hb1⟩
      have g3 : w1.cell? ⟨w.heap.size, k * 2, none⟩ = some v3 := (hb1.cell (p := ⟨_, _, none⟩) hsz).trans hv3
      have g4 : w1.cell? ⟨w.heap.size, k * 2 + 1, none⟩ = some v4 := (hb1.cell (p := ⟨_, _, none⟩) hsz).trans hv4
      have f3 : w1.frozen? ⟨w.heap.size, k * 2, none⟩ = false := (hb1.frozen (p := ⟨_, _, none⟩) hsz).trans hf3
      have f4 : w1.frozen? ⟨w.heap.size, k * 2 + 1, none⟩ = false := (hb1.frozen (p := ⟨_, _, none⟩) hsz).trans hf4
      have HB1 : Hid (Below wr.heap.size wr w1) := hb1
      clear hb1 h1 h2 hv3 hv4 hf3 hf4
      go_wp2_with fail
      go_roundw
      case rel => exact ⟨k + 1, hlt, by go_num, ((HB.out.trans (HB1.out.mono HB.out.size)).setCell (Nat.le_refl _) _).setCell (Nat.le_refl _) _, cv_step (HR.out.of_block (HB1.out.block _ hsz))⟩
      case measure => simp [intOf]; omega
    · have hkn : k = n := by omega
      have HR : Hid (wr.rowIs w.heap.size 124 (n * 2) (cv K V)) := hrow.congr (fun i hi => by
        have : i / 2 < k := by omega
        simp [cv, this])
      clear hk hv hmk hrow
      go_wp2
      go_ret
      exact ⟨rfl, hb, HR.out⟩
theorem toCellS_zero (K V : Nat → Int) (a : Option Addr) (cap : Nat) (w : World) :
    Calls Try.prog 89 #[.slice a 0 cap] w fun e w' =>
      e = .returned (.slice (some ⟨w.heap.size, 0, none⟩) 0 0) ∧ Below w.heap.size w w' ∧ w'.rowIs w.heap.size 124 (0 * 2) (cv K V) := by
  have hmk : ∀ w, (Instr.makeSlice 65 (.int .i64 0) (.int .i64 0)).run Try.prog w = .ok (.slice (some ⟨w.heap.size, 0, none⟩) 0 0) (w.alloc (.cells #[] 124)) := fun w => by
    have h := run_make_cells 0 (by omega) w
    rw [made_none] at h
    exact h
  go_enter Try.func89, Try.ntmps89
  go_wp2
  go_loop [4] (fun i => i = .int .i64 0) (fun _ => 0)
  case atStart => exact rfl
  case round =>
    obtain rfl := hrel
    go_wp2
    go_ret
    exact ⟨rfl, (Below.refl _ _).alloc (Nat.le_refl _) _, World.rowIs_alloc w #[] 124 _ (fun i hi => by simp at hi)⟩
theorem toCellS_any (n : Nat) (K V : Nat → Int) (a : Option Addr) (cap : Nat) (w : World) (hn : n ≤ 8796093022208) (h : CellsAt w a n K V) :
    Calls Try.prog 89 #[.slice a n cap] w fun e w' =>
      e = .returned (.slice (some ⟨w.heap.size, 0, none⟩) n n) ∧ Below w.heap.size w w' ∧ w'.rowIs w.heap.size 124 (n * 2) (cv K V) := by
  rcases h with rfl | ⟨b, off, rfl, hbl, hk, hv⟩
  · exact toCellS_zero K V a cap w
  · exact toCellS_some n K V b off cap w hn hbl hk hv

/-! ### laws.markCellS -/
theorem setO {w : World} {b o o' : Nat} {v : Value} (h : o ≠ o') : (w.setCell ⟨b, o, none⟩ v).cell? ⟨b, o', none⟩ = w.cell? ⟨b, o', none⟩ := World.cell?_setCell_other _ _ _ _ (by intro e; exact h (congrArg Addr.off e))
theorem setS {w : World} {a : Addr} {v u : Value} (h : w.cell? a = some u) : (w.setCell a v).cell? a = some v := World.cell?_setCell_same _ _ _ h
/-- The four rows of facts that 'Own' has of its cells. -/
def Row2 (w : World) (b off n : Nat) (K V : Nat → Int) : Prop :=
  (∀ i, i < n → w.cell? ⟨b, off + i * 2, none⟩ = some (.int .i64 (K i))) ∧ (∀ i, i < n → w.cell? ⟨b, off + i * 2 + 1, none⟩ = some (.int .i64 (V i))) ∧
    (∀ i, i < n → w.frozen? ⟨b, off + i * 2, none⟩ = false) ∧ (∀ i, i < n → w.frozen? ⟨b, off + i * 2 + 1, none⟩ = false)
def mk (m : Int) (K : Nat → Int) (j i : Nat) : Int := if i < j then m + i * 2 else K i
theorem mk_lt {m : Int} {K : Nat → Int} {j i : Nat} (h : i < j) : mk m K j i = m + i * 2 := by simp [mk, h]
theorem mk_ne {m : Int} {K : Nat → Int} {j i : Nat} (h : i ≠ j) : mk m K (j + 1) i = mk m K j i := by
  unfold mk; by_cases e : i < j
  · rw [if_pos e, if_pos (by omega)]
  · rw [if_neg e, if_neg (by omega)]
theorem row2_step {w : World} {b off n k : Nat} {K V : Nat → Int} {m : Int} (hlt : k < n) (h : Row2 w b off n (mk m K k) (mk (m + 1) V k)) :
    Row2 ((w.setCell ⟨b, off + k * 2, none⟩ (.int .i64 (m + k * 2))).setCell ⟨b, off + k * 2 + 1, none⟩ (.int .i64 (m + k * 2 + 1))) b off n (mk m K (k + 1)) (mk (m + 1) V (k + 1)) := by
  obtain ⟨hk, hv, hf, hg⟩ := h
  refine ⟨fun i hi => ?_, fun i hi => ?_, fun i hi => ?_, fun i hi => ?_⟩
  · rw [setO (by omega)]
    by_cases e : i = k
    · subst e; rw [setS (hk i hi), mk_lt (by omega)]
    · rw [setO (by omega), mk_ne e, hk i hi]
  · by_cases e : i = k
    · subst e
      have h0 : (w.setCell ⟨b, off + i * 2, none⟩ (.int .i64 (m + i * 2))).cell? ⟨b, off + i * 2 + 1, none⟩ = some (.int .i64 (mk (m + 1) V i i)) := by
        rw [setO (by omega), hv i hi]
      rw [setS h0, mk_lt (by omega)]
      congr 2; omega
    · rw [setO (by omega), setO (by omega), mk_ne e, hv i hi]
  · simp [go_sem, hf i hi]
  · simp [go_sem, hg i hi]
set_option maxHeartbeats 400000 in
theorem markCellS_some (n : Nat) (K V : Nat → Int) (b off cap lo hi : Nat) (m : Int) (w : World) (hn : n ≤ 8796093022208) (hm1 : 0 ≤ m) (hm2 : m ≤ 8796093022208) (hlo : lo ≤ b) (hhi : b < hi) (hr : Row2 w b off n K V) :
    Calls Try.prog 102 #[.slice (some ⟨b, off, none⟩) n cap, .int .i64 m] w fun e w' =>
      e = .returned (.int .i64 (m + n * 2)) ∧ Writes lo hi w w' ∧ Row2 w' b off n (mk m K n) (mk (m + 1) V n) := by
  go_enter Try.func102, Try.ntmps102
  go_wp2
  go_loopw [1, 5] (fun q i wr => ∃ k : Nat, k ≤ n ∧ i = .int .i64 k ∧ q = .int .i64 (m + k * 2) ∧ Writes lo hi w wr ∧ Row2 wr b off n (mk m K k) (mk (m + 1) V k)) (fun _ i _ => n - (intOf i).toNat)
  case atStart => exact ⟨0, Nat.zero_le _, rfl, by go_num, Writes.refl _ _ _, ⟨fun i h => by rw [hr.1 i h]; simp [mk], fun i h => by rw [hr.2.1 i h]; simp [mk], hr.2.2.1, hr.2.2.2⟩⟩
  case round =>
    obtain ⟨k, hk0, rfl, rfl, hb, hrow⟩ := hrel
    by_cases hlt : k < n
    · have h1 := hrow.1 k hlt
      have h2 := hrow.2.1 k hlt
      have h3 := hrow.2.2.1 k hlt
      have h4 := hrow.2.2.2 k hlt
      generalize mk m K k k = x1 at h1
      generalize mk (m + 1) V k k = x2 at h2
      have HR : Hid (Row2 wr b off n (mk m K k) (mk (m + 1) V k)) := hrow
      have HB : Hid (Writes lo hi w wr) := hb
      clear hr hrow hb
      go_wp2
      go_roundw
      case rel => exact ⟨k + 1, hlt, by go_num, by go_num, (HB.out.setCell (p := ⟨b, _, none⟩) hlo hhi _).setCell (p := ⟨b, _, none⟩) hlo hhi _, row2_step hlt HR.out⟩
      case measure => simp [intOf]; omega
    · have hkn : k = n := by omega
      have HR : Hid (Row2 wr b off n (mk m K n) (mk (m + 1) V n)) := by have h := hrow; rw [hkn] at h; exact h
      clear hr hrow
      go_wp2
      go_ret
      exact ⟨ret_int (by rw [hkn]), hb, HR.out⟩
theorem markCellS_zero (a : Option Addr) (cap lo hi : Nat) (m : Int) (w : World) (hm1 : 0 ≤ m) (hm2 : m ≤ 8796093022208) :
    Calls Try.prog 102 #[.slice a 0 cap, .int .i64 m] w fun e w' => e = .returned (.int .i64 m) ∧ w' = w := by
  go_enter Try.func102, Try.ntmps102
  go_wp2
  go_loop [1, 5] (fun q i => q = .int .i64 m ∧ i = .int .i64 0) (fun _ _ => 0)
  case atStart => exact ⟨rfl, rfl⟩
  case round =>
    obtain ⟨rfl, rfl⟩ := hrel
    go_wp2
    go_ret
    exact ⟨rfl, rfl⟩
def mK (m : Int) (i : Nat) : Int := m + i * 2
theorem markCellS_any (n : Nat) (K V : Nat → Int) (a : Option Addr) (cap lo hi : Nat) (m : Int) (w : World) (hn : n ≤ 8796093022208) (hm1 : 0 ≤ m) (hm2 : m ≤ 8796093022208) (h : Own w lo hi a n K V) :
    Calls Try.prog 102 #[.slice a n cap, .int .i64 m] w fun e w' =>
      e = .returned (.int .i64 (m + n * 2)) ∧ Writes lo hi w w' ∧ Own w' lo hi a n (mK m) (mK (m + 1)) := by
  obtain ⟨h0, rfl | ⟨b, off, rfl, hlo, hhi, hr⟩⟩ := h
  · refine (markCellS_zero a cap lo hi m w hm1 hm2).mono ?_
    rintro e w' ⟨rfl, rfl⟩
    exact ⟨ret_int (by omega), Writes.refl _ _ _, h0, .inl rfl⟩
  · refine (markCellS_some n K V b off cap lo hi m w hn hm1 hm2 hlo hhi hr).mono ?_
    rintro e w' ⟨rfl, hw, h1, h2, h3⟩
    exact ⟨rfl, hw, Nat.le_trans h0 hw.size, .inr ⟨b, off, rfl, hlo, hhi, fun i hi => by rw [h1 i hi, mk_lt hi]; rfl, fun i hi => by rw [h2 i hi, mk_lt hi]; rfl, h3⟩⟩

/-! ### laws.heldCellS -/
set_option maxHeartbeats 400000 in
theorem heldCellS_some (n b off cap : Nat) (m : Int) (w : World) (hn : n ≤ 8796093022208) (hm1 : 0 ≤ m) (hm2 : m ≤ 8796093022208)
    (hk : ∀ i, i < n → w.cell? ⟨b, off + i * 2, none⟩ = some (.int .i64 (mK m i))) (hv : ∀ i, i < n → w.cell? ⟨b, off + i * 2 + 1, none⟩ = some (.int .i64 (mK (m + 1) i))) :
    Calls Try.prog 106 #[.slice (some ⟨b, off, none⟩) n cap, .int .i64 m] w fun e w' => e = .returned (.int .i64 (m + n * 2)) ∧ w' = w := by
  go_enter Try.func106, Try.ntmps106
  go_wp2
  go_loop [1, 5] (fun q i => ∃ k : Nat, k ≤ n ∧ i = .int .i64 k ∧ q = .int .i64 (m + k * 2)) (fun _ i => n - (intOf i).toNat)
  case atStart => exact ⟨0, Nat.zero_le _, rfl, by go_num⟩
  case round =>
    obtain ⟨k, hk0, rfl, rfl⟩ := hrel
    by_cases hlt : k < n
    · have h1 : w.cell? ⟨b, off + k * 2, none⟩ = some (.int .i64 (m + k * 2)) := hk k hlt
      have h2 : w.cell? ⟨b, off + k * 2 + 1, none⟩ = some (.int .i64 (m + k * 2 + 1)) := by rw [hv k hlt]; unfold mK; congr 2; omega
      clear hk hv
      go_wp2
      go_round
      case rel => exact ⟨k + 1, hlt, by go_num, by go_num⟩
      case measure => simp [intOf]; omega
    · have hkn : k = n := by omega
      clear hk hv
      go_wp2
      go_ret
      exact ⟨rfl, rfl⟩
theorem heldCellS_zero (a : Option Addr) (cap : Nat) (m : Int) (w : World) (hm1 : 0 ≤ m) (hm2 : m ≤ 8796093022208) :
    Calls Try.prog 106 #[.slice a 0 cap, .int .i64 m] w fun e w' => e = .returned (.int .i64 m) ∧ w' = w := by
  go_enter Try.func106, Try.ntmps106
  go_wp2
  go_loop [1, 5] (fun q i => q = .int .i64 m ∧ i = .int .i64 0) (fun _ _ => 0)
  case atStart => exact ⟨rfl, rfl⟩
  case round =>
    obtain ⟨rfl, rfl⟩ := hrel
    go_wp2
    go_ret
    exact ⟨rfl, rfl⟩
theorem heldCellS_any (n : Nat) (a : Option Addr) (cap : Nat) (m : Int) (w : World) (hn : n ≤ 8796093022208) (hm1 : 0 ≤ m) (hm2 : m ≤ 8796093022208) (h : CellsAt w a n (mK m) (mK (m + 1))) :
    Calls Try.prog 106 #[.slice a n cap, .int .i64 m] w fun e w' => e = .returned (.int .i64 (m + n * 2)) ∧ w' = w := by
  rcases h with rfl | ⟨b, off, rfl, _, hk, hv⟩
  · refine (heldCellS_zero a cap m w hm1 hm2).mono ?_
    rintro e w' ⟨rfl, rfl⟩
    exact ⟨ret_int (by omega), rfl⟩
  · exact heldCellS_some n b off cap m w hn hm1 hm2 hk hv

/-! ### pages -/
/-- laws.eqPage of two pages that have the same. -/
theorem eqPage_same (id lsn : Int) (n : Nat) (K V : Nat → Int) (a a' : Option Addr) (cap cap' : Nat) (w : World) (hn : n ≤ 8796093022208) (h : CellsAt w a n K V) (h' : CellsAt w a' n K V) :
    Calls Try.prog 64 #[.agg #[.int .i64 id, .int .i64 lsn, .slice a n cap], .agg #[.int .i64 id, .int .i64 lsn, .slice a' n cap']] w fun e w' => e = .returned (.bool true) ∧ Below w.heap.size w w' := by
  go_enter Try.func64, Try.ntmps64
  go_wp2_with fail
  have hb0 : ∀ o1 o2, Below w.heap.size w ((w.alloc o1).alloc o2) := fun o1 o2 => ((Below.refl _ _).alloc (Nat.le_refl _) _).alloc (by simp) _
  refine (eqCellS_any n K V a a' cap cap' _ (by omega) (h.below (hb0 _ _)) (h'.below (hb0 _ _))).mono ?_
  rintro e w1 ⟨rfl, hb1⟩
  go_wp2_with fail
  go_ret
  exact ⟨rfl, below_then (hb0 _ _) hb1⟩
/-- laws.szPage. -/
theorem szPage_any (id lsn : Int) (n : Nat) (a : Option Addr) (cap : Nat) (w : World) (hn : n ≤ 9223372036854775807) :
    Calls Try.prog 44 #[.agg #[.int .i64 id, .int .i64 lsn, .slice a n cap], .int .i64 1048576] w fun e w' => e = .returned (.int .i64 (if n ≤ 1048576 then 1048576 - n else -1)) ∧ ∃ c : Array Value, w' = w.alloc (.cells c 87) := by
  by_cases h : n ≤ 1048576
  · rw [if_pos h]
    go_enter Try.func44, Try.ntmps44
    go_wp2
    go_ret
    exact ⟨rfl, _, rfl⟩
  · rw [if_neg h]
    go_enter Try.func44, Try.ntmps44
    go_wp2
    go_ret
    exact ⟨rfl, _, rfl⟩
/-- laws.toPage. -/
theorem toPage_any (id lsn : Int) (n : Nat) (K V : Nat → Int) (a : Option Addr) (cap : Nat) (w : World) (hn : n ≤ 8796093022208) (h : CellsAt w a n K V) :
    Calls Try.prog 52 #[.agg #[.int .i64 id, .int .i64 lsn, .slice a n cap]] w fun e w' =>
      ∃ b, e = .returned (.agg #[.int .i64 id, .int .i64 lsn, .slice (some ⟨b, 0, none⟩) n n]) ∧ Below w.heap.size w w' ∧ Own w' w.heap.size w'.heap.size (some ⟨b, 0, none⟩) n K V := by
  go_enter Try.func52, Try.ntmps52
  go_wp2_with fail
  have hb0 : ∀ o1 o2 o3, Below w.heap.size w (((w.alloc o1).alloc o2).alloc o3) := fun o1 o2 o3 => (((Below.refl _ _).alloc (Nat.le_refl _) _).alloc (by simp) _).alloc (by simp; omega) _
  refine (toCellS_any n K V a cap _ hn (h.below (hb0 _ _ _))).mono ?_
  rintro e w1 ⟨rfl, hb1, hr1⟩
  obtain ⟨hc, hf⟩ := bcell hb1
  have hz : w.heap.size + 2 < w1.heap.size := by have := hb1.size; simp at this; omega
  go_wp2_with fail
  refine bodyPost_ret (v := .agg #[.int .i64 id, .int .i64 lsn, .slice (some ⟨w.heap.size + 3, 0, none⟩) n n]) (by simp [results, Try.results52, go_sem, hc]) rfl ⟨_, rfl, ?_, ?_⟩
  · repeat (first | exact below_then (hb0 _ _ _) hb1 | refine Below.setCell ?_ (by first | omega | (simp <;> omega)) _)
  · have e3 : ∀ o1 o2 o3 : Obj, (((w.alloc o1).alloc o2).alloc o3).heap.size = w.heap.size + 3 := fun _ _ _ => by simp
    rw [e3] at hr1
    have ho := Own.of_row hr1
    refine Own.wide (Own.writes ho (lo' := w.heap.size) (hi' := w.heap.size + 3) ?_ (.inr ?_)) ?_ ?_ (Nat.le_refl _)
    · repeat (first | exact Writes.refl _ _ _ | refine Writes.setCell ?_ (by first | omega | (simp <;> omega)) (by first | omega | (simp <;> omega)) _)
    · omega
    · omega
    · have h9 := hr1.lt; simp [World.setCell]; omega
def Box3 (w : World) (B : Nat) (c0 c1 c2 : Value) : Prop := w.cell? ⟨B, 0, none⟩ = some c0 ∧ w.cell? ⟨B, 1, none⟩ = some c1 ∧ w.cell? ⟨B, 2, none⟩ = some c2
def Box4 (w : World) (B : Nat) (c0 c1 c2 c3 : Value) : Prop := w.cell? ⟨B, 0, none⟩ = some c0 ∧ w.cell? ⟨B, 1, none⟩ = some c1 ∧ w.cell? ⟨B, 2, none⟩ = some c2 ∧ w.cell? ⟨B, 3, none⟩ = some c3
def Box2 (w : World) (B : Nat) (c0 c1 : Value) : Prop := w.cell? ⟨B, 0, none⟩ = some c0 ∧ w.cell? ⟨B, 1, none⟩ = some c1

theorem cell_alloc {w : World} {B o : Nat} {v : Value} (h : w.cell? ⟨B, o, none⟩ = some v) (x : Obj) : (w.alloc x).cell? ⟨B, o, none⟩ = some v := by
  rw [World.cell?_alloc_lt _ _ _ (Go.block_lt_of_cell h)]; exact h
theorem cell_writes {w w' : World} {lo hi B o : Nat} {v : Value} (h : w.cell? ⟨B, o, none⟩ = some v) (hw : Writes lo hi w w') (hd : B < lo ∨ hi ≤ B) : w'.cell? ⟨B, o, none⟩ = some v :=
  (hw.cell (Go.block_lt_of_cell h) hd o).trans h
theorem cell_below {w w' : World} {B o : Nat} {v : Value} (h : w.cell? ⟨B, o, none⟩ = some v) (hb : Below w.heap.size w w') : w'.cell? ⟨B, o, none⟩ = some v :=
  (hb.cell (p := ⟨B, o, none⟩) (Go.block_lt_of_cell h)).trans h

theorem Box2.alloc {w : World} {B : Nat} {c0 c1 : Value} (h : Box2 w B c0 c1) (x : Obj) : Box2 (w.alloc x) B c0 c1 := ⟨cell_alloc h.1 x, cell_alloc h.2 x⟩
theorem Box3.alloc {w : World} {B : Nat} {c0 c1 c2 : Value} (h : Box3 w B c0 c1 c2) (x : Obj) : Box3 (w.alloc x) B c0 c1 c2 := ⟨cell_alloc h.1 x, cell_alloc h.2.1 x, cell_alloc h.2.2 x⟩
theorem Box4.alloc {w : World} {B : Nat} {c0 c1 c2 c3 : Value} (h : Box4 w B c0 c1 c2 c3) (x : Obj) : Box4 (w.alloc x) B c0 c1 c2 c3 := ⟨cell_alloc h.1 x, cell_alloc h.2.1 x, cell_alloc h.2.2.1 x, cell_alloc h.2.2.2 x⟩
theorem Box2.below {w w' : World} {B : Nat} {c0 c1 : Value} (h : Box2 w B c0 c1) (x : Below w.heap.size w w') : Box2 w' B c0 c1 := ⟨cell_below h.1 x, cell_below h.2 x⟩
theorem Box3.below {w w' : World} {B : Nat} {c0 c1 c2 : Value} (h : Box3 w B c0 c1 c2) (x : Below w.heap.size w w') : Box3 w' B c0 c1 c2 := ⟨cell_below h.1 x, cell_below h.2.1 x, cell_below h.2.2 x⟩
theorem Box4.below {w w' : World} {B : Nat} {c0 c1 c2 c3 : Value} (h : Box4 w B c0 c1 c2 c3) (x : Below w.heap.size w w') : Box4 w' B c0 c1 c2 c3 := ⟨cell_below h.1 x, cell_below h.2.1 x, cell_below h.2.2.1 x, cell_below h.2.2.2 x⟩
theorem Box2.writes {w w' : World} {lo hi B : Nat} {c0 c1 : Value} (h : Box2 w B c0 c1) (x : Writes lo hi w w') (d : B < lo ∨ hi ≤ B) : Box2 w' B c0 c1 := ⟨cell_writes h.1 x d, cell_writes h.2 x d⟩
theorem Box3.writes {w w' : World} {lo hi B : Nat} {c0 c1 c2 : Value} (h : Box3 w B c0 c1 c2) (x : Writes lo hi w w') (d : B < lo ∨ hi ≤ B) : Box3 w' B c0 c1 c2 := ⟨cell_writes h.1 x d, cell_writes h.2.1 x d, cell_writes h.2.2 x d⟩
theorem Box4.writes {w w' : World} {lo hi B : Nat} {c0 c1 c2 c3 : Value} (h : Box4 w B c0 c1 c2 c3) (x : Writes lo hi w w') (d : B < lo ∨ hi ≤ B) : Box4 w' B c0 c1 c2 c3 := ⟨cell_writes h.1 x d, cell_writes h.2.1 x d, cell_writes h.2.2.1 x d, cell_writes h.2.2.2 x d⟩
theorem Box2.new (w : World) (c0 c1 : Value) (t : TypeId) : Box2 (w.alloc (.cells #[c0, c1] t)) w.heap.size c0 c1 := by simp [Box2]
theorem Box3.new (w : World) (c0 c1 c2 : Value) (t : TypeId) : Box3 (w.alloc (.cells #[c0, c1, c2] t)) w.heap.size c0 c1 c2 := by simp [Box3]
theorem Box4.new (w : World) (c0 c1 c2 c3 : Value) (t : TypeId) : Box4 (w.alloc (.cells #[c0, c1, c2, c3] t)) w.heap.size c0 c1 c2 c3 := by simp [Box4]
theorem Box2.lt {w : World} {B : Nat} {c0 c1 : Value} (h : Box2 w B c0 c1) : B < w.heap.size := Go.block_lt_of_cell h.1
theorem Box3.lt {w : World} {B : Nat} {c0 c1 c2 : Value} (h : Box3 w B c0 c1 c2) : B < w.heap.size := Go.block_lt_of_cell h.1
theorem Box4.lt {w : World} {B : Nat} {c0 c1 c2 c3 : Value} (h : Box4 w B c0 c1 c2 c3) : B < w.heap.size := Go.block_lt_of_cell h.1
theorem below_new (w : World) (o : Obj) : Below w.heap.size w (w.alloc o) := (Below.refl _ _).alloc (Nat.le_refl _) _
def inB (v lo hi : Int) : Bool := decide (lo ≤ v) && decide (v ≤ hi)
theorem inB_iff {v lo hi : Int} : inB v lo hi = true ↔ lo ≤ v ∧ v ≤ hi := by simp [inB]
/-- The first fault of the cells from the i-th on, m of them. -/
def cff (K V : Nat → Int) : Nat → Nat → Int
  | 0, _ => 0
  | m + 1, i => if inB (K i) 0 31 = false ∨ inB (V i) 0 9999 = false then 3 else if 0 < i ∧ K i ≤ K (i - 1) then 1 else cff K V m (i + 1)
def pf (id lsn : Int) (n : Nat) (K V : Nat → Int) : Int :=
  if inB id 0 7 = false ∨ inB lsn 0 1000000 = false then 3 else if 12 < n then 2 else cff K V n 0
theorem cff_at {K V : Nat → Int} {n k : Nat} (h : k < n) : cff K V (n - k) k = if inB (K k) 0 31 = false ∨ inB (V k) 0 9999 = false then 3 else if 0 < k ∧ K k ≤ K (k - 1) then 1 else cff K V (n - (k + 1)) (k + 1) := by
  obtain ⟨m, hm⟩ : ∃ m, n - k = m + 1 := ⟨n - k - 1, by omega⟩
  rw [hm, cff, show n - (k + 1) = m by omega]

/-! ### the small tests -/
theorem l1In_any (v lo hi : Int) (w : World) : Calls Try.prog 69 #[.int .i64 v, .int .i64 lo, .int .i64 hi] w fun e w' => e = .returned (.bool (inB v lo hi)) ∧ w' = w := by
  unfold inB
  by_cases h1 : lo ≤ v
  · by_cases h2 : v ≤ hi
    · go_enter Try.func69, Try.ntmps69
      go_wp2
      go_ret
      exact ⟨ret_bool (by simp [h1, h2]), rfl⟩
    · have h3 : decide (v ≤ hi) = false := by simp; omega
      go_enter Try.func69, Try.ntmps69
      go_wp2
      go_ret
      exact ⟨ret_bool (by simp), rfl⟩
  · have h3 : decide (lo ≤ v) = false := by simp; omega
    go_enter Try.func69, Try.ntmps69
    go_wp2
    go_ret
    exact ⟨ret_bool (by simp), rfl⟩
theorem within_any (v lo hi : Int) (w : World) : Calls Try.prog 57 #[.int .i64 v, .int .i64 lo, .int .i64 hi] w fun e w' => e = .returned (.bool (inB v lo hi)) ∧ w' = w := by
  unfold inB
  by_cases h1 : lo ≤ v
  · by_cases h2 : v ≤ hi
    · go_enter Try.func57, Try.ntmps57
      go_wp2
      go_ret
      exact ⟨ret_bool (by simp [h1, h2]), rfl⟩
    · have h3 : decide (v ≤ hi) = false := by simp; omega
      go_enter Try.func57, Try.ntmps57
      go_wp2
      go_ret
      exact ⟨ret_bool (by simp), rfl⟩
  · have h3 : decide (lo ≤ v) = false := by simp; omega
    go_enter Try.func57, Try.ntmps57
    go_wp2
    go_ret
    exact ⟨ret_bool (by simp), rfl⟩
theorem l1Lsn_any (v : Int) (w : World) : Calls Try.prog 110 #[.int .i64 v] w fun e w' => e = .returned (.bool (inB v 0 1000000)) ∧ w' = w := by
  go_enter Try.func110, Try.ntmps110
  go_wp2_with (go_at_call 69; refine (l1In_any _ _ _ _).mono ?_; rintro e w' ⟨rfl, rfl⟩)
  go_ret
  exact ⟨rfl, rfl⟩
theorem l1Key_any (v : Int) (w : World) : Calls Try.prog 87 #[.int .i64 v] w fun e w' => e = .returned (.bool (inB v 0 31)) ∧ w' = w := by
  go_enter Try.func87, Try.ntmps87
  go_wp2_with (go_at_call 69; refine (l1In_any _ _ _ _).mono ?_; rintro e w' ⟨rfl, rfl⟩)
  go_ret
  exact ⟨rfl, rfl⟩
theorem l1Value_any (v : Int) (w : World) : Calls Try.prog 111 #[.int .i64 v] w fun e w' => e = .returned (.bool (inB v 0 9999)) ∧ w' = w := by
  go_enter Try.func111, Try.ntmps111
  go_wp2_with (go_at_call 69; refine (l1In_any _ _ _ _).mono ?_; rintro e w' ⟨rfl, rfl⟩)
  go_ret
  exact ⟨rfl, rfl⟩
theorem isLsn_any (v : Int) (w : World) : Calls Try.prog 91 #[.int .i64 v] w fun e w' => e = .returned (.bool (inB v 0 1000000)) ∧ w' = w := by
  go_enter Try.func91, Try.ntmps91
  go_wp2_with (go_at_call 57; refine (within_any _ _ _ _).mono ?_; rintro e w' ⟨rfl, rfl⟩)
  go_ret
  exact ⟨rfl, rfl⟩
theorem isKey_any (v : Int) (w : World) : Calls Try.prog 62 #[.int .i64 v] w fun e w' => e = .returned (.bool (inB v 0 31)) ∧ w' = w := by
  go_enter Try.func62, Try.ntmps62
  go_wp2_with (go_at_call 57; refine (within_any _ _ _ _).mono ?_; rintro e w' ⟨rfl, rfl⟩)
  go_ret
  exact ⟨rfl, rfl⟩
theorem isValue_any (v : Int) (w : World) : Calls Try.prog 116 #[.int .i64 v] w fun e w' => e = .returned (.bool (inB v 0 9999)) ∧ w' = w := by
  go_enter Try.func116, Try.ntmps116
  go_wp2_with (go_at_call 57; refine (within_any _ _ _ _).mono ?_; rintro e w' ⟨rfl, rfl⟩)
  go_ret
  exact ⟨rfl, rfl⟩

/-! ### impl.cellsFault -/
set_option maxHeartbeats 1000000 in
theorem cellsFault_some (n : Nat) (K V : Nat → Int) (b off cap : Nat) (w : World) (hn : n ≤ 140737488355328) (hbl : b < w.heap.size)
    (hk : ∀ i, i < n → w.cell? ⟨b, off + i * 2, none⟩ = some (.int .i64 (K i))) (hv : ∀ i, i < n → w.cell? ⟨b, off + i * 2 + 1, none⟩ = some (.int .i64 (V i))) :
    Calls Try.prog 92 #[.slice (some ⟨b, off, none⟩) n cap] w fun e w' => e = .returned (.int .i64 (cff K V n 0)) ∧ Below w.heap.size w w' := by
  go_enter Try.func92, Try.ntmps92
  go_wp2
  go_loopw [3, 4, 7] (fun _ _ i wr => ∃ k : Nat, k ≤ n ∧ i = .int .i64 k ∧ Hid (cff K V n 0 = cff K V (n - k) k) ∧ Below w.heap.size w wr) (fun _ _ i _ => n - (intOf i).toNat)
  case atStart => exact ⟨0, Nat.zero_le _, rfl, rfl, Below.refl _ _⟩
  case round =>
    obtain ⟨k, hk0, rfl, HC, hb⟩ := hrel
    by_cases hlt : k < n
    · have h1 : wr.cell? ⟨b, off + k * 2, none⟩ = some (.int .i64 (K k)) := (hb.cell (p := ⟨b, _, none⟩) hbl).trans (hk k hlt)
      have h2 : wr.cell? ⟨b, off + k * 2 + 1, none⟩ = some (.int .i64 (V k)) := (hb.cell (p := ⟨b, _, none⟩) hbl).trans (hv k hlt)
      have hbne : ¬ b = wr.heap.size := by have := hb.size; omega
      have hlt' : (k : Int) < (n : Int) := by omega
      have HB : Hid (Below w.heap.size w wr) := hb
      have HA : Hid (cff K V n 0 = _) := HC.out.trans (cff_at hlt)
      clear HC
      by_cases hc1 : inB (K k) 0 31 = true
      · by_cases hc2 : inB (V k) 0 9999 = true
        · rcases Nat.eq_zero_or_pos k with hk9 | hpos
          · have hd : decide (0 < k) = false := by simp; omega
            have HC : Hid (cff K V n 0 = cff K V (n - (k + 1)) (k + 1)) := by
              refine HA.out.trans ?_
              rw [if_neg (by simp [hc1, hc2]), if_neg (by omega)]
            clear hk hv hb HA hk9
            go_wp2_with (first | (go_at_call 62; refine (isKey_any _ _).mono ?_; rintro e w' ⟨rfl, rfl⟩) | (go_at_call 116; refine (isValue_any _ _).mono ?_; rintro e w' ⟨rfl, rfl⟩))
            go_quiet (fail)
            go_wp2
            go_roundw
            case rel => exact ⟨k + 1, hlt, by go_num, HC, by have hs := HB.out.size; repeat (first | exact HB.out | apply Below.drew | refine below_drewN ?_ _ | refine Below.alloc ?_ (by first | omega | (simp; omega)) _)⟩
            case measure => simp [intOf]; omega
          · obtain ⟨j, rfl⟩ : ∃ j, k = j + 1 := ⟨k - 1, by omega⟩
            have h3 : wr.cell? ⟨b, off + j * 2, none⟩ = some (.int .i64 (K j)) := (hb.cell (p := ⟨b, _, none⟩) hbl).trans (hk j (by omega))
            have hj1 : (j : Int) < (n : Int) := by omega
            have hj2 : j < n := by omega
            have h3a : ∀ o : Obj, (wr.alloc o).cell? ⟨b, off + j * 2, none⟩ = some (.int .i64 (K j)) := fun o => cell_alloc h3 o
            have hwj : IntKind.i64.wrap (j : Int) = (j : Int) := by rw [IntKind.wrap_i64]; omega
            by_cases hc3 : K (j + 1) ≤ K j
            · have HC : Hid (cff K V n 0 = 1) := by
                refine HA.out.trans ?_
                rw [if_neg (by simp [hc1, hc2]), if_pos ⟨by omega, by simpa using hc3⟩]
              clear hk hv hb HA
              go_wp2_with (first | (go_at_call 62; refine (isKey_any _ _).mono ?_; rintro e w' ⟨rfl, rfl⟩) | (go_at_call 116; refine (isValue_any _ _).mono ?_; rintro e w' ⟨rfl, rfl⟩))
              go_quiet (fail)
              go_wp2
              go_ret
              exact ⟨ret_int HC.out.symm, by have hs := HB.out.size; repeat (first | exact HB.out | apply Below.drew | refine below_drewN ?_ _ | refine Below.alloc ?_ (by first | omega | (simp; omega)) _)⟩
            · have HC : Hid (cff K V n 0 = cff K V (n - (j + 1 + 1)) (j + 1 + 1)) := by
                refine HA.out.trans ?_
                rw [if_neg (by simp [hc1, hc2]), if_neg (by simp; omega)]
              have hc4 : decide (K (j + 1) ≤ K j) = false := by simp; omega
              clear hk hv hb HA
              go_wp2_with (first | (go_at_call 62; refine (isKey_any _ _).mono ?_; rintro e w' ⟨rfl, rfl⟩) | (go_at_call 116; refine (isValue_any _ _).mono ?_; rintro e w' ⟨rfl, rfl⟩))
              go_quiet (fail)
              go_wp2
              go_roundw
              case rel => exact ⟨j + 1 + 1, hlt, by go_num, HC, by have hs := HB.out.size; repeat (first | exact HB.out | apply Below.drew | refine below_drewN ?_ _ | refine Below.alloc ?_ (by first | omega | (simp; omega)) _)⟩
              case measure => simp [intOf]; omega
        · have hc4 : inB (V k) 0 9999 = false := by simpa using hc2
          have HC : Hid (cff K V n 0 = 3) := by
            refine HA.out.trans ?_
            rw [if_pos (.inr hc4)]
          clear hk hv hb HA hc2
          go_wp2_with (first | (go_at_call 62; refine (isKey_any _ _).mono ?_; rintro e w' ⟨rfl, rfl⟩) | (go_at_call 116; refine (isValue_any _ _).mono ?_; rintro e w' ⟨rfl, rfl⟩))
          go_ret
          exact ⟨ret_int HC.out.symm, by have hs := HB.out.size; repeat (first | exact HB.out | apply Below.drew | refine below_drewN ?_ _ | refine Below.alloc ?_ (by first | omega | (simp; omega)) _)⟩
      · have hc4 : inB (K k) 0 31 = false := by simpa using hc1
        have HC : Hid (cff K V n 0 = 3) := by
          refine HA.out.trans ?_
          rw [if_pos (.inl hc4)]
        clear hk hv hb HA hc1
        go_wp2_with (first | (go_at_call 62; refine (isKey_any _ _).mono ?_; rintro e w' ⟨rfl, rfl⟩) | (go_at_call 116; refine (isValue_any _ _).mono ?_; rintro e w' ⟨rfl, rfl⟩))
        go_ret
        exact ⟨ret_int HC.out.symm, by have hs := HB.out.size; repeat (first | exact HB.out | apply Below.drew | refine below_drewN ?_ _ | refine Below.alloc ?_ (by first | omega | (simp; omega)) _)⟩
    · have HC2 : Hid (cff K V n 0 = 0) := by
        refine HC.out.trans ?_
        rw [show n - k = 0 by omega, cff]
      clear hk hv HC
      go_wp2
      go_ret
      exact ⟨ret_int HC2.out.symm, hb⟩
theorem cellsFault_zero (K V : Nat → Int) (a : Option Addr) (cap : Nat) (w : World) :
    Calls Try.prog 92 #[.slice a 0 cap] w fun e w' => e = .returned (.int .i64 (cff K V 0 0)) ∧ Below w.heap.size w w' := by
  go_enter Try.func92, Try.ntmps92
  go_wp2
  go_loop [3, 4, 7] (fun _ _ i => i = .int .i64 0) (fun _ _ _ => 0)
  case atStart => exact rfl
  case round =>
    obtain rfl := hrel
    go_wp2
    go_ret
    exact ⟨rfl, Below.refl _ _⟩
theorem cellsFault_any (n : Nat) (K V : Nat → Int) (a : Option Addr) (cap : Nat) (w : World) (hn : n ≤ 140737488355328) (h : CellsAt w a n K V) :
    Calls Try.prog 92 #[.slice a n cap] w fun e w' => e = .returned (.int .i64 (cff K V n 0)) ∧ Below w.heap.size w w' := by
  rcases h with rfl | ⟨b, off, rfl, hbl, hk, hv⟩
  · exact cellsFault_zero K V a cap w
  · exact cellsFault_some n K V b off cap w hn hbl hk hv
/-! ### impl.PageFault -/
theorem implFault_any (id lsn : Int) (n : Nat) (K V : Nat → Int) (a : Option Addr) (cap : Nat) (w : World) (hn : n ≤ 140737488355328) (h : CellsAt w a n K V) :
    Calls Try.prog 58 #[.agg #[.int .i64 id, .int .i64 lsn, .slice a n cap]] w fun e w' => e = .returned (.int .i64 (pf id lsn n K V)) ∧ Below w.heap.size w w' := by
  have hA : ∀ o : Obj, CellsAt (w.alloc o) a n K V := fun o => h.below (below_new _ _)
  unfold pf
  by_cases h1 : inB id 0 7 = true
  · by_cases h2 : inB lsn 0 1000000 = true
    · rw [if_neg (by simp [h1, h2])]
      by_cases h3 : 12 < n
      · rw [if_pos h3]
        clear hA h
        go_enter Try.func58, Try.ntmps58
        go_wp2_with (first | (go_at_call 57; refine (within_any _ _ _ _).mono ?_; rintro e w' ⟨rfl, rfl⟩) | (go_at_call 91; refine (isLsn_any _ _).mono ?_; rintro e w' ⟨rfl, rfl⟩))
        go_ret
        exact ⟨rfl, below_new _ _⟩
      · rw [if_neg h3]
        have HA : Hid (∀ o : Obj, CellsAt (w.alloc o) a n K V) := hA
        clear hA h
        go_enter Try.func58, Try.ntmps58
        go_wp2_with (first | (go_at_call 57; refine (within_any _ _ _ _).mono ?_; rintro e w' ⟨rfl, rfl⟩) | (go_at_call 91; refine (isLsn_any _ _).mono ?_; rintro e w' ⟨rfl, rfl⟩) | (go_at_call 92; refine (cellsFault_any n K V a cap _ hn (HA.out _)).mono ?_; rintro e w1 ⟨rfl, hb1⟩))
        go_ret
        exact ⟨rfl, below_then (below_new _ _) hb1⟩
    · rw [if_pos (.inr (by simpa using h2))]
      have h4 : inB lsn 0 1000000 = false := by simpa using h2
      clear h2 hA h
      go_enter Try.func58, Try.ntmps58
      go_wp2_with (first | (go_at_call 57; refine (within_any _ _ _ _).mono ?_; rintro e w' ⟨rfl, rfl⟩) | (go_at_call 91; refine (isLsn_any _ _).mono ?_; rintro e w' ⟨rfl, rfl⟩))
      go_ret
      exact ⟨rfl, below_new _ _⟩
  · rw [if_pos (.inl (by simpa using h1))]
    have h4 : inB id 0 7 = false := by simpa using h1
    clear h1 hA h
    go_enter Try.func58, Try.ntmps58
    go_wp2_with (first | (go_at_call 57; refine (within_any _ _ _ _).mono ?_; rintro e w' ⟨rfl, rfl⟩) | (go_at_call 91; refine (isLsn_any _ _).mono ?_; rintro e w' ⟨rfl, rfl⟩))
    go_ret
    exact ⟨rfl, below_new _ _⟩
set_option maxHeartbeats 2000000 in
theorem specFault_some (id lsn : Int) (n : Nat) (K V : Nat → Int) (b off cap : Nat) (w : World) (hn : n ≤ 12) (hbl : b < w.heap.size)
    (hk : ∀ i, i < n → w.cell? ⟨b, off + i * 2, none⟩ = some (.int .i64 (K i))) (hv : ∀ i, i < n → w.cell? ⟨b, off + i * 2 + 1, none⟩ = some (.int .i64 (V i)))
    (hi1 : inB id 0 7 = true) (hi2 : inB lsn 0 1000000 = true) :
    Calls Try.prog 84 #[.agg #[.int .i64 id, .int .i64 lsn, .slice (some ⟨b, off, none⟩) n cap]] w fun e w' => e = .returned (.int .i64 (cff K V n 0)) ∧ Below w.heap.size w w' := by
  have hk2 : ∀ (o : Obj) (i : Nat), i < n → (w.alloc o).cell? ⟨b, off + i * 2, none⟩ = some (.int .i64 (K i)) := fun o i hi => cell_alloc (hk i hi) o
  have hv2 : ∀ (o : Obj) (i : Nat), i < n → (w.alloc o).cell? ⟨b, off + i * 2 + 1, none⟩ = some (.int .i64 (V i)) := fun o i hi => cell_alloc (hv i hi) o
  have HK : Hid (∀ (o : Obj) (i : Nat), i < n → (w.alloc o).cell? ⟨b, off + i * 2, none⟩ = some (.int .i64 (K i))) := hk2
  have HV : Hid (∀ (o : Obj) (i : Nat), i < n → (w.alloc o).cell? ⟨b, off + i * 2 + 1, none⟩ = some (.int .i64 (V i))) := hv2
  have hn' : ¬ (12 < n) := by omega
  clear hk hv hk2 hv2
  go_enter Try.func84, Try.ntmps84
  go_wp2_with (first | (go_at_call 87; refine (l1Key_any _ _).mono ?_; rintro e w' ⟨rfl, rfl⟩) | (go_at_call 111; refine (l1Value_any _ _).mono ?_; rintro e w' ⟨rfl, rfl⟩) | (go_at_call 69; refine (l1In_any _ _ _ _).mono ?_; rintro e w' ⟨rfl, rfl⟩) | (go_at_call 110; refine (l1Lsn_any _ _).mono ?_; rintro e w' ⟨rfl, rfl⟩))
  go_loopw [3] (fun i wr => ∃ k : Nat, k ≤ n ∧ i = .int .i64 k ∧ Hid (cff K V n 0 = cff K V (n - k) k) ∧ ∃ m, wr = (w.alloc (.cells #[.int .i64 id, .int .i64 lsn, .slice (some ⟨b, off, none⟩) n cap] 67)).drewN m) (fun i _ => n - (intOf i).toNat)
  case atStart => exact ⟨0, Nat.zero_le _, rfl, rfl, 0, rfl⟩
  case round =>
    obtain ⟨k, hk0, rfl, HC, m, rfl⟩ := hrel
    by_cases hlt : k < n
    · have h1 := fun o => HK.out o k hlt
      have h2 := fun o => HV.out o k hlt
      have hlt' : (k : Int) < (n : Int) := by omega
      have HA : Hid (cff K V n 0 = _) := HC.out.trans (cff_at hlt)
      clear HC
      by_cases hc1 : inB (K k) 0 31 = true
      · by_cases hc2 : inB (V k) 0 9999 = true
        · rcases Nat.eq_zero_or_pos k with hk9 | hpos
          · have hd : decide (0 < k) = false := by simp; omega
            have HC : Hid (cff K V n 0 = cff K V (n - (k + 1)) (k + 1)) := by
              refine HA.out.trans ?_
              rw [if_neg (by simp [hc1, hc2]), if_neg (by omega)]
            clear HA hk9
            go_wp2_with (first | (go_at_call 87; refine (l1Key_any _ _).mono ?_; rintro e w' ⟨rfl, rfl⟩) | (go_at_call 111; refine (l1Value_any _ _).mono ?_; rintro e w' ⟨rfl, rfl⟩) | (go_at_call 69; refine (l1In_any _ _ _ _).mono ?_; rintro e w' ⟨rfl, rfl⟩) | (go_at_call 110; refine (l1Lsn_any _ _).mono ?_; rintro e w' ⟨rfl, rfl⟩))
            go_quiet (fail)
            go_wp2
            go_roundw
            case rel => exact ⟨k + 1, hlt, by go_num, HC, _, rfl⟩
            case measure => simp [intOf]; omega
          · obtain ⟨j, rfl⟩ : ∃ j, k = j + 1 := ⟨k - 1, by omega⟩
            have h3 := fun o => HK.out o j (by omega)
            have hj1 : (j : Int) < (n : Int) := by omega
            have hj2 : j < n := by omega
            have hwj : IntKind.i64.wrap (j : Int) = (j : Int) := by rw [IntKind.wrap_i64]; omega
            by_cases hc3 : K (j + 1) ≤ K j
            · have HC : Hid (cff K V n 0 = 1) := by
                refine HA.out.trans ?_
                rw [if_neg (by simp [hc1, hc2]), if_pos ⟨by omega, by simpa using hc3⟩]
              clear HA
              go_wp2_with (first | (go_at_call 87; refine (l1Key_any _ _).mono ?_; rintro e w' ⟨rfl, rfl⟩) | (go_at_call 111; refine (l1Value_any _ _).mono ?_; rintro e w' ⟨rfl, rfl⟩) | (go_at_call 69; refine (l1In_any _ _ _ _).mono ?_; rintro e w' ⟨rfl, rfl⟩) | (go_at_call 110; refine (l1Lsn_any _ _).mono ?_; rintro e w' ⟨rfl, rfl⟩))
              go_quiet (fail)
              go_wp2
              go_ret
              exact ⟨ret_int HC.out.symm, by repeat (first | exact below_new _ _ | refine below_drewN ?_ _)⟩
            · have HC : Hid (cff K V n 0 = cff K V (n - (j + 1 + 1)) (j + 1 + 1)) := by
                refine HA.out.trans ?_
                rw [if_neg (by simp [hc1, hc2]), if_neg (by simp; omega)]
              have hc4 : decide (K (j + 1) ≤ K j) = false := by simp; omega
              clear HA
              go_wp2_with (first | (go_at_call 87; refine (l1Key_any _ _).mono ?_; rintro e w' ⟨rfl, rfl⟩) | (go_at_call 111; refine (l1Value_any _ _).mono ?_; rintro e w' ⟨rfl, rfl⟩) | (go_at_call 69; refine (l1In_any _ _ _ _).mono ?_; rintro e w' ⟨rfl, rfl⟩) | (go_at_call 110; refine (l1Lsn_any _ _).mono ?_; rintro e w' ⟨rfl, rfl⟩))
              go_quiet (fail)
              go_wp2
              go_roundw
              case rel => exact ⟨j + 1 + 1, hlt, by go_num, HC, _, rfl⟩
              case measure => simp [intOf]; omega
        · have hc4 : inB (V k) 0 9999 = false := by simpa using hc2
          have HC : Hid (cff K V n 0 = 3) := by
            refine HA.out.trans ?_
            rw [if_pos (.inr hc4)]
          clear HA hc2
          go_wp2_with (first | (go_at_call 87; refine (l1Key_any _ _).mono ?_; rintro e w' ⟨rfl, rfl⟩) | (go_at_call 111; refine (l1Value_any _ _).mono ?_; rintro e w' ⟨rfl, rfl⟩) | (go_at_call 69; refine (l1In_any _ _ _ _).mono ?_; rintro e w' ⟨rfl, rfl⟩) | (go_at_call 110; refine (l1Lsn_any _ _).mono ?_; rintro e w' ⟨rfl, rfl⟩))
          go_ret
          exact ⟨ret_int HC.out.symm, by repeat (first | exact below_new _ _ | refine below_drewN ?_ _)⟩
      · have hc4 : inB (K k) 0 31 = false := by simpa using hc1
        have HC : Hid (cff K V n 0 = 3) := by
          refine HA.out.trans ?_
          rw [if_pos (.inl hc4)]
        clear HA hc1
        go_wp2_with (first | (go_at_call 87; refine (l1Key_any _ _).mono ?_; rintro e w' ⟨rfl, rfl⟩) | (go_at_call 111; refine (l1Value_any _ _).mono ?_; rintro e w' ⟨rfl, rfl⟩) | (go_at_call 69; refine (l1In_any _ _ _ _).mono ?_; rintro e w' ⟨rfl, rfl⟩) | (go_at_call 110; refine (l1Lsn_any _ _).mono ?_; rintro e w' ⟨rfl, rfl⟩))
        go_ret
        exact ⟨ret_int HC.out.symm, by repeat (first | exact below_new _ _ | refine below_drewN ?_ _)⟩
    · have HC2 : Hid (cff K V n 0 = 0) := by
        refine HC.out.trans ?_
        rw [show n - k = 0 by omega, cff]
      clear HC
      go_wp2
      go_ret
      exact ⟨ret_int HC2.out.symm, by repeat (first | exact below_new _ _ | refine below_drewN ?_ _)⟩
theorem specFault_zero (id lsn : Int) (K V : Nat → Int) (a : Option Addr) (cap : Nat) (w : World) (hi1 : inB id 0 7 = true) (hi2 : inB lsn 0 1000000 = true) :
    Calls Try.prog 84 #[.agg #[.int .i64 id, .int .i64 lsn, .slice a 0 cap]] w fun e w' => e = .returned (.int .i64 (cff K V 0 0)) ∧ Below w.heap.size w w' := by
  go_enter Try.func84, Try.ntmps84
  go_wp2_with (first | (go_at_call 87; refine (l1Key_any _ _).mono ?_; rintro e w' ⟨rfl, rfl⟩) | (go_at_call 111; refine (l1Value_any _ _).mono ?_; rintro e w' ⟨rfl, rfl⟩) | (go_at_call 69; refine (l1In_any _ _ _ _).mono ?_; rintro e w' ⟨rfl, rfl⟩) | (go_at_call 110; refine (l1Lsn_any _ _).mono ?_; rintro e w' ⟨rfl, rfl⟩))
  go_loop [3] (fun i => i = .int .i64 0) (fun _ => 0)
  case atStart => exact rfl
  case round =>
    obtain rfl := hrel
    go_wp2
    go_ret
    exact ⟨rfl, below_new _ _⟩
theorem specFault_any (id lsn : Int) (n : Nat) (K V : Nat → Int) (a : Option Addr) (cap : Nat) (w : World) (hn : n ≤ 140737488355328) (h : CellsAt w a n K V) :
    Calls Try.prog 84 #[.agg #[.int .i64 id, .int .i64 lsn, .slice a n cap]] w fun e w' => e = .returned (.int .i64 (pf id lsn n K V)) ∧ Below w.heap.size w w' := by
  unfold pf
  by_cases h1 : inB id 0 7 = true
  · by_cases h2 : inB lsn 0 1000000 = true
    · rw [if_neg (by simp [h1, h2])]
      by_cases h3 : 12 < n
      · rw [if_pos h3]
        clear h
        go_enter Try.func84, Try.ntmps84
        go_wp2_with (first | (go_at_call 87; refine (l1Key_any _ _).mono ?_; rintro e w' ⟨rfl, rfl⟩) | (go_at_call 111; refine (l1Value_any _ _).mono ?_; rintro e w' ⟨rfl, rfl⟩) | (go_at_call 69; refine (l1In_any _ _ _ _).mono ?_; rintro e w' ⟨rfl, rfl⟩) | (go_at_call 110; refine (l1Lsn_any _ _).mono ?_; rintro e w' ⟨rfl, rfl⟩))
        go_ret
        exact ⟨rfl, below_new _ _⟩
      · rw [if_neg h3]
        rcases h with rfl | ⟨b, off, rfl, hbl, hk, hv⟩
        · exact specFault_zero id lsn K V a cap w h1 h2
        · exact specFault_some id lsn n K V b off cap w (by omega) hbl hk hv h1 h2
    · rw [if_pos (.inr (by simpa using h2))]
      have h4 : inB lsn 0 1000000 = false := by simpa using h2
      clear h2 h
      go_enter Try.func84, Try.ntmps84
      go_wp2_with (first | (go_at_call 87; refine (l1Key_any _ _).mono ?_; rintro e w' ⟨rfl, rfl⟩) | (go_at_call 111; refine (l1Value_any _ _).mono ?_; rintro e w' ⟨rfl, rfl⟩) | (go_at_call 69; refine (l1In_any _ _ _ _).mono ?_; rintro e w' ⟨rfl, rfl⟩) | (go_at_call 110; refine (l1Lsn_any _ _).mono ?_; rintro e w' ⟨rfl, rfl⟩))
      go_ret
      exact ⟨rfl, below_new _ _⟩
  · rw [if_pos (.inl (by simpa using h1))]
    have h4 : inB id 0 7 = false := by simpa using h1
    clear h1 h
    go_enter Try.func84, Try.ntmps84
    go_wp2_with (first | (go_at_call 87; refine (l1Key_any _ _).mono ?_; rintro e w' ⟨rfl, rfl⟩) | (go_at_call 111; refine (l1Value_any _ _).mono ?_; rintro e w' ⟨rfl, rfl⟩) | (go_at_call 69; refine (l1In_any _ _ _ _).mono ?_; rintro e w' ⟨rfl, rfl⟩) | (go_at_call 110; refine (l1Lsn_any _ _).mono ?_; rintro e w' ⟨rfl, rfl⟩))
    go_ret
    exact ⟨rfl, below_new _ _⟩
def plc (K : Nat → Int) (key : Int) : Nat → Nat → Nat
  | 0, i => i
  | m + 1, i => if K i < key then plc K key m (i + 1) else i
def fnd (K : Nat → Int) (key : Int) : Nat → Nat → Int
  | 0, _ => -1
  | m + 1, i => if K i = key then (i : Int) else fnd K key m (i + 1)
theorem plc_at {K : Nat → Int} {key : Int} {n k : Nat} (h : k < n) : plc K key (n - k) k = if K k < key then plc K key (n - (k + 1)) (k + 1) else k := by
  obtain ⟨m, hm⟩ : ∃ m, n - k = m + 1 := ⟨n - k - 1, by omega⟩
  rw [hm, plc, show n - (k + 1) = m by omega]
theorem fnd_at {K : Nat → Int} {key : Int} {n k : Nat} (h : k < n) : fnd K key (n - k) k = if K k = key then (k : Int) else fnd K key (n - (k + 1)) (k + 1) := by
  obtain ⟨m, hm⟩ : ∃ m, n - k = m + 1 := ⟨n - k - 1, by omega⟩
  rw [hm, fnd, show n - (k + 1) = m by omega]
theorem plc_spec (K : Nat → Int) (key : Int) : ∀ m i, i ≤ plc K key m i ∧ plc K key m i ≤ i + m ∧ (∀ j, i ≤ j → j < plc K key m i → K j < key) ∧ (plc K key m i < i + m → ¬ K (plc K key m i) < key)
  | 0, i => by simp only [plc]; exact ⟨Nat.le_refl _, by omega, fun j _ _ => by omega, fun h => by omega⟩
  | m + 1, i => by
    have ih := plc_spec K key m (i + 1)
    by_cases h : K i < key
    · simp only [plc, if_pos h]
      refine ⟨by omega, by omega, fun j h1 h2 => ?_, fun h1 => ih.2.2.2 (by omega)⟩
      by_cases e : j = i
      · subst e; exact h
      · exact ih.2.2.1 j (by omega) h2
    · simp only [plc, if_neg h]
      exact ⟨Nat.le_refl _, by omega, fun j h1 h2 => by omega, fun _ => h⟩
/-- The place of a key among n cells. -/
def pl (K : Nat → Int) (key : Int) (n : Nat) : Nat := plc K key n 0
def has (K : Nat → Int) (key : Int) (n : Nat) : Bool := decide (pl K key n < n) && decide (K (pl K key n) = key)
theorem has_iff {K : Nat → Int} {key : Int} {n : Nat} : has K key n = true ↔ pl K key n < n ∧ K (pl K key n) = key := by simp [has]
def Rising (K : Nat → Int) (n : Nat) : Prop := ∀ i j, i < j → j < n → K i < K j
theorem fnd_none {K : Nat → Int} {key : Int} : ∀ m i, (∀ j, i ≤ j → j < i + m → K j ≠ key) → fnd K key m i = -1
  | 0, i, _ => rfl
  | m + 1, i, h => by
    rw [fnd, if_neg (h i (Nat.le_refl _) (by omega))]
    exact fnd_none m (i + 1) fun j h1 h2 => h j (by omega) (by omega)
theorem fnd_some {K : Nat → Int} {key : Int} {p : Nat} : ∀ m i, i ≤ p → p < i + m → K p = key → (∀ j, i ≤ j → j < p → K j ≠ key) → fnd K key m i = p
  | 0, i, _, _, _, _ => by omega
  | m + 1, i, h1, h2, h3, h4 => by
    rw [fnd]
    by_cases e : i = p
    · subst e; rw [if_pos h3]
    · rw [if_neg (h4 i (Nat.le_refl _) (by omega))]
      exact fnd_some m (i + 1) (by omega) (by omega) h3 fun j a b => h4 j (by omega) b
theorem fnd_eq {K : Nat → Int} {key : Int} {n : Nat} (hr : Rising K n) : fnd K key n 0 = if has K key n = true then (pl K key n : Int) else -1 := by
  have hs := plc_spec K key n 0
  simp only [Nat.zero_add] at hs
  by_cases h : has K key n = true
  · rw [if_pos h]
    rw [has_iff] at h
    refine fnd_some n 0 (Nat.zero_le _) (by omega) h.2 fun j _ hj => ?_
    have := hs.2.2.1 j (Nat.zero_le _) hj
    omega
  · rw [if_neg h]
    rw [has_iff] at h
    refine fnd_none n 0 fun j _ hj e => h ?_
    have h1 : ¬ j < plc K key n 0 := fun hj2 => by have := hs.2.2.1 j (Nat.zero_le _) hj2; omega
    have h3 : plc K key n 0 < n := by omega
    have h4 := hs.2.2.2 h3
    by_cases e2 : plc K key n 0 = j
    · exact ⟨h3, by show K (plc K key n 0) = key; rw [e2]; exact e⟩
    · have := hr _ j (show plc K key n 0 < j by omega) (by omega)
      omega
/-- A page without a fault: its cells rise. -/
theorem cff_zero {K V : Nat → Int} : ∀ m i, cff K V m i = 0 → ∀ j, i ≤ j → j < i + m → (inB (K j) 0 31 = true ∧ inB (V j) 0 9999 = true ∧ (0 < j → K (j - 1) < K j))
  | 0, i, _ => fun j _ _ => by omega
  | m + 1, i, h => fun j h1 h2 => by
    rw [cff] at h
    by_cases c1 : inB (K i) 0 31 = false ∨ inB (V i) 0 9999 = false
    · rw [if_pos c1] at h; omega
    · rw [if_neg c1] at h
      by_cases c2 : 0 < i ∧ K i ≤ K (i - 1)
      · rw [if_pos c2] at h; omega
      · rw [if_neg c2] at h
        by_cases e : j = i
        · subst e
          refine ⟨?_, ?_, fun h0 => by omega⟩
          · cases hh : inB (K j) 0 31 with
            | true => rfl
            | false => exact absurd (.inl hh) c1
          · cases hh : inB (V j) 0 9999 with
            | true => rfl
            | false => exact absurd (.inr hh) c1
        · exact cff_zero m (i + 1) h j (by omega) (by omega)
structure GoodP (idn lsn : Int) (n : Nat) (K V : Nat → Int) : Prop where
  gid : inB idn 0 7 = true
  glsn : inB lsn 0 1000000 = true
  gn : n ≤ 12
  gkey : ∀ i, i < n → 0 ≤ K i ∧ K i ≤ 31
  gval : ∀ i, i < n → 0 ≤ V i ∧ V i ≤ 9999
  grise : Rising K n
theorem good_of {idn lsn : Int} {n : Nat} {K V : Nat → Int} (h : pf idn lsn n K V = 0) : GoodP idn lsn n K V := by
  unfold pf at h
  by_cases c1 : inB idn 0 7 = false ∨ inB lsn 0 1000000 = false
  · rw [if_pos c1] at h; omega
  · rw [if_neg c1] at h
    by_cases c2 : 12 < n
    · rw [if_pos c2] at h; omega
    · rw [if_neg c2] at h
      have hz := cff_zero n 0 h
      have hstep : ∀ i, i + 1 < n → K i < K (i + 1) := fun i hi => by
        have := (hz (i + 1) (Nat.zero_le _) (by omega)).2.2 (by omega)
        simpa using this
      refine ⟨?_, ?_, by omega, fun i hi => inB_iff.1 (hz i (Nat.zero_le _) (by omega)).1, fun i hi => inB_iff.1 (hz i (Nat.zero_le _) (by omega)).2.1, ?_⟩
      · cases hh : inB idn 0 7 with
        | true => rfl
        | false => exact absurd (.inl hh) c1
      · cases hh : inB lsn 0 1000000 with
        | true => rfl
        | false => exact absurd (.inr hh) c1
      · intro i j hij
        induction j with
        | zero => omega
        | succ j ih =>
          intro hj
          by_cases e : i = j
          · subst e; exact hstep i hj
          · have h1 := ih (by omega) (by omega)
            have h2 := hstep j hj
            omega

/-! ### the walks -/
theorem pl_le (K : Nat → Int) (key : Int) (n : Nat) : pl K key n ≤ n := by have := (plc_spec K key n 0).2.1; unfold pl; omega
end Go.Proofs.Ytjggplfhkejbbaa
