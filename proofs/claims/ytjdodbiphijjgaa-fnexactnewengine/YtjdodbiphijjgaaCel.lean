/- Slices of cells: what they hold, by the index; the laws' own helpers over them. -/
import Derived.Test.YtjdodbiphijjgaaBase
import Derived.Deep.RegionHeld3
namespace Go.Proofs.Ytjdodbiphijjgaa
open Go.RowKit Go.Deep

/-- What the j-th place of a row of cells holds. -/
def cv (K V : Nat → Int) (j : Nat) : Value := .int .i64 (if j % 2 = 0 then K (j / 2) else V (j / 2))
theorem cv_key (K V : Nat → Int) (i : Nat) : cv K V (i * 2) = .int .i64 (K i) := by unfold cv; rw [if_pos (by omega)]; congr 2; omega
theorem cv_val (K V : Nat → Int) (i : Nat) : cv K V (i * 2 + 1) = .int .i64 (V i) := by unfold cv; rw [if_neg (by omega)]; congr 2; omega

/-- The slice at 'a' has n cells: keys K, values V. -/
def CellsAt (w : World) (a : Option Addr) (n : Nat) (K V : Nat → Int) : Prop :=
  n = 0 ∨ ∃ b off, a = some ⟨b, off, none⟩ ∧ b < w.heap.size ∧ (∀ i, i < n → w.cell? ⟨b, off + i * 2, none⟩ = some (.int .i64 (K i))) ∧ (∀ i, i < n → w.cell? ⟨b, off + i * 2 + 1, none⟩ = some (.int .i64 (V i)))

/-- .. in a block from lo on, below hi, that may be written. -/
def Own (w : World) (lo hi : Nat) (a : Option Addr) (n : Nat) (K V : Nat → Int) : Prop :=
  hi ≤ w.heap.size ∧ (n = 0 ∨ ∃ b off, a = some ⟨b, off, none⟩ ∧ lo ≤ b ∧ b < hi ∧ (∀ i, i < n → w.cell? ⟨b, off + i * 2, none⟩ = some (.int .i64 (K i))) ∧ (∀ i, i < n → w.cell? ⟨b, off + i * 2 + 1, none⟩ = some (.int .i64 (V i))) ∧
    (∀ i, i < n → w.frozen? ⟨b, off + i * 2, none⟩ = false) ∧ (∀ i, i < n → w.frozen? ⟨b, off + i * 2 + 1, none⟩ = false))

/-- What was there is as it was but for blocks from lo on, below hi. -/
structure Writes (lo hi : Nat) (w w' : World) : Prop where
  os : w'.os = w.os
  tape : w'.tape = w.tape
  output : w'.output = w.output
  size : w.heap.size ≤ w'.heap.size
  block : ∀ k, k < w.heap.size → (k < lo ∨ hi ≤ k) → w'.heap[k]? = w.heap[k]?

theorem Writes.refl (lo hi : Nat) (w : World) : Writes lo hi w w := ⟨rfl, rfl, rfl, Nat.le_refl _, fun _ _ _ => rfl⟩
theorem Writes.trans {lo hi : Nat} {a b c : World} (h : Writes lo hi a b) (k : Writes lo hi b c) : Writes lo hi a c :=
  ⟨k.os.trans h.os, k.tape.trans h.tape, k.output.trans h.output, Nat.le_trans h.size k.size, fun i hi1 hi2 => (k.block i (Nat.lt_of_lt_of_le hi1 h.size) hi2).trans (h.block i hi1 hi2)⟩
theorem Writes.of_below {lo hi : Nat} {w w' : World} (h : Below w.heap.size w w') : Writes lo hi w w' := ⟨h.os, h.tape, h.output, h.size, fun k hk _ => h.block k hk⟩
theorem Writes.below {lo hi : Nat} {W w w' : World} (h0 : Below W.heap.size W w) (h : Writes lo hi w w') (hlo : W.heap.size ≤ lo) : Below W.heap.size W w' :=
  ⟨h.os.trans h0.os, h.tape.trans h0.tape, h.output.trans h0.output, Nat.le_trans h0.size h.size, fun k hk => (h.block k (Nat.lt_of_lt_of_le hk h0.size) (.inl (Nat.lt_of_lt_of_le hk hlo))).trans (h0.block k hk)⟩
theorem Writes.setCell {lo hi : Nat} {w w' : World} (h : Writes lo hi w w') {p : Addr} (h1 : lo ≤ p.block) (h2 : p.block < hi) (v : Value) : Writes lo hi w (w'.setCell p v) :=
  ⟨h.os, h.tape, h.output, by simpa [World.setCell] using h.size, fun k hk hk2 => (Below.heap_setCell _ _ _ _ (by omega)).trans (h.block k hk hk2)⟩
theorem Writes.alloc {lo hi : Nat} {w w' : World} (h : Writes lo hi w w') (o : Obj) : Writes lo hi w (w'.alloc o) :=
  ⟨h.os, h.tape, h.output, by have := h.size; simp; omega, fun k hk hk2 => (Below.heap_alloc _ _ _ (by have := h.size; omega)).trans (h.block k hk hk2)⟩
theorem Writes.cell {lo hi : Nat} {w w' : World} (h : Writes lo hi w w') {b : Nat} (h1 : b < w.heap.size) (h2 : b < lo ∨ hi ≤ b) (o : Nat) : w'.cell? ⟨b, o, none⟩ = w.cell? ⟨b, o, none⟩ :=
  World.cell?_of_block (w := w) (h.block b h1 h2)

theorem Own.at {w : World} {lo hi : Nat} {a : Option Addr} {n : Nat} {K V : Nat → Int} (h : Own w lo hi a n K V) : CellsAt w a n K V := by
  obtain ⟨h0, h1 | ⟨b, off, ha, _, hl, hk, hv, _, _⟩⟩ := h
  · exact .inl h1
  · exact .inr ⟨b, off, ha, by omega, hk, hv⟩
theorem CellsAt.writes {w w' : World} {a : Option Addr} {n : Nat} {K V : Nat → Int} {lo hi : Nat} (h : CellsAt w a n K V) (hw : Writes lo hi w w') (hlo : w.heap.size ≤ lo) : CellsAt w' a n K V := by
  rcases h with h | ⟨b, off, ha, hl, hk, hv⟩
  · exact .inl h
  · exact .inr ⟨b, off, ha, Nat.lt_of_lt_of_le hl hw.size, fun i hi => (hw.cell hl (.inl (by omega)) _).trans (hk i hi), fun i hi => (hw.cell hl (.inl (by omega)) _).trans (hv i hi)⟩
theorem CellsAt.below {w w' : World} {a : Option Addr} {n : Nat} {K V : Nat → Int} (h : CellsAt w a n K V) (hb : Below w.heap.size w w') : CellsAt w' a n K V :=
  h.writes (Writes.of_below (lo := w.heap.size) (hi := 0) hb) (Nat.le_refl _)
/-- .. whose block is none of those that were written. -/
theorem Own.writes {w w' : World} {lo hi lo' hi' : Nat} {a : Option Addr} {n : Nat} {K V : Nat → Int} (h : Own w lo hi a n K V) (hw : Writes lo' hi' w w') (hd : hi ≤ lo' ∨ hi' ≤ lo) : Own w' lo hi a n K V := by
  obtain ⟨h0, h1 | ⟨b, off, ha, h2, hl, hk, hv, hf, hg⟩⟩ := h
  · exact ⟨Nat.le_trans h0 hw.size, .inl h1⟩
  · have hb := hw.block b (by omega) (by omega)
    exact ⟨Nat.le_trans h0 hw.size, .inr ⟨b, off, ha, h2, hl, fun i hi => (World.cell?_of_block (w := w) (a := ⟨b, _, none⟩) hb).trans (hk i hi), fun i hi => (World.cell?_of_block (w := w) (a := ⟨b, _, none⟩) hb).trans (hv i hi),
      fun i hi => (World.frozen?_of_block (w := w) (a := ⟨b, _, none⟩) hb).trans (hf i hi), fun i hi => (World.frozen?_of_block (w := w) (a := ⟨b, _, none⟩) hb).trans (hg i hi)⟩⟩
theorem Own.below {w w' : World} {lo hi : Nat} {a : Option Addr} {n : Nat} {K V : Nat → Int} (h : Own w lo hi a n K V) (hb : Below w.heap.size w w') : Own w' lo hi a n K V :=
  h.writes (Writes.of_below (lo := hi) (hi := hi) hb) (.inl (Nat.le_refl _))
theorem Own.wide {w : World} {lo hi lo' hi' : Nat} {a : Option Addr} {n : Nat} {K V : Nat → Int} (h : Own w lo hi a n K V) (h1 : lo' ≤ lo) (h2 : hi ≤ hi') (h3 : hi' ≤ w.heap.size) : Own w lo' hi' a n K V := by
  obtain ⟨h0, h4 | ⟨b, off, ha, h5, hl, r⟩⟩ := h
  · exact ⟨h3, .inl h4⟩
  · exact ⟨h3, .inr ⟨b, off, ha, by omega, by omega, r⟩⟩
theorem Own.of_row {w : World} {b n : Nat} {K V : Nat → Int} (h : w.rowIs b 41 (n * 2) (cv K V)) : Own w b (b + 1) (some ⟨b, 0, none⟩) n K V :=
  ⟨h.lt, .inr ⟨b, 0, rfl, Nat.le_refl _, by omega, fun i hi => by have := h.cell (i := i * 2) (by omega); rw [cv_key] at this; simpa using this, fun i hi => by have := h.cell (i := i * 2 + 1) (by omega); rw [cv_val] at this; simpa using this,
    fun i _ => h.frozen _, fun i _ => h.frozen _⟩⟩
theorem Own.congr {w : World} {lo hi : Nat} {a : Option Addr} {n : Nat} {K V K' V' : Nat → Int} (h : Own w lo hi a n K V) (h1 : ∀ i, i < n → K i = K' i) (h2 : ∀ i, i < n → V i = V' i) : Own w lo hi a n K' V' := by
  obtain ⟨h0, h4 | ⟨b, off, ha, h5, hl, hk, hv, r⟩⟩ := h
  · exact ⟨h0, .inl h4⟩
  · exact ⟨h0, .inr ⟨b, off, ha, h5, hl, fun i hi => by rw [hk i hi, h1 i hi], fun i hi => by rw [hv i hi, h2 i hi], r⟩⟩

theorem info99 : (Try.prog.info? 41).map (fun i => (i.zero, i.size, i.bytes)) = some (some (.agg #[.int .i64 0, .int .i64 0]), 2, 16) := by kernel_rfl
/-- 'make([]impl.Cell, n)'. -/
theorem run_make_cells (n : Nat) (hn : n ≤ 8796093022208) (w : World) :
    (Instr.makeSlice 31 (.int .i64 (n : Int)) (.int .i64 (n : Int))).run Try.prog w = .ok (.slice (some ⟨w.heap.size, 0, none⟩) n n) (w.alloc (.cells (madeCells #[.int .i64 0, .int .i64 0] (n * 2)) 41)) := by
  obtain ⟨i, hi, hzz⟩ := Option.map_eq_some_iff.1 info99
  simp only [Prod.mk.injEq] at hzz
  obtain ⟨hz, hs, hb⟩ := hzz
  have hr := run_make (P := Try.prog) w 31 41 i _ Try.underlying31 hi hz .i64 .i64 n n (by omega) (Int.le_refl _) (by rw [hb]; omega) (by omega)
  simp only [Int.toNat_natCast, hs] at hr
  exact hr
theorem made_cells (w : World) (n : Nat) : (w.alloc (.cells (madeCells #[.int .i64 0, .int .i64 0] (n * 2)) 41)).rowIs w.heap.size 41 (n * 2) (cv (fun _ => 0) (fun _ => 0)) :=
  ⟨_, blk_alloc_new _ _, size_madeCells _ _, fun i hi => by
    have h : i % 2 = 0 ∨ i % 2 = 1 := by omega
    rcases h with h | h <;> simp [madeCells, hi, cv, h]⟩

/-- laws.eqCell of one cell with itself. -/
theorem eqCell_same (k v : Int) (w : World) : Calls Try.prog 19 #[.agg #[.int .i64 k, .int .i64 v], .agg #[.int .i64 k, .int .i64 v]] w fun e w' =>
    e = .returned (.bool true) ∧ ∃ c1 c2 : Array Value, w' = (w.alloc (.cells c1 41)).alloc (.cells c2 41) := by
  go_enter Try.func19, Try.ntmps19
  go_wp2
  go_ret
  exact ⟨rfl, _, _, rfl⟩
theorem toCell_any (k v : Int) (w : World) : Calls Try.prog 16 #[.agg #[.int .i64 k, .int .i64 v]] w fun e w' =>
    e = .returned (.agg #[.int .i64 k, .int .i64 v]) ∧ Below w.heap.size w w' := by
  go_enter Try.func16, Try.ntmps16
  go_wp2
  exact bodyPost_ret (v := .agg #[.int .i64 k, .int .i64 v]) (by simp [results, Try.results16, go_sem]) rfl ⟨rfl, (((Below.refl _ _).alloc (Nat.le_refl _) _).alloc (by simp) _).alloc (by simp; omega) _⟩

set_option maxHeartbeats 400000 in
theorem eqCellS_some (n : Nat) (K V : Nat → Int) (b off cap b' off' cap' : Nat) (w : World) (hn : n ≤ 140737488355328) (hbl : b < w.heap.size) (hbl' : b' < w.heap.size)
    (hk : ∀ i, i < n → w.cell? ⟨b, off + i * 2, none⟩ = some (.int .i64 (K i))) (hv : ∀ i, i < n → w.cell? ⟨b, off + i * 2 + 1, none⟩ = some (.int .i64 (V i)))
    (hk' : ∀ i, i < n → w.cell? ⟨b', off' + i * 2, none⟩ = some (.int .i64 (K i))) (hv' : ∀ i, i < n → w.cell? ⟨b', off' + i * 2 + 1, none⟩ = some (.int .i64 (V i))) :
    Calls Try.prog 9 #[.slice (some ⟨b, off, none⟩) n cap, .slice (some ⟨b', off', none⟩) n cap'] w fun e w' => e = .returned (.bool true) ∧ Below w.heap.size w w' := by
  go_enter Try.func9, Try.ntmps9
  go_wp2
  go_loopw [5] (fun i wr => ∃ k : Nat, k ≤ n ∧ i = .int .i64 k ∧ Below w.heap.size w wr) (fun i _ => n - (intOf i).toNat)
  case atStart => exact ⟨0, Nat.zero_le _, rfl, Below.refl _ _⟩
  case round =>
    obtain ⟨k, hk0, rfl, hb⟩ := hrel
    by_cases hlt : k < n
    · have h1 : wr.cell? ⟨b, off + k * 2, none⟩ = some (.int .i64 (K k)) := (hb.cell (p := ⟨b, _, none⟩) hbl).trans (hk k hlt)
      have h2 : wr.cell? ⟨b, off + k * 2 + 1, none⟩ = some (.int .i64 (V k)) := (hb.cell (p := ⟨b, _, none⟩) hbl).trans (hv k hlt)
      have h3 : wr.cell? ⟨b', off' + k * 2, none⟩ = some (.int .i64 (K k)) := (hb.cell (p := ⟨b', _, none⟩) hbl').trans (hk' k hlt)
      have h4 : wr.cell? ⟨b', off' + k * 2 + 1, none⟩ = some (.int .i64 (V k)) := (hb.cell (p := ⟨b', _, none⟩) hbl').trans (hv' k hlt)
      have hlt' : (k : Int) < (n : Int) := by omega
      clear hk hk' hv hv'
      go_wp2
      go_region_held3 (fun w' => w'.cell? ⟨b, off + k * 2, none⟩ = some (.int .i64 (K k)) ∧ w'.cell? ⟨b, off + k * 2 + 1, none⟩ = some (.int .i64 (V k)) ∧ w'.cell? ⟨b', off' + k * 2, none⟩ = some (.int .i64 (K k)) ∧ w'.cell? ⟨b', off' + k * 2 + 1, none⟩ = some (.int .i64 (V k))) (go_keep)
        (first | (go_at_call 19; refine (eqCell_same (K k) (V k) _).mono ?_; rintro e w' ⟨rfl, o1, o2, rfl⟩))
      have HB : Hid (Below w.heap.size w wr) := hb
      clear hb
      go_wp2
      go_roundw
      case rel => exact ⟨k + 1, hlt, by go_num, by have hs := HB.out.size; repeat (first | exact HB.out | apply Below.drew | refine Below.alloc ?_ (by first | omega | (simp; omega)) _)⟩
      case measure => simp [intOf]; omega
    · have hkn : k = n := by omega
      clear hk hk' hv hv'
      go_wp2
      go_ret
      exact ⟨rfl, hb⟩
theorem eqCellS_zero (a a' : Option Addr) (cap cap' : Nat) (w : World) :
    Calls Try.prog 9 #[.slice a 0 cap, .slice a' 0 cap'] w fun e w' => e = .returned (.bool true) ∧ Below w.heap.size w w' := by
  go_enter Try.func9, Try.ntmps9
  go_wp2
  go_loop [5] (fun i => i = .int .i64 0) (fun _ => 0)
  case atStart => exact rfl
  case round =>
    obtain rfl := hrel
    go_wp2
    go_ret
    exact ⟨rfl, Below.refl _ _⟩
theorem eqCellS_any (n : Nat) (K V : Nat → Int) (a a' : Option Addr) (cap cap' : Nat) (w : World) (hn : n ≤ 140737488355328) (h : CellsAt w a n K V) (h' : CellsAt w a' n K V) :
    Calls Try.prog 9 #[.slice a n cap, .slice a' n cap'] w fun e w' => e = .returned (.bool true) ∧ Below w.heap.size w w' := by
  rcases h with rfl | ⟨b, off, rfl, hl, hk, hv⟩
  · exact eqCellS_zero a a' cap cap' w
  · rcases h' with rfl | ⟨b', off', rfl, hl', hk', hv'⟩
    · exact eqCellS_zero _ a' cap cap' w
    · exact eqCellS_some n K V b off cap b' off' cap' w hn hl hl' hk hv hk' hv'
end Go.Proofs.Ytjdodbiphijjgaa
