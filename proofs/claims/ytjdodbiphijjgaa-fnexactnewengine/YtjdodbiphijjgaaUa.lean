/- Rows of undos: what they hold, by the index; copied, equal. -/
import Derived.Test.YtjdodbiphijjgaaVc
namespace Go.Proofs.Ytjdodbiphijjgaa
open Go.ChangeShapes Go.WideShapes Go.ChangeAt Go.RowKit Go.Deep Go.Joins
set_option linter.unusedVariables false
set_option maxRecDepth 20000

/-- An undo's four fields. -/
structure Ud where
  k : Int
  h : Bool
  g : Bool
  v : Int
/-- Its cells. -/
def CU (w : World) (b o : Nat) (r : Ud) : Prop :=
  w.cell? ⟨b, o, none⟩ = some (.int .i64 r.k) ∧ w.cell? ⟨b, o + 1, none⟩ = some (.bool r.h) ∧ w.cell? ⟨b, o + 2, none⟩ = some (.bool r.g) ∧ w.cell? ⟨b, o + 3, none⟩ = some (.int .i64 r.v)
theorem CU.block {w w' : World} {b o : Nat} {r : Ud} (h : CU w b o r) (e : w'.heap[b]? = w.heap[b]?) : CU w' b o r := by
  have g : ∀ i, w'.cell? ⟨b, i, none⟩ = w.cell? ⟨b, i, none⟩ := fun i => World.cell?_of_block (w := w) (a := ⟨b, i, none⟩) e
  obtain ⟨h0, h1, h2, h3⟩ := h
  exact ⟨(g _).trans h0, (g _).trans h1, (g _).trans h2, (g _).trans h3⟩
/-- The slice at 'a' has the n undos R. -/
def UndsAt (w : World) (a : Option Addr) (n : Nat) (R : Nat → Ud) : Prop := n = 0 ∨ ∃ b off, a = some ⟨b, off, none⟩ ∧ b < w.heap.size ∧ ∀ i, i < n → CU w b (off + i * 4) (R i)
def RowU (w : World) (b off n : Nat) (R : Nat → Ud) : Prop := (∀ i, i < n → CU w b (off + i * 4) (R i)) ∧ ∀ i, w.frozen? ⟨b, i, none⟩ = false
def OwnU (w : World) (lo hi : Nat) (a : Option Addr) (n : Nat) (R : Nat → Ud) : Prop := hi ≤ w.heap.size ∧ (n = 0 ∨ ∃ b off, a = some ⟨b, off, none⟩ ∧ lo ≤ b ∧ b < hi ∧ RowU w b off n R)
theorem UndsAt.below {w w' : World} {a : Option Addr} {n : Nat} {R : Nat → Ud} (h : UndsAt w a n R) (hb : Below w.heap.size w w') : UndsAt w' a n R := by
  rcases h with h | ⟨b, off, ha, hl, hc⟩
  · exact .inl h
  · exact .inr ⟨b, off, ha, Nat.lt_of_lt_of_le hl hb.size, fun i hi => (hc i hi).block (hb.block _ hl)⟩
theorem UndsAt.congr {w : World} {a : Option Addr} {n : Nat} {R S : Nat → Ud} (h : UndsAt w a n R) (e : ∀ i, i < n → R i = S i) : UndsAt w a n S := by
  rcases h with h | ⟨b, off, ha, hl, hc⟩
  · exact .inl h
  · exact .inr ⟨b, off, ha, hl, fun i hi => by rw [← e i hi]; exact hc i hi⟩
theorem OwnU.at {w : World} {lo hi : Nat} {a : Option Addr} {n : Nat} {R : Nat → Ud} (h : OwnU w lo hi a n R) : UndsAt w a n R := by
  obtain ⟨h0, h1 | ⟨b, off, ha, _, hl, hc⟩⟩ := h
  · exact .inl h1
  · exact .inr ⟨b, off, ha, by omega, hc.1⟩
theorem OwnU.congr {w : World} {lo hi : Nat} {a : Option Addr} {n : Nat} {R S : Nat → Ud} (h : OwnU w lo hi a n R) (e : ∀ i, i < n → R i = S i) : OwnU w lo hi a n S := by
  obtain ⟨h0, h1 | ⟨b, off, ha, h2, hl, hc⟩⟩ := h
  · exact ⟨h0, .inl h1⟩
  · exact ⟨h0, .inr ⟨b, off, ha, h2, hl, fun i hi => by rw [← e i hi]; exact hc.1 i hi, hc.2⟩⟩
theorem OwnU.writes {w w' : World} {lo hi lo' hi' : Nat} {a : Option Addr} {n : Nat} {R : Nat → Ud} (h : OwnU w lo hi a n R) (hw : Writes lo' hi' w w') (hd : hi ≤ lo' ∨ hi' ≤ lo) : OwnU w' lo hi a n R := by
  obtain ⟨h0, h1 | ⟨b, off, ha, h2, hl, hc⟩⟩ := h
  · exact ⟨Nat.le_trans h0 hw.size, .inl h1⟩
  · have hb := hw.block b (by omega) (by omega)
    exact ⟨Nat.le_trans h0 hw.size, .inr ⟨b, off, ha, h2, hl, fun i hi => (hc.1 i hi).block hb, fun i => (World.frozen?_of_block (w := w) (a := ⟨b, i, none⟩) hb).trans (hc.2 i)⟩⟩
theorem OwnU.below {w w' : World} {lo hi : Nat} {a : Option Addr} {n : Nat} {R : Nat → Ud} (h : OwnU w lo hi a n R) (hb : Below w.heap.size w w') : OwnU w' lo hi a n R :=
  h.writes (Writes.of_below (lo := hi) (hi := hi) hb) (.inl (Nat.le_refl _))
theorem OwnU.wide {w : World} {lo hi lo' hi' : Nat} {a : Option Addr} {n : Nat} {R : Nat → Ud} (h : OwnU w lo hi a n R) (h1 : lo' ≤ lo) (h2 : hi ≤ hi') (h3 : hi' ≤ w.heap.size) : OwnU w lo' hi' a n R := by
  obtain ⟨h0, h4 | ⟨b, off, ha, h5, hl, r⟩⟩ := h
  · exact ⟨h3, .inl h4⟩
  · exact ⟨h3, .inr ⟨b, off, ha, by omega, by omega, r⟩⟩
/-! ### an undo is stored -/
def setU (w : World) (b o : Nat) (r : Ud) : World :=
  (((w.setCell ⟨b, o, none⟩ (.int .i64 r.k)).setCell ⟨b, o + 1, none⟩ (.bool r.h)).setCell ⟨b, o + 2, none⟩ (.bool r.g)).setCell ⟨b, o + 3, none⟩ (.int .i64 r.v)
theorem setU_far {w : World} {b o o' : Nat} {r : Ud} (h : o' < o ∨ o + 3 < o') : (setU w b o r).cell? ⟨b, o', none⟩ = w.cell? ⟨b, o', none⟩ := by
  unfold setU
  rw [setO (by omega), setO (by omega), setO (by omega), setO (by omega)]
theorem setU_same {w : World} {b o : Nat} {r r0 : Ud} (h : CU w b o r0) : CU (setU w b o r) b o r := by
  obtain ⟨h0, h1, h2, h3⟩ := h
  unfold setU
  refine ⟨?_, ?_, ?_, ?_⟩
  · rw [setO (by omega), setO (by omega), setO (by omega)]; exact setS h0
  · rw [setO (by omega), setO (by omega)]; exact setS (by rw [setO (by omega)]; exact h1)
  · rw [setO (by omega)]; exact setS (by rw [setO (by omega), setO (by omega)]; exact h2)
  · exact setS (by rw [setO (by omega), setO (by omega), setO (by omega)]; exact h3)
theorem setU_frozen {w : World} {b o : Nat} {r : Ud} (h : ∀ i, w.frozen? ⟨b, i, none⟩ = false) : ∀ i, (setU w b o r).frozen? ⟨b, i, none⟩ = false := fun i => by
  unfold setU
  rw [World.frozen?_setCell, World.frozen?_setCell, World.frozen?_setCell, World.frozen?_setCell]
  exact h i
theorem setU_writes {lo hi : Nat} {w wr : World} {b o : Nat} {r : Ud} (h : Writes lo hi w wr) (h1 : lo ≤ b) (h2 : b < hi) : Writes lo hi w (setU wr b o r) := by
  unfold setU
  exact (((h.setCell (p := ⟨b, _, none⟩) h1 h2 _).setCell (p := ⟨b, _, none⟩) h1 h2 _).setCell (p := ⟨b, _, none⟩) h1 h2 _).setCell (p := ⟨b, _, none⟩) h1 h2 _
theorem setU_below {n : Nat} {w wr : World} {b o : Nat} {r : Ud} (h : Below n w wr) (h1 : n ≤ b) : Below n w (setU wr b o r) := by
  unfold setU
  exact (((h.setCell (p := ⟨b, _, none⟩) h1 _).setCell (p := ⟨b, _, none⟩) h1 _).setCell (p := ⟨b, _, none⟩) h1 _).setCell (p := ⟨b, _, none⟩) h1 _
theorem setU_size {w : World} {b o : Nat} {r : Ud} : (setU w b o r).heap.size = w.heap.size := by simp [setU, World.setCell]
/-- A row of which the k-th undo is stored. -/
theorem rowU_set {w : World} {b off n k : Nat} {R : Nat → Ud} {r : Ud} (hlt : k < n) (h : RowU w b off n R) : RowU (setU w b (off + k * 4) r) b off n (fun i => if i = k then r else R i) := by
  refine ⟨fun i hi => ?_, setU_frozen h.2⟩
  by_cases e : i = k
  · subst e
    simp only [if_true]
    exact setU_same (h.1 i hi)
  · simp only [if_neg e]
    have g : ∀ j, j < 4 → (setU w b (off + k * 4) r).cell? ⟨b, off + i * 4 + j, none⟩ = w.cell? ⟨b, off + i * 4 + j, none⟩ := fun j hj => setU_far (by omega)
    obtain ⟨h0, h1, h2, h3⟩ := h.1 i hi
    exact ⟨(g 0 (by omega)).trans h0, (g 1 (by omega)).trans h1, (g 2 (by omega)).trans h2, (g 3 (by omega)).trans h3⟩
theorem rowU_congr {w : World} {b off n : Nat} {R S : Nat → Ud} (h : RowU w b off n R) (e : ∀ i, i < n → R i = S i) : RowU w b off n S := ⟨fun i hi => by rw [← e i hi]; exact h.1 i hi, h.2⟩
theorem rowU_block {w w' : World} {b off n : Nat} {R : Nat → Ud} (h : RowU w b off n R) (hb : w'.heap[b]? = w.heap[b]?) : RowU w' b off n R :=
  ⟨fun i hi => (h.1 i hi).block hb, fun i => (World.frozen?_of_block (w := w) (a := ⟨b, i, none⟩) hb).trans (h.2 i)⟩
/-! ### copies -/
theorem infoU : (Try.prog.info? 68).map (fun i => (i.zero, i.size, i.bytes)) = some (some (.agg #[.int .i64 0, .bool false, .bool false, .int .i64 0]), 4, 24) := by kernel_rfl
/-- 'make([]impl.Undo, n)'. -/
theorem run_make_unds (n : Nat) (hn : n ≤ 1048576) (w : World) :
    (Instr.makeSlice 59 (.int .i64 (n : Int)) (.int .i64 (n : Int))).run Try.prog w = .ok (.slice (some ⟨w.heap.size, 0, none⟩) n n) (w.alloc (.cells (madeCells #[.int .i64 0, .bool false, .bool false, .int .i64 0] (n * 4)) 68)) := by
  obtain ⟨i, hi, hzz⟩ := Option.map_eq_some_iff.1 infoU
  simp only [Prod.mk.injEq] at hzz
  obtain ⟨hz, hs, hb⟩ := hzz
  have hr := run_make (P := Try.prog) w 59 68 i _ Try.underlying59 hi hz .i64 .i64 n n (by omega) (Int.le_refl _) (by rw [hb]; omega) (by omega)
  simp only [Int.toNat_natCast, hs] at hr
  exact hr
def zU : Ud := ⟨0, false, false, 0⟩
theorem made_unds (w : World) (n : Nat) : RowU (w.alloc (.cells (madeCells #[.int .i64 0, .bool false, .bool false, .int .i64 0] (n * 4)) 68)) w.heap.size 0 n (fun _ => zU) := by
  refine ⟨fun i hi => ?_, fun i => by simp [go_sem]⟩
  have c : ∀ j, j < 4 → (w.alloc (.cells (madeCells #[.int .i64 0, .bool false, .bool false, .int .i64 0] (n * 4)) 68)).cell? ⟨w.heap.size, 0 + i * 4 + j, none⟩ = (#[Value.int .i64 0, .bool false, .bool false, .int .i64 0])[j]? := fun j hj => by
    have l : i * 4 + j < n * 4 := by omega
    have : j = 0 ∨ j = 1 ∨ j = 2 ∨ j = 3 := by omega
    rcases this with rfl | rfl | rfl | rfl <;> simp [go_sem, madeCells] <;> exact ⟨_, by rw [Array.getElem?_range, if_pos (by omega)], by simp [Nat.add_mod]⟩
  exact ⟨c 0 (by omega), c 1 (by omega), c 2 (by omega), c 3 (by omega)⟩
def toKU (R : Nat → Ud) (k i : Nat) : Ud := if i < k then R i else zU
theorem toKU_step (R : Nat → Ud) (k i : Nat) : (if i = k then R k else toKU R k i) = toKU R (k + 1) i := by
  unfold toKU
  by_cases e : i = k
  · subst e; simp
  · rw [if_neg e]
    have : (i < k + 1) ↔ (i < k) := by omega
    simp only [this]
/-! ### equal -/
theorem eqUndo_same (t : Int) (a : Bool) (g : Bool) (v : Int) (w : World) :
    Calls Try.prog 40 #[.agg #[.int .i64 t, .bool a, .bool g, .int .i64 v], .agg #[.int .i64 t, .bool a, .bool g, .int .i64 v]] w fun e w' => e = .returned (.bool true) ∧ Below w.heap.size w w' := by
  have hb0 : ∀ o1 o2, Below w.heap.size w ((w.alloc o1).alloc o2) := fun o1 o2 => ((Below.refl _ _).alloc (Nat.le_refl _) _).alloc (by simp) _
  have e1 : (g != g) = false := by simp
  have e2 : (a != a) = false := by simp
  go_enter Try.func40, Try.ntmps40
  go_wp2_with fail
  go_ret
  exact ⟨rfl, hb0 _ _⟩
theorem eqUndoS_zero (a a' : Option Addr) (cap cap' : Nat) (w : World) : Calls Try.prog 38 #[.slice a 0 cap, .slice a' 0 cap'] w fun e w' => e = .returned (.bool true) ∧ Below w.heap.size w w' := by
  go_enter Try.func38, Try.ntmps38
  go_wp2_with fail
  go_loop [5] (fun i => i = .int .i64 0) (fun _ => 0)
  case atStart => exact rfl
  case round =>
    obtain rfl := hrel
    go_wp2_with fail
    go_ret
    exact ⟨rfl, Below.refl _ _⟩
set_option maxHeartbeats 2000000 in
theorem eqUndoS_some (n : Nat) (R : Nat → Ud) (b off cap b' off' cap' : Nat) (w : World) (hn : n ≤ 1048576) (hbl : b < w.heap.size) (hbl' : b' < w.heap.size) (hc : ∀ i, i < n → CU w b (off + i * 4) (R i)) (hc' : ∀ i, i < n → CU w b' (off' + i * 4) (R i)) :
    Calls Try.prog 38 #[.slice (some ⟨b, off, none⟩) n cap, .slice (some ⟨b', off', none⟩) n cap'] w fun e w' => e = .returned (.bool true) ∧ Below w.heap.size w w' := by
  have HC : Hid (∀ i, i < n → CU w b (off + i * 4) (R i)) := hc
  have HC' : Hid (∀ i, i < n → CU w b' (off' + i * 4) (R i)) := hc'
  have hne : ((n : Int) != (n : Int)) = false := by simp
  clear hc hc'
  go_enter Try.func38, Try.ntmps38
  go_wp2_with fail
  go_loopw [5] (fun i wr => ∃ k : Nat, k ≤ n ∧ i = .int .i64 k ∧ Hid (Below w.heap.size w wr)) (fun i _ => n - (intOf i).toNat)
  case atStart => exact ⟨0, Nat.zero_le _, rfl, Below.refl _ _⟩
  case round =>
    obtain ⟨k, hk, rfl, HB⟩ := hrel
    by_cases hlt : k < n
    · have hlt' : (k : Int) < (n : Int) := by omega
      have hk0 : (0 : Int) ≤ (k : Int) := by omega
      obtain ⟨x0, x1, x2, x3⟩ := (HC.out k hlt).block (HB.out.block _ hbl)
      obtain ⟨y0, y1, y2, y3⟩ := (HC'.out k hlt).block (HB.out.block _ hbl')
      generalize R k = r at *
      go_wp2_with fail
      go_region_law (first | (go_simp; go_at_call 40; refine (eqUndo_same r.k r.h r.g r.v _).mono ?_; rintro e w1 ⟨rfl, hb1⟩; have HB1 : Hid (Below w.heap.size w w1) := below_then HB.out (drewB6 hb1)))
      all_goals
        go_wp2_with fail
        go_roundw
        case rel => exact ⟨k + 1, hlt, by go_num, HB1⟩
        case measure => simp [intOf]; omega
    · have hnl : ¬ ((k : Int) < (n : Int)) := by omega
      go_wp2_with fail
      go_ret
      exact ⟨rfl, HB.out⟩
theorem eqUndoS_any (n : Nat) (R : Nat → Ud) (a a' : Option Addr) (cap cap' : Nat) (w : World) (hn : n ≤ 1048576) (h : UndsAt w a n R) (h' : UndsAt w a' n R) :
    Calls Try.prog 38 #[.slice a n cap, .slice a' n cap'] w fun e w' => e = .returned (.bool true) ∧ Below w.heap.size w w' := by
  rcases h with rfl | ⟨b, off, rfl, hl, hc⟩
  · exact eqUndoS_zero a a' cap cap' w
  · rcases h' with rfl | ⟨b', off', rfl, hl', hc'⟩
    · exact eqUndoS_zero _ a' cap cap' w
    · exact eqUndoS_some n R b off cap b' off' cap' w hn hl hl' hc hc'
end Go.Proofs.Ytjdodbiphijjgaa
