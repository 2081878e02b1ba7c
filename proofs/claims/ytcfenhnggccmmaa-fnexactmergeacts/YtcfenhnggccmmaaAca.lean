/- Rows of acts: what they hold, by the index; copies, equal, marked, held; an argument that is a list of acts, opened. -/
import Derived.Test.YtcfenhnggccmmaaFault
import Derived.Deep.RegionLaw
import Derived.Lib.SmallJoins
namespace Go.Proofs.Ytcfenhnggccmmaa
open Go.ChangeShapes Go.WideShapes Go.ChangeAt Go.RowKit Go.Deep Go.Joins
set_option linter.unusedVariables false
set_option maxRecDepth 20000

/-- An act's four fields: what, whose, key, value. -/
structure Ac where
  k : Int
  t : Int
  y : Int
  o : Int
/-- Its cells. -/
def CAc (w : World) (b o : Nat) (r : Ac) : Prop :=
  w.cell? ⟨b, o, none⟩ = some (.int .i64 r.k) ∧ w.cell? ⟨b, o + 1, none⟩ = some (.int .i64 r.t) ∧ w.cell? ⟨b, o + 2, none⟩ = some (.int .i64 r.y) ∧ w.cell? ⟨b, o + 3, none⟩ = some (.int .i64 r.o)
theorem CAc.block {w w' : World} {b o : Nat} {r : Ac} (h : CAc w b o r) (e : w'.heap[b]? = w.heap[b]?) : CAc w' b o r := by
  have g : ∀ i, w'.cell? ⟨b, i, none⟩ = w.cell? ⟨b, i, none⟩ := fun i => World.cell?_of_block (w := w) (a := ⟨b, i, none⟩) e
  obtain ⟨h0, h1, h2, h3⟩ := h
  exact ⟨(g _).trans h0, (g _).trans h1, (g _).trans h2, (g _).trans h3⟩
/-- The slice at 'a' has the n act R. -/
def AcsAt (w : World) (a : Option Addr) (n : Nat) (R : Nat → Ac) : Prop := n = 0 ∨ ∃ b off, a = some ⟨b, off, none⟩ ∧ b < w.heap.size ∧ ∀ i, i < n → CAc w b (off + i * 4) (R i)
def RowAc (w : World) (b off n : Nat) (R : Nat → Ac) : Prop := (∀ i, i < n → CAc w b (off + i * 4) (R i)) ∧ ∀ i, w.frozen? ⟨b, i, none⟩ = false
def OwnAc (w : World) (lo hi : Nat) (a : Option Addr) (n : Nat) (R : Nat → Ac) : Prop := hi ≤ w.heap.size ∧ (n = 0 ∨ ∃ b off, a = some ⟨b, off, none⟩ ∧ lo ≤ b ∧ b < hi ∧ RowAc w b off n R)
theorem AcsAt.below {w w' : World} {a : Option Addr} {n : Nat} {R : Nat → Ac} (h : AcsAt w a n R) (hb : Below w.heap.size w w') : AcsAt w' a n R := by
  rcases h with h | ⟨b, off, ha, hl, hc⟩
  · exact .inl h
  · exact .inr ⟨b, off, ha, Nat.lt_of_lt_of_le hl hb.size, fun i hi => (hc i hi).block (hb.block _ hl)⟩
theorem AcsAt.congr {w : World} {a : Option Addr} {n : Nat} {R S : Nat → Ac} (h : AcsAt w a n R) (e : ∀ i, i < n → R i = S i) : AcsAt w a n S := by
  rcases h with h | ⟨b, off, ha, hl, hc⟩
  · exact .inl h
  · exact .inr ⟨b, off, ha, hl, fun i hi => by rw [← e i hi]; exact hc i hi⟩
theorem OwnAc.at {w : World} {lo hi : Nat} {a : Option Addr} {n : Nat} {R : Nat → Ac} (h : OwnAc w lo hi a n R) : AcsAt w a n R := by
  obtain ⟨h0, h1 | ⟨b, off, ha, _, hl, hc⟩⟩ := h
  · exact .inl h1
  · exact .inr ⟨b, off, ha, by omega, hc.1⟩
theorem OwnAc.congr {w : World} {lo hi : Nat} {a : Option Addr} {n : Nat} {R S : Nat → Ac} (h : OwnAc w lo hi a n R) (e : ∀ i, i < n → R i = S i) : OwnAc w lo hi a n S := by
  obtain ⟨h0, h1 | ⟨b, off, ha, h2, hl, hc⟩⟩ := h
  · exact ⟨h0, .inl h1⟩
  · exact ⟨h0, .inr ⟨b, off, ha, h2, hl, fun i hi => by rw [← e i hi]; exact hc.1 i hi, hc.2⟩⟩
theorem OwnAc.writes {w w' : World} {lo hi lo' hi' : Nat} {a : Option Addr} {n : Nat} {R : Nat → Ac} (h : OwnAc w lo hi a n R) (hw : Writes lo' hi' w w') (hd : hi ≤ lo' ∨ hi' ≤ lo) : OwnAc w' lo hi a n R := by
  obtain ⟨h0, h1 | ⟨b, off, ha, h2, hl, hc⟩⟩ := h
  · exact ⟨Nat.le_trans h0 hw.size, .inl h1⟩
  · have hb := hw.block b (by omega) (by omega)
    exact ⟨Nat.le_trans h0 hw.size, .inr ⟨b, off, ha, h2, hl, fun i hi => (hc.1 i hi).block hb, fun i => (World.frozen?_of_block (w := w) (a := ⟨b, i, none⟩) hb).trans (hc.2 i)⟩⟩
theorem OwnAc.below {w w' : World} {lo hi : Nat} {a : Option Addr} {n : Nat} {R : Nat → Ac} (h : OwnAc w lo hi a n R) (hb : Below w.heap.size w w') : OwnAc w' lo hi a n R :=
  h.writes (Writes.of_below (lo := hi) (hi := hi) hb) (.inl (Nat.le_refl _))
theorem OwnAc.wide {w : World} {lo hi lo' hi' : Nat} {a : Option Addr} {n : Nat} {R : Nat → Ac} (h : OwnAc w lo hi a n R) (h1 : lo' ≤ lo) (h2 : hi ≤ hi') (h3 : hi' ≤ w.heap.size) : OwnAc w lo' hi' a n R := by
  obtain ⟨h0, h4 | ⟨b, off, ha, h5, hl, r⟩⟩ := h
  · exact ⟨h3, .inl h4⟩
  · exact ⟨h3, .inr ⟨b, off, ha, by omega, by omega, r⟩⟩
/-! ### a act is stored -/
def setAc (w : World) (b o : Nat) (r : Ac) : World :=
  (((w.setCell ⟨b, o, none⟩ (.int .i64 r.k)).setCell ⟨b, o + 1, none⟩ (.int .i64 r.t)).setCell ⟨b, o + 2, none⟩ (.int .i64 r.y)).setCell ⟨b, o + 3, none⟩ (.int .i64 r.o)
theorem setAc_far {w : World} {b o o' : Nat} {r : Ac} (h : o' < o ∨ o + 3 < o') : (setAc w b o r).cell? ⟨b, o', none⟩ = w.cell? ⟨b, o', none⟩ := by
  unfold setAc
  rw [setO (by omega), setO (by omega), setO (by omega), setO (by omega)]
theorem setAc_same {w : World} {b o : Nat} {r r0 : Ac} (h : CAc w b o r0) : CAc (setAc w b o r) b o r := by
  obtain ⟨h0, h1, h2, h3⟩ := h
  unfold setAc
  refine ⟨?_, ?_, ?_, ?_⟩
  · rw [setO (by omega), setO (by omega), setO (by omega)]; exact setS h0
  · rw [setO (by omega), setO (by omega)]; exact setS (by rw [setO (by omega)]; exact h1)
  · rw [setO (by omega)]; exact setS (by rw [setO (by omega), setO (by omega)]; exact h2)
  · exact setS (by rw [setO (by omega), setO (by omega), setO (by omega)]; exact h3)
theorem setAc_frozen {w : World} {b o : Nat} {r : Ac} (h : ∀ i, w.frozen? ⟨b, i, none⟩ = false) : ∀ i, (setAc w b o r).frozen? ⟨b, i, none⟩ = false := fun i => by
  unfold setAc
  rw [World.frozen?_setCell, World.frozen?_setCell, World.frozen?_setCell, World.frozen?_setCell]
  exact h i
theorem setAc_writes {lo hi : Nat} {w wr : World} {b o : Nat} {r : Ac} (h : Writes lo hi w wr) (h1 : lo ≤ b) (h2 : b < hi) : Writes lo hi w (setAc wr b o r) := by
  unfold setAc
  exact (((h.setCell (p := ⟨b, _, none⟩) h1 h2 _).setCell (p := ⟨b, _, none⟩) h1 h2 _).setCell (p := ⟨b, _, none⟩) h1 h2 _).setCell (p := ⟨b, _, none⟩) h1 h2 _
theorem setAc_below {n : Nat} {w wr : World} {b o : Nat} {r : Ac} (h : Below n w wr) (h1 : n ≤ b) : Below n w (setAc wr b o r) := by
  unfold setAc
  exact (((h.setCell (p := ⟨b, _, none⟩) h1 _).setCell (p := ⟨b, _, none⟩) h1 _).setCell (p := ⟨b, _, none⟩) h1 _).setCell (p := ⟨b, _, none⟩) h1 _
theorem setAc_size {w : World} {b o : Nat} {r : Ac} : (setAc w b o r).heap.size = w.heap.size := by simp [setAc, World.setCell]
/-- A row of which the k-th act is stored. -/
theorem rowAc_set {w : World} {b off n k : Nat} {R : Nat → Ac} {r : Ac} (hlt : k < n) (h : RowAc w b off n R) : RowAc (setAc w b (off + k * 4) r) b off n (fun i => if i = k then r else R i) := by
  refine ⟨fun i hi => ?_, setAc_frozen h.2⟩
  by_cases e : i = k
  · subst e
    simp only [if_true]
    exact setAc_same (h.1 i hi)
  · simp only [if_neg e]
    have g : ∀ j, j < 4 → (setAc w b (off + k * 4) r).cell? ⟨b, off + i * 4 + j, none⟩ = w.cell? ⟨b, off + i * 4 + j, none⟩ := fun j hj => setAc_far (by omega)
    obtain ⟨h0, h1, h2, h3⟩ := h.1 i hi
    exact ⟨(g 0 (by omega)).trans h0, (g 1 (by omega)).trans h1, (g 2 (by omega)).trans h2, (g 3 (by omega)).trans h3⟩
theorem rowAc_congr {w : World} {b off n : Nat} {R S : Nat → Ac} (h : RowAc w b off n R) (e : ∀ i, i < n → R i = S i) : RowAc w b off n S := ⟨fun i hi => by rw [← e i hi]; exact h.1 i hi, h.2⟩
theorem rowAc_block {w w' : World} {b off n : Nat} {R : Nat → Ac} (h : RowAc w b off n R) (hb : w'.heap[b]? = w.heap[b]?) : RowAc w' b off n R :=
  ⟨fun i hi => (h.1 i hi).block hb, fun i => (World.frozen?_of_block (w := w) (a := ⟨b, i, none⟩) hb).trans (h.2 i)⟩
/-! ### copies -/
theorem toAct_any (t a g v : Int) (w : World) : Calls Try.prog 48 #[.agg #[.int .i64 t, .int .i64 a, .int .i64 g, .int .i64 v]] w fun e w' =>
    e = .returned (.agg #[.int .i64 t, .int .i64 a, .int .i64 g, .int .i64 v]) ∧ Below w.heap.size w w' := by
  go_enter Try.func48, Try.ntmps48
  go_wp2_with fail
  refine bodyPost_ret (v := .agg #[.int .i64 t, .int .i64 a, .int .i64 g, .int .i64 v]) (by simp [results, Try.results48, go_sem]) rfl ⟨rfl, ?_⟩
  repeat (first | exact Below.refl _ _ | apply Below.drew | refine Below.setCell ?_ (by first | omega | (simp <;> omega)) _ | refine Below.alloc ?_ (by first | omega | (simp <;> omega)) _)
theorem szActS_any (n : Nat) (a : Option Addr) (cap : Nat) (w : World) (hn : n ≤ 9223372036854775807) :
    Calls Try.prog 28 #[.slice a n cap, .int .i64 1048576] w fun e w' => e = .returned (.int .i64 (if n ≤ 1048576 then 1048576 - n else -1)) ∧ w' = w := by
  by_cases h : n ≤ 1048576
  · rw [if_pos h]
    go_enter Try.func28, Try.ntmps28
    go_wp2
    go_ret
    exact ⟨rfl, rfl⟩
  · rw [if_neg h]
    go_enter Try.func28, Try.ntmps28
    go_wp2
    go_ret
    exact ⟨rfl, rfl⟩
theorem infoAct : (Try.prog.info? 53).map (fun i => (i.zero, i.size, i.bytes)) = some (some (.agg #[.int .i64 0, .int .i64 0, .int .i64 0, .int .i64 0]), 4, 32) := by kernel_rfl
/-- 'make([]impl.Act, n)'. -/
theorem run_make_acts (n : Nat) (hn : n ≤ 1048576) (w : World) :
    (Instr.makeSlice 42 (.int .i64 (n : Int)) (.int .i64 (n : Int))).run Try.prog w = .ok (.slice (some ⟨w.heap.size, 0, none⟩) n n) (w.alloc (.cells (madeCells #[.int .i64 0, .int .i64 0, .int .i64 0, .int .i64 0] (n * 4)) 53)) := by
  obtain ⟨i, hi, hzz⟩ := Option.map_eq_some_iff.1 infoAct
  simp only [Prod.mk.injEq] at hzz
  obtain ⟨hz, hs, hb⟩ := hzz
  have hr := run_make (P := Try.prog) w 42 53 i _ Try.underlying42 hi hz .i64 .i64 n n (by omega) (Int.le_refl _) (by rw [hb]; omega) (by omega)
  simp only [Int.toNat_natCast, hs] at hr
  exact hr
def zAc : Ac := ⟨0, 0, 0, 0⟩
theorem made_acts (w : World) (n : Nat) : RowAc (w.alloc (.cells (madeCells #[.int .i64 0, .int .i64 0, .int .i64 0, .int .i64 0] (n * 4)) 53)) w.heap.size 0 n (fun _ => zAc) := by
  refine ⟨fun i hi => ?_, fun i => by simp [go_sem]⟩
  have c : ∀ j, j < 4 → (w.alloc (.cells (madeCells #[.int .i64 0, .int .i64 0, .int .i64 0, .int .i64 0] (n * 4)) 53)).cell? ⟨w.heap.size, 0 + i * 4 + j, none⟩ = (#[Value.int .i64 0, .int .i64 0, .int .i64 0, .int .i64 0])[j]? := fun j hj => by
    have l : i * 4 + j < n * 4 := by omega
    have : j = 0 ∨ j = 1 ∨ j = 2 ∨ j = 3 := by omega
    rcases this with rfl | rfl | rfl | rfl <;> simp [go_sem, madeCells] <;> exact ⟨_, by rw [Array.getElem?_range, if_pos (by omega)], by simp [Nat.add_mod]⟩
  exact ⟨c 0 (by omega), c 1 (by omega), c 2 (by omega), c 3 (by omega)⟩

def toKA (R : Nat → Ac) (k i : Nat) : Ac := if i < k then R i else zAc
theorem toKA_step (R : Nat → Ac) (k i : Nat) : (if i = k then R k else toKA R k i) = toKA R (k + 1) i := by
  unfold toKA
  by_cases e : i = k
  · subst e; simp
  · rw [if_neg e]
    have : (i < k + 1) ↔ (i < k) := by omega
    simp only [this]
set_option maxHeartbeats 1000000 in
theorem toActS_some (n : Nat) (R : Nat → Ac) (b off cap : Nat) (w : World) (hn : n ≤ 1048576) (hbl : b < w.heap.size) (hc : ∀ i, i < n → CAc w b (off + i * 4) (R i)) :
    Calls Try.prog 30 #[.slice (some ⟨b, off, none⟩) n cap] w fun e w' =>
      e = .returned (.slice (some ⟨w.heap.size, 0, none⟩) n n) ∧ Below w.heap.size w w' ∧ w.heap.size < w'.heap.size ∧ RowAc w' w.heap.size 0 n R := by
  have HC : Hid (∀ i, i < n → CAc w b (off + i * 4) (R i)) := hc
  have hmk := run_make_acts n hn
  clear hc
  go_enter Try.func30, Try.ntmps30
  go_wp2_with fail
  clear hmk
  go_loopw [4] (fun i wr => ∃ k : Nat, k ≤ n ∧ i = .int .i64 k ∧ Hid (Below w.heap.size w wr) ∧ w.heap.size < wr.heap.size ∧ Hid (RowAc wr w.heap.size 0 n (toKA R k))) (fun i _ => n - (intOf i).toNat)
  case atStart => exact ⟨0, Nat.zero_le _, rfl, (Below.refl _ _).alloc (Nat.le_refl _) _, by simp, rowAc_congr (made_acts w n) (fun i _ => by simp [toKA])⟩
  case round =>
    obtain ⟨k, hk0, rfl, HB, hsz, HR⟩ := hrel
    by_cases hlt : k < n
    · obtain ⟨x0, x1, x2, x3⟩ := (HC.out k hlt).block (HB.out.block _ hbl)
      obtain ⟨y0, y1, y2, y3⟩ := HR.out.1 k hlt
      have hf := HR.out.2
      have hlt' : (k : Int) < (n : Int) := by omega
      have hk1 : (0 : Int) ≤ (k : Int) := by omega
      generalize hr0 : toKA R k k = r0 at *
      go_wp2_with fail
      refine (toAct_any _ _ _ _ wr).mono ?_
      rintro e w1 ⟨rfl, hb1⟩
      have HR1 : Hid (RowAc w1 w.heap.size 0 n (toKA R k)) := rowAc_block HR.out (hb1.block _ hsz)
      have HB1 : Hid (Below w.heap.size w w1) := below_then HB.out hb1
      have hs1 : w.heap.size < w1.heap.size := Nat.lt_of_lt_of_le hsz hb1.size
      replace y0 := cell_below y0 hb1
      replace y1 := cell_below y1 hb1
      replace y2 := cell_below y2 hb1
      replace y3 := cell_below y3 hb1
      replace hf := HR1.out.2
      rw [Nat.zero_add] at y0 y1 y2 y3
      clear x0 x1 x2 x3 hb1
      go_wp2_with fail
      go_roundw
      case rel => 
        have HS : RowAc (setAc w1 w.heap.size (0 + k * 4) (R k)) w.heap.size 0 n (toKA R (k + 1)) := rowAc_congr (rowAc_set hlt HR1.out) (fun i _ => toKA_step R k i)
        rw [Nat.zero_add] at HS
        exact ⟨k + 1, hlt, by go_num, setAc_below (r := R k) (o := k * 4) HB1.out (Nat.le_refl _), by rw [show ((((w1.setCell ⟨w.heap.size, k * 4, none⟩ (.int .i64 (R k).k)).setCell ⟨w.heap.size, k * 4 + 1, none⟩ (.int .i64 (R k).t)).setCell ⟨w.heap.size, k * 4 + 2, none⟩ (.int .i64 (R k).y)).setCell ⟨w.heap.size, k * 4 + 3, none⟩ (.int .i64 (R k).o)).heap.size = w1.heap.size from setAc_size (r := R k) (o := k * 4)]; exact hs1, HS⟩
      case measure => simp [intOf]; omega
    · have hkn : k = n := by omega
      have HR1 : Hid (RowAc wr w.heap.size 0 n R) := rowAc_congr HR.out (fun i hi => by simp [toKA, hkn, hi])
      have hnl : ¬ ((k : Int) < (n : Int)) := by omega
      go_wp2_with fail
      go_ret
      exact ⟨rfl, HB.out, hsz, HR1.out⟩
theorem toActS_zero (a : Option Addr) (cap : Nat) (w : World) :
    Calls Try.prog 30 #[.slice a 0 cap] w fun e w' => e = .returned (.slice (some ⟨w.heap.size, 0, none⟩) 0 0) ∧ Below w.heap.size w w' ∧ w.heap.size < w'.heap.size := by
  have hmk : ∀ w, (Instr.makeSlice 42 (.int .i64 0) (.int .i64 0)).run Try.prog w = .ok (.slice (some ⟨w.heap.size, 0, none⟩) 0 0) (w.alloc (.cells #[] 53)) := fun w => by
    have h := run_make_acts 0 (by omega) w
    rw [made_none] at h
    exact h
  go_enter Try.func30, Try.ntmps30
  go_wp2
  go_loop [4] (fun i => i = .int .i64 0) (fun _ => 0)
  case atStart => exact rfl
  case round =>
    obtain rfl := hrel
    go_wp2
    go_ret
    exact ⟨rfl, (Below.refl _ _).alloc (Nat.le_refl _) _, by simp⟩
theorem toActS_any (n : Nat) (R : Nat → Ac) (a : Option Addr) (cap : Nat) (w : World) (hn : n ≤ 1048576) (h : AcsAt w a n R) :
    Calls Try.prog 30 #[.slice a n cap] w fun e w' => ∃ b,
      e = .returned (.slice (some ⟨b, 0, none⟩) n n) ∧ Below w.heap.size w w' ∧ OwnAc w' w.heap.size w'.heap.size (some ⟨b, 0, none⟩) n R := by
  rcases h with rfl | ⟨b, off, rfl, hbl, hc⟩
  · refine (toActS_zero a cap w).mono ?_
    rintro e w' ⟨rfl, hb, _⟩
    exact ⟨_, rfl, hb, Nat.le_refl _, .inl rfl⟩
  · refine (toActS_some n R b off cap w hn hbl hc).mono ?_
    rintro e w' ⟨rfl, hb, hs, hr⟩
    exact ⟨_, rfl, hb, Nat.le_refl _, .inr ⟨_, 0, rfl, Nat.le_refl _, hs, hr⟩⟩
/-! ### equal -/
theorem eqAct_same (t a g v : Int) (w : World) :
    Calls Try.prog 50 #[.agg #[.int .i64 t, .int .i64 a, .int .i64 g, .int .i64 v], .agg #[.int .i64 t, .int .i64 a, .int .i64 g, .int .i64 v]] w fun e w' => e = .returned (.bool true) ∧ Below w.heap.size w w' := by
  have hb0 : ∀ o1 o2, Below w.heap.size w ((w.alloc o1).alloc o2) := fun o1 o2 => ((Below.refl _ _).alloc (Nat.le_refl _) _).alloc (by simp) _
  go_enter Try.func50, Try.ntmps50
  go_wp2_with fail
  go_ret
  exact ⟨rfl, hb0 _ _⟩
theorem eqActS_zero (a a' : Option Addr) (cap cap' : Nat) (w : World) : Calls Try.prog 35 #[.slice a 0 cap, .slice a' 0 cap'] w fun e w' => e = .returned (.bool true) ∧ Below w.heap.size w w' := by
  go_enter Try.func35, Try.ntmps35
  go_wp2_with fail
  go_loop [5] (fun i => i = .int .i64 0) (fun _ => 0)
  case atStart => exact rfl
  case round =>
    obtain rfl := hrel
    go_wp2_with fail
    go_ret
    exact ⟨rfl, Below.refl _ _⟩
theorem drewB8 {w1 w2 : World} (hb : Below w1.drew.heap.size w1.drew w2) : Below w1.heap.size w1 w2 := ((Below.refl _ _).drew).trans hb
set_option maxHeartbeats 2000000 in
theorem eqActS_some (n : Nat) (R : Nat → Ac) (b off cap b' off' cap' : Nat) (w : World) (hn : n ≤ 1048576) (hbl : b < w.heap.size) (hbl' : b' < w.heap.size) (hc : ∀ i, i < n → CAc w b (off + i * 4) (R i)) (hc' : ∀ i, i < n → CAc w b' (off' + i * 4) (R i)) :
    Calls Try.prog 35 #[.slice (some ⟨b, off, none⟩) n cap, .slice (some ⟨b', off', none⟩) n cap'] w fun e w' => e = .returned (.bool true) ∧ Below w.heap.size w w' := by
  have HC : Hid (∀ i, i < n → CAc w b (off + i * 4) (R i)) := hc
  have HC' : Hid (∀ i, i < n → CAc w b' (off' + i * 4) (R i)) := hc'
  have hne : ((n : Int) != (n : Int)) = false := by simp
  clear hc hc'
  go_enter Try.func35, Try.ntmps35
  go_wp2_with fail
  go_loopw [5] (fun i wr => ∃ k : Nat, k ≤ n ∧ i = .int .i64 k ∧ Hid (Below w.heap.size w wr)) (fun i _ => n - (intOf i).toNat)
  case atStart => exact ⟨0, Nat.zero_le _, rfl, Below.refl _ _⟩
  case round =>
    obtain ⟨k, hk, rfl, HB⟩ := hrel
    by_cases hlt : k < n
    · have hlt' : (k : Int) < (n : Int) := by omega
      have hk0 : (0 : Int) ≤ (k : Int) := by omega
      obtain ⟨x0, x1, x2, x3⟩ := (HC.out k hlt).block (HB.out.block _ hbl)
      obtain ⟨y0, y1, y2, y3⟩ := (HC'.out k hlt).block (HB.out.block _ hbl')
      generalize R k = r at *
      go_wp2_with fail
      go_region_law (first | (go_simp; go_at_call 50; refine (eqAct_same r.k r.t r.y r.o _).mono ?_; rintro e w1 ⟨rfl, hb1⟩; have HB1 : Hid (Below w.heap.size w w1) := below_then HB.out (drewB8 hb1)))
      all_goals
        go_wp2_with fail
        go_roundw
        case rel => exact ⟨k + 1, hlt, by go_num, HB1⟩
        case measure => simp [intOf]; omega
    · have hnl : ¬ ((k : Int) < (n : Int)) := by omega
      go_wp2_with fail
      go_ret
      exact ⟨rfl, HB.out⟩
theorem eqActS_any (n : Nat) (R : Nat → Ac) (a a' : Option Addr) (cap cap' : Nat) (w : World) (hn : n ≤ 1048576) (h : AcsAt w a n R) (h' : AcsAt w a' n R) :
    Calls Try.prog 35 #[.slice a n cap, .slice a' n cap'] w fun e w' => e = .returned (.bool true) ∧ Below w.heap.size w w' := by
  rcases h with rfl | ⟨b, off, rfl, hl, hc⟩
  · exact eqActS_zero a a' cap cap' w
  · rcases h' with rfl | ⟨b', off', rfl, hl', hc'⟩
    · exact eqActS_zero _ a' cap cap' w
    · exact eqActS_some n R b off cap b' off' cap' w hn hl hl' hc hc'

def mAc (m : Int) (i : Nat) : Ac := ⟨m + i * 4, m + i * 4 + 1, m + i * 4 + 2, m + i * 4 + 3⟩
def mkAc (m : Int) (R : Nat → Ac) (j i : Nat) : Ac := if i < j then mAc m i else R i
theorem mkAc_step (m : Int) (R : Nat → Ac) (k i : Nat) : (if i = k then mAc m k else mkAc m R k i) = mkAc m R (k + 1) i := by
  unfold mkAc
  by_cases e : i = k
  · subst e; simp
  · rw [if_neg e]
    have : (i < k + 1) ↔ (i < k) := by omega
    simp only [this]
set_option maxHeartbeats 4000000 in
theorem markActS_some (n : Nat) (R : Nat → Ac) (b off cap lo hi : Nat) (m : Int) (w : World) (hn : n ≤ 1048576) (hm1 : 0 ≤ m) (hm2 : m ≤ 8796093022208) (hlo : lo ≤ b) (hhi : b < hi) (hr : RowAc w b off n R) :
    Calls Try.prog 43 #[.slice (some ⟨b, off, none⟩) n cap, .int .i64 m] w fun e w' =>
      e = .returned (.int .i64 (m + n * 4)) ∧ Writes lo hi w w' ∧ RowAc w' b off n (mkAc m R n) := by
  have HR0 : Hid (RowAc w b off n (mkAc m R 0)) := ⟨fun i h => by have := hr.1 i h; simpa [mkAc] using this, hr.2⟩
  clear hr
  go_enter Try.func43, Try.ntmps43
  go_wp2_with fail
  go_loopw [1, 5] (fun q i wr => ∃ k : Nat, k ≤ n ∧ i = .int .i64 k ∧ q = .int .i64 (m + k * 4) ∧ Hid (Writes lo hi w wr) ∧ Hid (RowAc wr b off n (mkAc m R k))) (fun _ i _ => n - (intOf i).toNat)
  case atStart => exact ⟨0, Nat.zero_le _, rfl, by go_num, Writes.refl _ _ _, HR0⟩
  case round =>
    obtain ⟨k, hk0, rfl, rfl, HB, HR⟩ := hrel
    by_cases hlt : k < n
    · obtain ⟨h0, h1, h2, h3⟩ := HR.out.1 k hlt
      have hf := HR.out.2
      generalize mkAc m R k k = r at *
      have hk' : (k : Int) < (n : Int) := by omega
      have hk1 : (0 : Int) ≤ (k : Int) := by omega
      have g1 : IntKind.i64.wrap (m + k * 4 + 1) = m + k * 4 + 1 := by rw [IntKind.wrap_i64]; omega
      have g2 : IntKind.i64.wrap (m + k * 4 + 1 + 1) = m + k * 4 + 2 := by rw [IntKind.wrap_i64]; omega
      have g3 : IntKind.i64.wrap (m + k * 4 + 2 + 1) = m + k * 4 + 3 := by rw [IntKind.wrap_i64]; omega
      have g4 : IntKind.i64.wrap (m + k * 4 + 3 + 1) = m + k * 4 + 4 := by rw [IntKind.wrap_i64]; omega
      go_wp2_with fail
      go_roundw
      case rel => exact ⟨k + 1, hlt, by go_num, by go_num, setAc_writes (r := mAc m k) (o := off + k * 4) HB.out hlo hhi, rowAc_congr (rowAc_set (r := mAc m k) hlt HR.out) (fun i _ => mkAc_step m R k i)⟩
      case measure => simp [intOf]; omega
    · have hkn : k = n := by omega
      have HR1 : Hid (RowAc wr b off n (mkAc m R n)) := by have h := HR.out; rw [hkn] at h; exact h
      have hnl : ¬ ((k : Int) < (n : Int)) := by omega
      go_wp2_with fail
      go_ret
      exact ⟨rfl, HB.out, HR1.out⟩
theorem markActS_zero (a : Option Addr) (cap : Nat) (m : Int) (w : World) : Calls Try.prog 43 #[.slice a 0 cap, .int .i64 m] w fun e w' => e = .returned (.int .i64 m) ∧ w' = w := by
  go_enter Try.func43, Try.ntmps43
  go_wp2
  go_loop [1, 5] (fun q i => q = .int .i64 m ∧ i = .int .i64 0) (fun _ _ => 0)
  case atStart => exact ⟨rfl, rfl⟩
  case round =>
    obtain ⟨rfl, rfl⟩ := hrel
    go_wp2
    go_ret
    exact ⟨rfl, rfl⟩
theorem markActS_any (n : Nat) (R : Nat → Ac) (a : Option Addr) (cap lo hi : Nat) (m : Int) (w : World) (hn : n ≤ 1048576) (hm1 : 0 ≤ m) (hm2 : m ≤ 8796093022208) (h : OwnAc w lo hi a n R) :
    Calls Try.prog 43 #[.slice a n cap, .int .i64 m] w fun e w' => e = .returned (.int .i64 (m + n * 4)) ∧ Writes lo hi w w' ∧ OwnAc w' lo hi a n (mAc m) := by
  obtain ⟨h0, rfl | ⟨b, off, rfl, hlo, hhi, hr⟩⟩ := h
  · refine (markActS_zero a cap m w).mono ?_
    rintro e w' ⟨rfl, rfl⟩
    exact ⟨ret_int (by omega), Writes.refl _ _ _, h0, .inl rfl⟩
  · refine (markActS_some n R b off cap lo hi m w hn hm1 hm2 hlo hhi hr).mono ?_
    rintro e w' ⟨rfl, hw, h1, h2⟩
    exact ⟨rfl, hw, Nat.le_trans h0 hw.size, .inr ⟨b, off, rfl, hlo, hhi, fun i hi => by have := h1 i hi; simpa [mkAc, hi] using this, h2⟩⟩
/-! ### held -/
set_option maxHeartbeats 4000000 in
theorem heldActS_some (n b off cap : Nat) (m : Int) (w : World) (hn : n ≤ 1048576) (hm1 : 0 ≤ m) (hm2 : m ≤ 8796093022208) (hc : ∀ i, i < n → CAc w b (off + i * 4) (mAc m i)) :
    Calls Try.prog 47 #[.slice (some ⟨b, off, none⟩) n cap, .int .i64 m] w fun e w' => e = .returned (.int .i64 (m + n * 4)) ∧ w' = w := by
  have HC : Hid (∀ i, i < n → CAc w b (off + i * 4) (mAc m i)) := hc
  clear hc
  go_enter Try.func47, Try.ntmps47
  go_wp2_with fail
  go_loop [1, 5] (fun q i => ∃ k : Nat, k ≤ n ∧ i = .int .i64 k ∧ q = .int .i64 (m + k * 4)) (fun _ i => n - (intOf i).toNat)
  case atStart => exact ⟨0, Nat.zero_le _, rfl, by go_num⟩
  case round =>
    obtain ⟨k, hk0, rfl, rfl⟩ := hrel
    by_cases hlt : k < n
    · obtain ⟨h0, h1, h2, h3⟩ := HC.out k hlt
      simp only [mAc] at h0 h1 h2 h3
      have hk' : (k : Int) < (n : Int) := by omega
      have hk1 : (0 : Int) ≤ (k : Int) := by omega
      have g1 : IntKind.i64.wrap (m + k * 4 + 1) = m + k * 4 + 1 := by rw [IntKind.wrap_i64]; omega
      have g2 : IntKind.i64.wrap (m + k * 4 + 1 + 1) = m + k * 4 + 2 := by rw [IntKind.wrap_i64]; omega
      have g3 : IntKind.i64.wrap (m + k * 4 + 2 + 1) = m + k * 4 + 3 := by rw [IntKind.wrap_i64]; omega
      have g4 : IntKind.i64.wrap (m + k * 4 + 3 + 1) = m + k * 4 + 4 := by rw [IntKind.wrap_i64]; omega
      go_wp2_with fail
      go_round
      case rel => exact ⟨k + 1, hlt, by go_num, by go_num⟩
      case measure => simp [intOf]; omega
    · have hkn : k = n := by omega
      have hnl : ¬ ((k : Int) < (n : Int)) := by omega
      go_wp2_with fail
      go_ret
      exact ⟨rfl, rfl⟩
theorem heldActS_zero (a : Option Addr) (cap : Nat) (m : Int) (w : World) : Calls Try.prog 47 #[.slice a 0 cap, .int .i64 m] w fun e w' => e = .returned (.int .i64 m) ∧ w' = w := by
  go_enter Try.func47, Try.ntmps47
  go_wp2
  go_loop [1, 5] (fun q i => q = .int .i64 m ∧ i = .int .i64 0) (fun _ _ => 0)
  case atStart => exact ⟨rfl, rfl⟩
  case round =>
    obtain ⟨rfl, rfl⟩ := hrel
    go_wp2
    go_ret
    exact ⟨rfl, rfl⟩
theorem heldActS_any (n : Nat) (a : Option Addr) (cap : Nat) (m : Int) (w : World) (hn : n ≤ 1048576) (hm1 : 0 ≤ m) (hm2 : m ≤ 8796093022208) (h : AcsAt w a n (mAc m)) :
    Calls Try.prog 47 #[.slice a n cap, .int .i64 m] w fun e w' => e = .returned (.int .i64 (m + n * 4)) ∧ w' = w := by
  rcases h with rfl | ⟨b, off, rfl, _, hc⟩
  · refine (heldActS_zero a cap m w).mono ?_
    rintro e w' ⟨rfl, rfl⟩
    exact ⟨ret_int (by omega), rfl⟩
  · exact heldActS_some n b off cap m w hn hm1 hm2 hc
theorem cellsAct : Try.prog.cellsOf 73 = 4 := by kernel_rfl
theorem cellsIA : Try.prog.cellsOf 2 = 1 := by kernel_rfl
theorem openActs {H : Type} {enc : TypeId × Value → H} {W : World} {fuel : Nat} {cs : List Value} {x : DataW H × List MemPlace}
    (h : DataW.trod enc Try.prog W 0 (fun _ => true) true fuel 50 cs = some x) :
    ∃ (a : Option Addr) (n cap : Nat) (R : Nat → Ac), cs = [.slice a n cap] ∧ n ≤ cap ∧ n ≤ 9223372036854775807 ∧ AcsAt W a n R := by
  rcases open_slice Try.underlying50 h with ⟨rfl, _⟩ | ⟨a, l, c, m, nn, D, Pl, rfl, _, hl, hm, hmm, _, hx⟩
  · exact ⟨none, 0, 0, fun _ => zAc, rfl, Nat.le_refl _, by omega, .inl rfl⟩
  · have hmc : m = c := by simpa using hmm
    unfold maxLen at hm
    rw [cellsAct] at hx
    have each : ∀ i, i < l → ∃ q : (Int × Int) × (Int × Int), W.cell? (a.add (i * 4)) = some (.int .i64 q.1.1) ∧ W.cell? (a.add (i * 4 + 1)) = some (.int .i64 q.1.2) ∧ W.cell? (a.add (i * 4 + 2)) = some (.int .i64 q.2.1) ∧ W.cell? (a.add (i * 4 + 3)) = some (.int .i64 q.2.2) := fun i hi => by
      obtain ⟨cs', h1, h2⟩ := hx i (by omega)
      obtain ⟨_, hlen, hcell⟩ := World.cells?_some h1
      obtain ⟨xs, k, hk, hxy, _, hxl, hf⟩ := DataW.trod_struct Try.underlying73 h2
      match xs, hxl, cs', hlen with
      | [y0, y1, y2, y3], _, [v0, v1, v2, v3], _ =>
        have g0 := hf 0 _ rfl
        have g1 := hf 1 _ rfl
        have g2 := hf 2 _ rfl
        have g3 := hf 3 _ rfl
        simp [cellsIA] at g0 g1 g2 g3
        have e0 := hcell 0 (by omega)
        have e1 := hcell 1 (by omega)
        have e2 := hcell 2 (by omega)
        have e3 := hcell 3 (by omega)
        rw [add_add] at e0 e1 e2 e3
        obtain ⟨z0, f0, _, _⟩ := DataW.trod_int Try.underlying2 g0
        obtain ⟨z1, f1, _, _⟩ := DataW.trod_int Try.underlying2 g1
        obtain ⟨z2, f2, _, _⟩ := DataW.trod_int Try.underlying2 g2
        obtain ⟨z3, f3, _, _⟩ := DataW.trod_int Try.underlying2 g3
        simp at f0 f1 f2 f3
        subst f0 f1 f2 f3
        exact ⟨((z0, z1), (z2, z3)), by simpa using e0, by simpa using e1, by simpa using e2, by simpa using e3⟩
    obtain ⟨q, hq⟩ := choose_lt each
    refine ⟨some a, l, c, fun i => ⟨(q i).1.1, (q i).1.2, (q i).2.1, (q i).2.2⟩, rfl, by omega, by omega, ?_⟩
    by_cases hz0 : l = 0
    · exact .inl hz0
    · obtain ⟨b, off, spot⟩ := a
      have hc0 := (hq 0 (by omega)).1
      have hspot : spot = none := by simpa [Addr.add] using World.cell?_spot hc0
      subst hspot
      refine .inr ⟨b, off, rfl, Go.block_lt_of_cell hc0, fun i hi => ?_⟩
      obtain ⟨k0, k1, k2, k3⟩ := hq i hi
      rw [add_plain] at k0 k1 k2 k3
      exact ⟨k0, by rw [Nat.add_assoc]; exact k1, by rw [Nat.add_assoc]; exact k2, by rw [Nat.add_assoc]; exact k3⟩
end Go.Proofs.Ytcfenhnggccmmaa
