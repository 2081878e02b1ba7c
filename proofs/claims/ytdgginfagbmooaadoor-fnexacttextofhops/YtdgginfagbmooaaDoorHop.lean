/- Rows of hops: what they hold, by the index; copies, equal, marked; an argument that is a list of hops, opened. -/
import Derived.Test.YtdgginfagbmooaaDoorFault
import Derived.Deep.RegionLaw
import Derived.Lib.SmallJoins
namespace Go.Proofs.YtdgginfagbmooaaDoor
open Go.ChangeShapes Go.WideShapes Go.ChangeAt Go.RowKit Go.Deep Go.Joins
set_option linter.unusedVariables false
set_option maxRecDepth 20000

/-- A hop's four fields. -/
structure Hp where
  k : Int
  t : Int
  y : Int
  o : Int
/-- Its cells. -/
def CH (w : World) (b o : Nat) (r : Hp) : Prop :=
  w.cell? ⟨b, o, none⟩ = some (.int .i64 r.k) ∧ w.cell? ⟨b, o + 1, none⟩ = some (.int .i64 r.t) ∧ w.cell? ⟨b, o + 2, none⟩ = some (.int .i64 r.y) ∧ w.cell? ⟨b, o + 3, none⟩ = some (.int .i64 r.o)
theorem CH.block {w w' : World} {b o : Nat} {r : Hp} (h : CH w b o r) (e : w'.heap[b]? = w.heap[b]?) : CH w' b o r := by
  have g : ∀ i, w'.cell? ⟨b, i, none⟩ = w.cell? ⟨b, i, none⟩ := fun i => World.cell?_of_block (w := w) (a := ⟨b, i, none⟩) e
  obtain ⟨h0, h1, h2, h3⟩ := h
  exact ⟨(g _).trans h0, (g _).trans h1, (g _).trans h2, (g _).trans h3⟩
/-- The slice at 'a' has the n hop R. -/
def HopsAt (w : World) (a : Option Addr) (n : Nat) (R : Nat → Hp) : Prop := n = 0 ∨ ∃ b off, a = some ⟨b, off, none⟩ ∧ b < w.heap.size ∧ ∀ i, i < n → CH w b (off + i * 4) (R i)
def RowH (w : World) (b off n : Nat) (R : Nat → Hp) : Prop := (∀ i, i < n → CH w b (off + i * 4) (R i)) ∧ ∀ i, w.frozen? ⟨b, i, none⟩ = false
def OwnH (w : World) (lo hi : Nat) (a : Option Addr) (n : Nat) (R : Nat → Hp) : Prop := hi ≤ w.heap.size ∧ (n = 0 ∨ ∃ b off, a = some ⟨b, off, none⟩ ∧ lo ≤ b ∧ b < hi ∧ RowH w b off n R)
theorem HopsAt.below {w w' : World} {a : Option Addr} {n : Nat} {R : Nat → Hp} (h : HopsAt w a n R) (hb : Below w.heap.size w w') : HopsAt w' a n R := by
  rcases h with h | ⟨b, off, ha, hl, hc⟩
  · exact .inl h
  · exact .inr ⟨b, off, ha, Nat.lt_of_lt_of_le hl hb.size, fun i hi => (hc i hi).block (hb.block _ hl)⟩
theorem HopsAt.congr {w : World} {a : Option Addr} {n : Nat} {R S : Nat → Hp} (h : HopsAt w a n R) (e : ∀ i, i < n → R i = S i) : HopsAt w a n S := by
  rcases h with h | ⟨b, off, ha, hl, hc⟩
  · exact .inl h
  · exact .inr ⟨b, off, ha, hl, fun i hi => by rw [← e i hi]; exact hc i hi⟩
theorem OwnH.at {w : World} {lo hi : Nat} {a : Option Addr} {n : Nat} {R : Nat → Hp} (h : OwnH w lo hi a n R) : HopsAt w a n R := by
  obtain ⟨h0, h1 | ⟨b, off, ha, _, hl, hc⟩⟩ := h
  · exact .inl h1
  · exact .inr ⟨b, off, ha, by omega, hc.1⟩
theorem OwnH.congr {w : World} {lo hi : Nat} {a : Option Addr} {n : Nat} {R S : Nat → Hp} (h : OwnH w lo hi a n R) (e : ∀ i, i < n → R i = S i) : OwnH w lo hi a n S := by
  obtain ⟨h0, h1 | ⟨b, off, ha, h2, hl, hc⟩⟩ := h
  · exact ⟨h0, .inl h1⟩
  · exact ⟨h0, .inr ⟨b, off, ha, h2, hl, fun i hi => by rw [← e i hi]; exact hc.1 i hi, hc.2⟩⟩
theorem OwnH.writes {w w' : World} {lo hi lo' hi' : Nat} {a : Option Addr} {n : Nat} {R : Nat → Hp} (h : OwnH w lo hi a n R) (hw : Writes lo' hi' w w') (hd : hi ≤ lo' ∨ hi' ≤ lo) : OwnH w' lo hi a n R := by
  obtain ⟨h0, h1 | ⟨b, off, ha, h2, hl, hc⟩⟩ := h
  · exact ⟨Nat.le_trans h0 hw.size, .inl h1⟩
  · have hb := hw.block b (by omega) (by omega)
    exact ⟨Nat.le_trans h0 hw.size, .inr ⟨b, off, ha, h2, hl, fun i hi => (hc.1 i hi).block hb, fun i => (World.frozen?_of_block (w := w) (a := ⟨b, i, none⟩) hb).trans (hc.2 i)⟩⟩
theorem OwnH.below {w w' : World} {lo hi : Nat} {a : Option Addr} {n : Nat} {R : Nat → Hp} (h : OwnH w lo hi a n R) (hb : Below w.heap.size w w') : OwnH w' lo hi a n R :=
  h.writes (Writes.of_below (lo := hi) (hi := hi) hb) (.inl (Nat.le_refl _))
theorem OwnH.wide {w : World} {lo hi lo' hi' : Nat} {a : Option Addr} {n : Nat} {R : Nat → Hp} (h : OwnH w lo hi a n R) (h1 : lo' ≤ lo) (h2 : hi ≤ hi') (h3 : hi' ≤ w.heap.size) : OwnH w lo' hi' a n R := by
  obtain ⟨h0, h4 | ⟨b, off, ha, h5, hl, r⟩⟩ := h
  · exact ⟨h3, .inl h4⟩
  · exact ⟨h3, .inr ⟨b, off, ha, by omega, by omega, r⟩⟩
/-! ### a hop is stored -/
def setH (w : World) (b o : Nat) (r : Hp) : World :=
  (((w.setCell ⟨b, o, none⟩ (.int .i64 r.k)).setCell ⟨b, o + 1, none⟩ (.int .i64 r.t)).setCell ⟨b, o + 2, none⟩ (.int .i64 r.y)).setCell ⟨b, o + 3, none⟩ (.int .i64 r.o)
theorem setH_far {w : World} {b o o' : Nat} {r : Hp} (h : o' < o ∨ o + 3 < o') : (setH w b o r).cell? ⟨b, o', none⟩ = w.cell? ⟨b, o', none⟩ := by
  unfold setH
  rw [setO (by omega), setO (by omega), setO (by omega), setO (by omega)]
theorem setH_same {w : World} {b o : Nat} {r r0 : Hp} (h : CH w b o r0) : CH (setH w b o r) b o r := by
  obtain ⟨h0, h1, h2, h3⟩ := h
  unfold setH
  refine ⟨?_, ?_, ?_, ?_⟩
  · rw [setO (by omega), setO (by omega), setO (by omega)]; exact setS h0
  · rw [setO (by omega), setO (by omega)]; exact setS (by rw [setO (by omega)]; exact h1)
  · rw [setO (by omega)]; exact setS (by rw [setO (by omega), setO (by omega)]; exact h2)
  · exact setS (by rw [setO (by omega), setO (by omega), setO (by omega)]; exact h3)
theorem setH_frozen {w : World} {b o : Nat} {r : Hp} (h : ∀ i, w.frozen? ⟨b, i, none⟩ = false) : ∀ i, (setH w b o r).frozen? ⟨b, i, none⟩ = false := fun i => by
  unfold setH
  rw [World.frozen?_setCell, World.frozen?_setCell, World.frozen?_setCell, World.frozen?_setCell]
  exact h i
theorem setH_writes {lo hi : Nat} {w wr : World} {b o : Nat} {r : Hp} (h : Writes lo hi w wr) (h1 : lo ≤ b) (h2 : b < hi) : Writes lo hi w (setH wr b o r) := by
  unfold setH
  exact (((h.setCell (p := ⟨b, _, none⟩) h1 h2 _).setCell (p := ⟨b, _, none⟩) h1 h2 _).setCell (p := ⟨b, _, none⟩) h1 h2 _).setCell (p := ⟨b, _, none⟩) h1 h2 _
theorem setH_below {n : Nat} {w wr : World} {b o : Nat} {r : Hp} (h : Below n w wr) (h1 : n ≤ b) : Below n w (setH wr b o r) := by
  unfold setH
  exact (((h.setCell (p := ⟨b, _, none⟩) h1 _).setCell (p := ⟨b, _, none⟩) h1 _).setCell (p := ⟨b, _, none⟩) h1 _).setCell (p := ⟨b, _, none⟩) h1 _
theorem setH_size {w : World} {b o : Nat} {r : Hp} : (setH w b o r).heap.size = w.heap.size := by simp [setH, World.setCell]
/-- A row of which the k-th hop is stored. -/
theorem rowH_set {w : World} {b off n k : Nat} {R : Nat → Hp} {r : Hp} (hlt : k < n) (h : RowH w b off n R) : RowH (setH w b (off + k * 4) r) b off n (fun i => if i = k then r else R i) := by
  refine ⟨fun i hi => ?_, setH_frozen h.2⟩
  by_cases e : i = k
  · subst e
    simp only [if_true]
    exact setH_same (h.1 i hi)
  · simp only [if_neg e]
    have g : ∀ j, j < 4 → (setH w b (off + k * 4) r).cell? ⟨b, off + i * 4 + j, none⟩ = w.cell? ⟨b, off + i * 4 + j, none⟩ := fun j hj => setH_far (by omega)
    obtain ⟨h0, h1, h2, h3⟩ := h.1 i hi
    exact ⟨(g 0 (by omega)).trans h0, (g 1 (by omega)).trans h1, (g 2 (by omega)).trans h2, (g 3 (by omega)).trans h3⟩
theorem rowH_congr {w : World} {b off n : Nat} {R S : Nat → Hp} (h : RowH w b off n R) (e : ∀ i, i < n → R i = S i) : RowH w b off n S := ⟨fun i hi => by rw [← e i hi]; exact h.1 i hi, h.2⟩
theorem rowH_block {w w' : World} {b off n : Nat} {R : Nat → Hp} (h : RowH w b off n R) (hb : w'.heap[b]? = w.heap[b]?) : RowH w' b off n R :=
  ⟨fun i hi => (h.1 i hi).block hb, fun i => (World.frozen?_of_block (w := w) (a := ⟨b, i, none⟩) hb).trans (h.2 i)⟩
/-! ### copies -/
theorem toHop_any (t a g v : Int) (w : World) : Calls Tryd.prog 12 #[.agg #[.int .i64 t, .int .i64 a, .int .i64 g, .int .i64 v]] w fun e w' =>
    e = .returned (.agg #[.int .i64 t, .int .i64 a, .int .i64 g, .int .i64 v]) ∧ Below w.heap.size w w' := by
  go_enter Tryd.func12, Tryd.ntmps12
  go_wp2_with fail
  refine bodyPost_ret (v := .agg #[.int .i64 t, .int .i64 a, .int .i64 g, .int .i64 v]) (by simp [results, Tryd.results12, go_sem]) rfl ⟨rfl, ?_⟩
  repeat (first | exact Below.refl _ _ | apply Below.drew | refine Below.setCell ?_ (by first | omega | (simp <;> omega)) _ | refine Below.alloc ?_ (by first | omega | (simp <;> omega)) _)
theorem szHopS_any (n : Nat) (a : Option Addr) (cap : Nat) (w : World) (hn : n ≤ 9223372036854775807) :
    Calls Tryd.prog 4 #[.slice a n cap, .int .i64 1048576] w fun e w' => e = .returned (.int .i64 (if n ≤ 1048576 then 1048576 - n else -1)) ∧ w' = w := by
  by_cases h : n ≤ 1048576
  · rw [if_pos h]
    go_enter Tryd.func4, Tryd.ntmps4
    go_wp2
    go_ret
    exact ⟨rfl, rfl⟩
  · rw [if_neg h]
    go_enter Tryd.func4, Tryd.ntmps4
    go_wp2
    go_ret
    exact ⟨rfl, rfl⟩
theorem infoHop : (Tryd.prog.info? 34).map (fun i => (i.zero, i.size, i.bytes)) = some (some (.agg #[.int .i64 0, .int .i64 0, .int .i64 0, .int .i64 0]), 4, 32) := by kernel_rfl
/-- 'make([]impl.Hop, n)'. -/
theorem run_make_hops (n : Nat) (hn : n ≤ 1048576) (w : World) :
    (Instr.makeSlice 27 (.int .i64 (n : Int)) (.int .i64 (n : Int))).run Tryd.prog w = .ok (.slice (some ⟨w.heap.size, 0, none⟩) n n) (w.alloc (.cells (madeCells #[.int .i64 0, .int .i64 0, .int .i64 0, .int .i64 0] (n * 4)) 34)) := by
  obtain ⟨i, hi, hzz⟩ := Option.map_eq_some_iff.1 infoHop
  simp only [Prod.mk.injEq] at hzz
  obtain ⟨hz, hs, hb⟩ := hzz
  have hr := run_make (P := Tryd.prog) w 27 34 i _ Tryd.underlying27 hi hz .i64 .i64 n n (by omega) (Int.le_refl _) (by rw [hb]; omega) (by omega)
  simp only [Int.toNat_natCast, hs] at hr
  exact hr
def zHp : Hp := ⟨0, 0, 0, 0⟩
theorem made_hops (w : World) (n : Nat) : RowH (w.alloc (.cells (madeCells #[.int .i64 0, .int .i64 0, .int .i64 0, .int .i64 0] (n * 4)) 34)) w.heap.size 0 n (fun _ => zHp) := by
  refine ⟨fun i hi => ?_, fun i => by simp [go_sem]⟩
  have c : ∀ j, j < 4 → (w.alloc (.cells (madeCells #[.int .i64 0, .int .i64 0, .int .i64 0, .int .i64 0] (n * 4)) 34)).cell? ⟨w.heap.size, 0 + i * 4 + j, none⟩ = (#[Value.int .i64 0, .int .i64 0, .int .i64 0, .int .i64 0])[j]? := fun j hj => by
    have l : i * 4 + j < n * 4 := by omega
    have : j = 0 ∨ j = 1 ∨ j = 2 ∨ j = 3 := by omega
    rcases this with rfl | rfl | rfl | rfl <;> simp [go_sem, madeCells] <;> exact ⟨_, by rw [Array.getElem?_range, if_pos (by omega)], by simp [Nat.add_mod]⟩
  exact ⟨c 0 (by omega), c 1 (by omega), c 2 (by omega), c 3 (by omega)⟩

def toKH (R : Nat → Hp) (k i : Nat) : Hp := if i < k then R i else zHp
theorem toKH_step (R : Nat → Hp) (k i : Nat) : (if i = k then R k else toKH R k i) = toKH R (k + 1) i := by
  unfold toKH
  by_cases e : i = k
  · subst e; simp
  · rw [if_neg e]
    have : (i < k + 1) ↔ (i < k) := by omega
    simp only [this]
set_option maxHeartbeats 1000000 in
theorem toHopS_some (n : Nat) (R : Nat → Hp) (b off cap : Nat) (w : World) (hn : n ≤ 1048576) (hbl : b < w.heap.size) (hc : ∀ i, i < n → CH w b (off + i * 4) (R i)) :
    Calls Tryd.prog 6 #[.slice (some ⟨b, off, none⟩) n cap] w fun e w' =>
      e = .returned (.slice (some ⟨w.heap.size, 0, none⟩) n n) ∧ Below w.heap.size w w' ∧ w.heap.size < w'.heap.size ∧ RowH w' w.heap.size 0 n R := by
  have HC : Hid (∀ i, i < n → CH w b (off + i * 4) (R i)) := hc
  have hmk := run_make_hops n hn
  clear hc
  go_enter Tryd.func6, Tryd.ntmps6
  go_wp2_with fail
  clear hmk
  go_loopw [4] (fun i wr => ∃ k : Nat, k ≤ n ∧ i = .int .i64 k ∧ Hid (Below w.heap.size w wr) ∧ w.heap.size < wr.heap.size ∧ Hid (RowH wr w.heap.size 0 n (toKH R k))) (fun i _ => n - (intOf i).toNat)
  case atStart => exact ⟨0, Nat.zero_le _, rfl, (Below.refl _ _).alloc (Nat.le_refl _) _, by simp, rowH_congr (made_hops w n) (fun i _ => by simp [toKH])⟩
  case round =>
    obtain ⟨k, hk0, rfl, HB, hsz, HR⟩ := hrel
    by_cases hlt : k < n
    · obtain ⟨x0, x1, x2, x3⟩ := (HC.out k hlt).block (HB.out.block _ hbl)
      obtain ⟨y0, y1, y2, y3⟩ := HR.out.1 k hlt
      have hf := HR.out.2
      have hlt' : (k : Int) < (n : Int) := by omega
      have hk1 : (0 : Int) ≤ (k : Int) := by omega
      generalize hr0 : toKH R k k = r0 at *
      go_wp2_with fail
      refine (toHop_any _ _ _ _ wr).mono ?_
      rintro e w1 ⟨rfl, hb1⟩
      have HR1 : Hid (RowH w1 w.heap.size 0 n (toKH R k)) := rowH_block HR.out (hb1.block _ hsz)
      have HB1 : Hid (Below w.heap.size w w1) := below_then HB.out hb1
      have hs1 : w.heap.size < w1.heap.size := Nat.lt_of_lt_of_le hsz hb1.size
      replace y0 := cell_below y0 hb1
      replace y1 := cell_below y1 hb1
      replace y2 := cell_below y2 hb1
      replace y3 := cell_below y3 hb1
      replace hf := HR1.out.2
      rw [Nat.zero_add] at y0 y1 y2 y3
      clear x0 x1 x2 x3 hb1
      go_wp2_with fail
      go_roundw
      case rel => 
        have HS : RowH (setH w1 w.heap.size (0 + k * 4) (R k)) w.heap.size 0 n (toKH R (k + 1)) := rowH_congr (rowH_set hlt HR1.out) (fun i _ => toKH_step R k i)
        rw [Nat.zero_add] at HS
        exact ⟨k + 1, hlt, by go_num, setH_below (r := R k) (o := k * 4) HB1.out (Nat.le_refl _), by rw [show ((((w1.setCell ⟨w.heap.size, k * 4, none⟩ (.int .i64 (R k).k)).setCell ⟨w.heap.size, k * 4 + 1, none⟩ (.int .i64 (R k).t)).setCell ⟨w.heap.size, k * 4 + 2, none⟩ (.int .i64 (R k).y)).setCell ⟨w.heap.size, k * 4 + 3, none⟩ (.int .i64 (R k).o)).heap.size = w1.heap.size from setH_size (r := R k) (o := k * 4)]; exact hs1, HS⟩
      case measure => simp [intOf]; omega
    · have hkn : k = n := by omega
      have HR1 : Hid (RowH wr w.heap.size 0 n R) := rowH_congr HR.out (fun i hi => by simp [toKH, hkn, hi])
      have hnl : ¬ ((k : Int) < (n : Int)) := by omega
      go_wp2_with fail
      go_ret
      exact ⟨rfl, HB.out, hsz, HR1.out⟩
theorem toHopS_zero (a : Option Addr) (cap : Nat) (w : World) :
    Calls Tryd.prog 6 #[.slice a 0 cap] w fun e w' => e = .returned (.slice (some ⟨w.heap.size, 0, none⟩) 0 0) ∧ Below w.heap.size w w' ∧ w.heap.size < w'.heap.size := by
  have hmk : ∀ w, (Instr.makeSlice 27 (.int .i64 0) (.int .i64 0)).run Tryd.prog w = .ok (.slice (some ⟨w.heap.size, 0, none⟩) 0 0) (w.alloc (.cells #[] 34)) := fun w => by
    have h := run_make_hops 0 (by omega) w
    rw [made_none] at h
    exact h
  go_enter Tryd.func6, Tryd.ntmps6
  go_wp2
  go_loop [4] (fun i => i = .int .i64 0) (fun _ => 0)
  case atStart => exact rfl
  case round =>
    obtain rfl := hrel
    go_wp2
    go_ret
    exact ⟨rfl, (Below.refl _ _).alloc (Nat.le_refl _) _, by simp⟩
theorem toHopS_any (n : Nat) (R : Nat → Hp) (a : Option Addr) (cap : Nat) (w : World) (hn : n ≤ 1048576) (h : HopsAt w a n R) :
    Calls Tryd.prog 6 #[.slice a n cap] w fun e w' => ∃ b,
      e = .returned (.slice (some ⟨b, 0, none⟩) n n) ∧ Below w.heap.size w w' ∧ OwnH w' w.heap.size w'.heap.size (some ⟨b, 0, none⟩) n R := by
  rcases h with rfl | ⟨b, off, rfl, hbl, hc⟩
  · refine (toHopS_zero a cap w).mono ?_
    rintro e w' ⟨rfl, hb, _⟩
    exact ⟨_, rfl, hb, Nat.le_refl _, .inl rfl⟩
  · refine (toHopS_some n R b off cap w hn hbl hc).mono ?_
    rintro e w' ⟨rfl, hb, hs, hr⟩
    exact ⟨_, rfl, hb, Nat.le_refl _, .inr ⟨_, 0, rfl, Nat.le_refl _, hs, hr⟩⟩
/-! ### equal -/
theorem eqHop_same (t a g v : Int) (w : World) :
    Calls Tryd.prog 15 #[.agg #[.int .i64 t, .int .i64 a, .int .i64 g, .int .i64 v], .agg #[.int .i64 t, .int .i64 a, .int .i64 g, .int .i64 v]] w fun e w' => e = .returned (.bool true) ∧ Below w.heap.size w w' := by
  have hb0 : ∀ o1 o2, Below w.heap.size w ((w.alloc o1).alloc o2) := fun o1 o2 => ((Below.refl _ _).alloc (Nat.le_refl _) _).alloc (by simp) _
  go_enter Tryd.func15, Tryd.ntmps15
  go_wp2_with fail
  go_ret
  exact ⟨rfl, hb0 _ _⟩
theorem eqHopS_zero (a a' : Option Addr) (cap cap' : Nat) (w : World) : Calls Tryd.prog 9 #[.slice a 0 cap, .slice a' 0 cap'] w fun e w' => e = .returned (.bool true) ∧ Below w.heap.size w w' := by
  go_enter Tryd.func9, Tryd.ntmps9
  go_wp2_with fail
  go_loop [5] (fun i => i = .int .i64 0) (fun _ => 0)
  case atStart => exact rfl
  case round =>
    obtain rfl := hrel
    go_wp2_with fail
    go_ret
    exact ⟨rfl, Below.refl _ _⟩
theorem drewB7 {w1 w2 : World} (hb : Below w1.drew.heap.size w1.drew w2) : Below w1.heap.size w1 w2 := ((Below.refl _ _).drew).trans hb
set_option maxHeartbeats 2000000 in
theorem eqHopS_some (n : Nat) (R : Nat → Hp) (b off cap b' off' cap' : Nat) (w : World) (hn : n ≤ 1048576) (hbl : b < w.heap.size) (hbl' : b' < w.heap.size) (hc : ∀ i, i < n → CH w b (off + i * 4) (R i)) (hc' : ∀ i, i < n → CH w b' (off' + i * 4) (R i)) :
    Calls Tryd.prog 9 #[.slice (some ⟨b, off, none⟩) n cap, .slice (some ⟨b', off', none⟩) n cap'] w fun e w' => e = .returned (.bool true) ∧ Below w.heap.size w w' := by
  have HC : Hid (∀ i, i < n → CH w b (off + i * 4) (R i)) := hc
  have HC' : Hid (∀ i, i < n → CH w b' (off' + i * 4) (R i)) := hc'
  have hne : ((n : Int) != (n : Int)) = false := by simp
  clear hc hc'
  go_enter Tryd.func9, Tryd.ntmps9
  go_wp2_with fail
  go_loopw [5] (fun i wr => ∃ k : Nat, k ≤ n ∧ i = .int .i64 k ∧ Hid (Below w.heap.size w wr)) (fun i _ => n - (intOf i).toNat)
  case atStart => exact ⟨0, Nat.zero_le _, rfl, Below.refl _ _⟩
  case round =>
    obtain ⟨k, hk, rfl, HB⟩ := hrel
    by_cases hlt : k < n
    · have hlt' : (k : Int) < (n : Int) := by omega
      have hk0 : (0 : Int) ≤ (k : Int) := by omega
      obtain ⟨x0, x1, x2, x3⟩ := (HC.out k hlt).block (HB.out.block _ hbl)
      obtain ⟨y0, y1, y2, y3⟩ := (HC'.out k hlt).block (HB.out.block _ hbl')
      generalize R k = r at *
      go_wp2_with fail
      go_region_law (first | (go_simp; go_at_call 15; refine (eqHop_same r.k r.t r.y r.o _).mono ?_; rintro e w1 ⟨rfl, hb1⟩; have HB1 : Hid (Below w.heap.size w w1) := below_then HB.out (drewB7 hb1)))
      all_goals
        go_wp2_with fail
        go_roundw
        case rel => exact ⟨k + 1, hlt, by go_num, HB1⟩
        case measure => simp [intOf]; omega
    · have hnl : ¬ ((k : Int) < (n : Int)) := by omega
      go_wp2_with fail
      go_ret
      exact ⟨rfl, HB.out⟩
theorem eqHopS_any (n : Nat) (R : Nat → Hp) (a a' : Option Addr) (cap cap' : Nat) (w : World) (hn : n ≤ 1048576) (h : HopsAt w a n R) (h' : HopsAt w a' n R) :
    Calls Tryd.prog 9 #[.slice a n cap, .slice a' n cap'] w fun e w' => e = .returned (.bool true) ∧ Below w.heap.size w w' := by
  rcases h with rfl | ⟨b, off, rfl, hl, hc⟩
  · exact eqHopS_zero a a' cap cap' w
  · rcases h' with rfl | ⟨b', off', rfl, hl', hc'⟩
    · exact eqHopS_zero _ a' cap cap' w
    · exact eqHopS_some n R b off cap b' off' cap' w hn hl hl' hc hc'

def mHp (m : Int) (i : Nat) : Hp := ⟨m + i * 4, m + i * 4 + 1, m + i * 4 + 2, m + i * 4 + 3⟩
def mkHp (m : Int) (R : Nat → Hp) (j i : Nat) : Hp := if i < j then mHp m i else R i
theorem mkHp_step (m : Int) (R : Nat → Hp) (k i : Nat) : (if i = k then mHp m k else mkHp m R k i) = mkHp m R (k + 1) i := by
  unfold mkHp
  by_cases e : i = k
  · subst e; simp
  · rw [if_neg e]
    have : (i < k + 1) ↔ (i < k) := by omega
    simp only [this]
theorem cellsHop : Tryd.prog.cellsOf 38 = 4 := by kernel_rfl
theorem cellsIH : Tryd.prog.cellsOf 2 = 1 := by kernel_rfl
/-- Each one's Txn is a number as a key may be. -/
def HpW (n : Nat) (R : Nat → Hp) : Prop := ∀ i, i < n → (Lit.int .i64 (R i).t).wf = true
theorem openHops {H : Type} {enc : TypeId × Value → H} {W : World} {fuel : Nat} {cs : List Value} {x : DataW H × List MemPlace}
    (h : DataW.trod enc Tryd.prog W 0 (fun _ => true) true fuel 22 cs = some x) :
    ∃ (a : Option Addr) (n cap : Nat) (R : Nat → Hp), cs = [.slice a n cap] ∧ n ≤ 9223372036854775807 ∧ HopsAt W a n R ∧ HpW n R := by
  rcases open_slice Tryd.underlying22 h with ⟨rfl, _⟩ | ⟨a, l, c, m, nn, D, Pl, rfl, _, hl, hm, hmm, _, hx⟩
  · exact ⟨none, 0, 0, fun _ => zHp, rfl, by omega, .inl rfl, fun i hi => by omega⟩
  · have hmc : m = c := by simpa using hmm
    unfold maxLen at hm
    rw [cellsHop] at hx
    have each : ∀ i, i < l → ∃ q : (Int × Int) × (Int × Int), W.cell? (a.add (i * 4)) = some (.int .i64 q.1.1) ∧ W.cell? (a.add (i * 4 + 1)) = some (.int .i64 q.1.2) ∧ W.cell? (a.add (i * 4 + 2)) = some (.int .i64 q.2.1) ∧ W.cell? (a.add (i * 4 + 3)) = some (.int .i64 q.2.2) ∧ (Lit.int .i64 q.1.2).wf = true := fun i hi => by
      obtain ⟨cs', h1, h2⟩ := hx i (by omega)
      obtain ⟨_, hlen, hcell⟩ := World.cells?_some h1
      obtain ⟨xs, k, hk, hxy, _, hxl, hf⟩ := DataW.trod_struct Tryd.underlying38 h2
      match xs, hxl, cs', hlen with
      | [y0, y1, y2, y3], _, [v0, v1, v2, v3], _ =>
        have g0 := hf 0 _ rfl
        have g1 := hf 1 _ rfl
        have g2 := hf 2 _ rfl
        have g3 := hf 3 _ rfl
        simp [cellsIH] at g0 g1 g2 g3
        have e0 := hcell 0 (by omega)
        have e1 := hcell 1 (by omega)
        have e2 := hcell 2 (by omega)
        have e3 := hcell 3 (by omega)
        rw [add_add] at e0 e1 e2 e3
        obtain ⟨z0, f0, _, _⟩ := DataW.trod_int Tryd.underlying2 g0
        obtain ⟨z1, f1, _, wf1⟩ := DataW.trod_int Tryd.underlying2 g1
        obtain ⟨z2, f2, _, _⟩ := DataW.trod_int Tryd.underlying2 g2
        obtain ⟨z3, f3, _, _⟩ := DataW.trod_int Tryd.underlying2 g3
        simp at f0 f1 f2 f3
        subst f0 f1 f2 f3
        exact ⟨((z0, z1), (z2, z3)), by simpa using e0, by simpa using e1, by simpa using e2, by simpa using e3, wf1⟩
    obtain ⟨q, hq⟩ := choose_lt each
    refine ⟨some a, l, c, fun i => ⟨(q i).1.1, (q i).1.2, (q i).2.1, (q i).2.2⟩, rfl, by omega, ?_, fun i hi => (hq i hi).2.2.2.2⟩
    by_cases hz0 : l = 0
    · exact .inl hz0
    · obtain ⟨b, off, spot⟩ := a
      have hc0 := (hq 0 (by omega)).1
      have hspot : spot = none := by simpa [Addr.add] using World.cell?_spot hc0
      subst hspot
      refine .inr ⟨b, off, rfl, Go.block_lt_of_cell hc0, fun i hi => ?_⟩
      obtain ⟨k0, k1, k2, k3, _⟩ := hq i hi
      rw [add_plain] at k0 k1 k2 k3
      exact ⟨k0, by rw [Nat.add_assoc]; exact k1, by rw [Nat.add_assoc]; exact k2, by rw [Nat.add_assoc]; exact k3⟩
end Go.Proofs.YtdgginfagbmooaaDoor
