/- Lists of records as an argument: sizes, copies, opened. -/
import Derived.Test.YtppckjecidcflaaRl
import Derived.Test.YtppckjecidcflaaRg
namespace Go.Proofs.Ytppckjecidcflaa
open Go.ChangeShapes Go.WideShapes Go.ChangeAt Go.RowKit Go.Deep Go.Joins
set_option linter.unusedVariables false
set_option maxRecDepth 20000

theorem set8_below {n : Nat} {w wr : World} {b o : Nat} {r : Rc} (h : Below n w wr) (h1 : n ≤ b) : Below n w (set8 wr b o r) := by
  unfold set8
  exact (((((((h.setCell (p := ⟨b, _, none⟩) h1 _).setCell (p := ⟨b, _, none⟩) h1 _).setCell (p := ⟨b, _, none⟩) h1 _).setCell (p := ⟨b, _, none⟩) h1 _).setCell (p := ⟨b, _, none⟩) h1 _).setCell (p := ⟨b, _, none⟩) h1 _).setCell (p := ⟨b, _, none⟩) h1 _).setCell (p := ⟨b, _, none⟩) h1 _
theorem set8_size {w : World} {b o : Nat} {r : Rc} : (set8 w b o r).heap.size = w.heap.size := by simp [set8, World.setCell]
theorem row8_set {w : World} {b off n k : Nat} {R : Nat → Rc} {r : Rc} (hlt : k < n) (h : Row8 w b off n R) : Row8 (set8 w b (off + k * 8) r) b off n (fun i => if i = k then r else R i) := by
  refine ⟨fun i hi => ?_, set8_frozen h.2⟩
  by_cases e : i = k
  · subst e
    simp only [if_true]
    exact set8_same (h.1 i hi)
  · simp only [if_neg e]
    have g : ∀ j, j < 8 → (set8 w b (off + k * 8) r).cell? ⟨b, off + i * 8 + j, none⟩ = w.cell? ⟨b, off + i * 8 + j, none⟩ := fun j hj => set8_far (by omega)
    obtain ⟨h0, h1, h2, h3, h4, h5, h6, h7⟩ := h.1 i hi
    exact ⟨(g 0 (by omega)).trans h0, (g 1 (by omega)).trans h1, (g 2 (by omega)).trans h2, (g 3 (by omega)).trans h3, (g 4 (by omega)).trans h4, (g 5 (by omega)).trans h5, (g 6 (by omega)).trans h6, (g 7 (by omega)).trans h7⟩
theorem row8_congr {w : World} {b off n : Nat} {R S : Nat → Rc} (h : Row8 w b off n R) (e : ∀ i, i < n → R i = S i) : Row8 w b off n S := ⟨fun i hi => by rw [← e i hi]; exact h.1 i hi, h.2⟩
theorem row8_block {w w' : World} {b off n : Nat} {R : Nat → Rc} (h : Row8 w b off n R) (hb : w'.heap[b]? = w.heap[b]?) : Row8 w' b off n R :=
  ⟨fun i hi => (h.1 i hi).block hb, fun i => (World.frozen?_of_block (w := w) (a := ⟨b, i, none⟩) hb).trans (h.2 i)⟩
theorem szRecS_any (n : Nat) (a : Option Addr) (cap : Nat) (w : World) (hn : n ≤ 9223372036854775807) :
    Calls Try.prog 16 #[.slice a n cap, .int .i64 1048576] w fun e w' => e = .returned (.int .i64 (if n ≤ 1048576 then 1048576 - n else -1)) ∧ w' = w := by
  by_cases h : n ≤ 1048576
  · rw [if_pos h]
    go_enter Try.func16, Try.ntmps16
    go_wp2
    go_ret
    exact ⟨rfl, rfl⟩
  · rw [if_neg h]
    go_enter Try.func16, Try.ntmps16
    go_wp2
    go_ret
    exact ⟨rfl, rfl⟩
theorem run_make_recs (n : Nat) (hn : n ≤ 1048576) (w : World) :
    (Instr.makeSlice 46 (.int .i64 (n : Int)) (.int .i64 (n : Int))).run Try.prog w = .ok (.slice (some ⟨w.heap.size, 0, none⟩) n n) (w.alloc (.cells (madeCells #[.int .i64 0, .int .i64 0, .int .i64 0, .bool false, .int .i64 0, .bool false, .int .i64 0, .int .i64 0] (n * 8)) 33)) := by
  obtain ⟨i, hi, hzz⟩ := Option.map_eq_some_iff.1 info45
  simp only [Prod.mk.injEq] at hzz
  obtain ⟨hz, hs, hb⟩ := hzz
  have hr := run_make (P := Try.prog) w 46 33 i _ Try.underlying46 hi hz .i64 .i64 n n (by omega) (Int.le_refl _) (by rw [hb]; omega) (by omega)
  simp only [Int.toNat_natCast, hs] at hr
  exact hr
def zRec : Rc := ⟨0, 0, 0, false, 0, false, 0, 0⟩
theorem made_recs (w : World) (n : Nat) : Row8 (w.alloc (.cells (madeCells #[.int .i64 0, .int .i64 0, .int .i64 0, .bool false, .int .i64 0, .bool false, .int .i64 0, .int .i64 0] (n * 8)) 33)) w.heap.size 0 n (fun _ => zRec) := by
  refine ⟨fun i hi => ?_, fun i => by simp [go_sem]⟩
  have c : ∀ j, j < 8 → (w.alloc (.cells (madeCells #[.int .i64 0, .int .i64 0, .int .i64 0, .bool false, .int .i64 0, .bool false, .int .i64 0, .int .i64 0] (n * 8)) 33)).cell? ⟨w.heap.size, 0 + i * 8 + j, none⟩ = (#[Value.int .i64 0, .int .i64 0, .int .i64 0, .bool false, .int .i64 0, .bool false, .int .i64 0, .int .i64 0])[j]? := fun j hj => by
    have l : i * 8 + j < n * 8 := by omega
    have : j = 0 ∨ j = 1 ∨ j = 2 ∨ j = 3 ∨ j = 4 ∨ j = 5 ∨ j = 6 ∨ j = 7 := by omega
    rcases this with rfl | rfl | rfl | rfl | rfl | rfl | rfl | rfl <;> simp [go_sem, madeCells] <;> exact ⟨_, by rw [Array.getElem?_range, if_pos (by omega)], by simp [Nat.add_mod]⟩
  exact ⟨c 0 (by omega), c 1 (by omega), c 2 (by omega), c 3 (by omega), c 4 (by omega), c 5 (by omega), c 6 (by omega), c 7 (by omega)⟩
def toR (R : Nat → Rc) (k i : Nat) : Rc := if i < k then R i else zRec
theorem toR_step (R : Nat → Rc) (k i : Nat) : (if i = k then R k else toR R k i) = toR R (k + 1) i := by
  unfold toR
  by_cases e : i = k
  · subst e; simp
  · rw [if_neg e]
    have : (i < k + 1) ↔ (i < k) := by omega
    simp only [this]
set_option maxHeartbeats 2000000 in
theorem toRecS_some (n : Nat) (R : Nat → Rc) (b off cap : Nat) (w : World) (hn : n ≤ 1048576) (hbl : b < w.heap.size) (hc : ∀ i, i < n → C8 w b (off + i * 8) (R i)) :
    Calls Try.prog 18 #[.slice (some ⟨b, off, none⟩) n cap] w fun e w' =>
      e = .returned (.slice (some ⟨w.heap.size, 0, none⟩) n n) ∧ Below w.heap.size w w' ∧ w.heap.size < w'.heap.size ∧ Row8 w' w.heap.size 0 n R := by
  have HC : Hid (∀ i, i < n → C8 w b (off + i * 8) (R i)) := hc
  have hmk := run_make_recs n hn
  clear hc
  go_enter Try.func18, Try.ntmps18
  go_wp2_with fail
  clear hmk
  go_loopw [4] (fun i wr => ∃ k : Nat, k ≤ n ∧ i = .int .i64 k ∧ Hid (Below w.heap.size w wr) ∧ w.heap.size < wr.heap.size ∧ Hid (Row8 wr w.heap.size 0 n (toR R k))) (fun i _ => n - (intOf i).toNat)
  case atStart => exact ⟨0, Nat.zero_le _, rfl, (Below.refl _ _).alloc (Nat.le_refl _) _, by simp, row8_congr (made_recs w n) (fun i _ => by simp [toR])⟩
  case round =>
    obtain ⟨k, hk0, rfl, HB, hsz, HR⟩ := hrel
    by_cases hlt : k < n
    · obtain ⟨x0, x1, x2, x3, x4, x5, x6, x7⟩ := (HC.out k hlt).block (HB.out.block _ hbl)
      obtain ⟨y0, y1, y2, y3, y4, y5, y6, y7⟩ := HR.out.1 k hlt
      have hf := HR.out.2
      have hlt' : (k : Int) < (n : Int) := by omega
      have hk1 : (0 : Int) ≤ (k : Int) := by omega
      generalize hr0 : toR R k k = r0 at *
      go_wp2_with fail
      refine (toRec_any _ _ _ _ _ _ _ _ wr).mono ?_
      rintro e w1 ⟨rfl, hb1⟩
      have HR1 : Hid (Row8 w1 w.heap.size 0 n (toR R k)) := row8_block HR.out (hb1.block _ hsz)
      have HB1 : Hid (Below w.heap.size w w1) := below_then HB.out hb1
      have hs1 : w.heap.size < w1.heap.size := Nat.lt_of_lt_of_le hsz hb1.size
      replace y0 := cell_below y0 hb1
      replace y1 := cell_below y1 hb1
      replace y2 := cell_below y2 hb1
      replace y3 := cell_below y3 hb1
      replace y4 := cell_below y4 hb1
      replace y5 := cell_below y5 hb1
      replace y6 := cell_below y6 hb1
      replace y7 := cell_below y7 hb1
      replace hf := HR1.out.2
      rw [Nat.zero_add] at y0 y1 y2 y3 y4 y5 y6 y7
      clear x0 x1 x2 x3 x4 x5 x6 x7 hb1
      go_wp2_with fail
      go_roundw
      case rel =>
        have HS : Row8 (set8 w1 w.heap.size (0 + k * 8) (R k)) w.heap.size 0 n (toR R (k + 1)) := row8_congr (row8_set hlt HR1.out) (fun i _ => toR_step R k i)
        rw [Nat.zero_add] at HS
        exact ⟨k + 1, hlt, by go_num, set8_below (r := R k) (o := k * 8) HB1.out (Nat.le_refl _), by rw [show ((((((((w1.setCell ⟨w.heap.size, k * 8, none⟩ (.int .i64 (R k).k)).setCell ⟨w.heap.size, k * 8 + 1, none⟩ (.int .i64 (R k).t)).setCell ⟨w.heap.size, k * 8 + 2, none⟩ (.int .i64 (R k).key)).setCell ⟨w.heap.size, k * 8 + 3, none⟩ (.bool (R k).hd)).setCell ⟨w.heap.size, k * 8 + 4, none⟩ (.int .i64 (R k).old)).setCell ⟨w.heap.size, k * 8 + 5, none⟩ (.bool (R k).hs)).setCell ⟨w.heap.size, k * 8 + 6, none⟩ (.int .i64 (R k).nw)).setCell ⟨w.heap.size, k * 8 + 7, none⟩ (.int .i64 (R k).bk)) = set8 w1 w.heap.size (k * 8) (R k) from rfl, set8_size]; exact hs1, HS⟩
      case measure => simp [intOf]; omega
    · have hkn : k = n := by omega
      have HR1 : Hid (Row8 wr w.heap.size 0 n R) := row8_congr HR.out (fun i hi => by simp [toR, hkn, hi])
      have hnl : ¬ ((k : Int) < (n : Int)) := by omega
      go_wp2_with fail
      go_ret
      exact ⟨rfl, HB.out, hsz, HR1.out⟩
theorem madeR_none (zs : Array Value) : madeCells zs (0 * 8) = #[] := by simp [madeCells]
theorem toRecS_zero (a : Option Addr) (cap : Nat) (w : World) :
    Calls Try.prog 18 #[.slice a 0 cap] w fun e w' => e = .returned (.slice (some ⟨w.heap.size, 0, none⟩) 0 0) ∧ Below w.heap.size w w' ∧ w.heap.size < w'.heap.size := by
  have hmk : ∀ w, (Instr.makeSlice 46 (.int .i64 0) (.int .i64 0)).run Try.prog w = .ok (.slice (some ⟨w.heap.size, 0, none⟩) 0 0) (w.alloc (.cells #[] 33)) := fun w => by
    have h := run_make_recs 0 (by omega) w
    rw [madeR_none] at h
    exact h
  go_enter Try.func18, Try.ntmps18
  go_wp2
  go_loop [4] (fun i => i = .int .i64 0) (fun _ => 0)
  case atStart => exact rfl
  case round =>
    obtain rfl := hrel
    go_wp2
    go_ret
    exact ⟨rfl, (Below.refl _ _).alloc (Nat.le_refl _) _, by simp⟩
theorem toRecS_any (n : Nat) (R : Nat → Rc) (a : Option Addr) (cap : Nat) (w : World) (hn : n ≤ 1048576) (h : RecsAt w a n R) :
    Calls Try.prog 18 #[.slice a n cap] w fun e w' => ∃ b,
      e = .returned (.slice (some ⟨b, 0, none⟩) n n) ∧ Below w.heap.size w w' ∧ Own8 w' w.heap.size w'.heap.size (some ⟨b, 0, none⟩) n R := by
  rcases h with rfl | ⟨b, off, rfl, hbl, hc⟩
  · refine (toRecS_zero a cap w).mono ?_
    rintro e w' ⟨rfl, hb, _⟩
    exact ⟨_, rfl, hb, Nat.le_refl _, .inl rfl⟩
  · refine (toRecS_some n R b off cap w hn hbl hc).mono ?_
    rintro e w' ⟨rfl, hb, hsz, hr⟩
    exact ⟨_, rfl, hb, Nat.le_refl _, .inr ⟨_, 0, rfl, Nat.le_refl _, hsz, hr⟩⟩
theorem openRecL {H : Type} {enc : TypeId × Value → H} {W : World} {fuel : Nat} {cs : List Value} {x : DataW H × List MemPlace}
    (h : DataW.trod enc Try.prog W 0 (fun _ => true) true fuel 40 cs = some x) :
    ∃ (a : Option Addr) (n cap : Nat) (R : Nat → Rc), cs = [.slice a n cap] ∧ n ≤ 9223372036854775807 ∧ RecsAt W a n R := by
  rcases open_slice Try.underlying40 h with ⟨rfl, _⟩ | ⟨a, l, c, m, nn, D, Pl, rfl, _, hl, hm, hmm, _, hx⟩
  · exact ⟨none, 0, 0, fun _ => zRec, rfl, by omega, .inl rfl⟩
  · have hmc : m = c := by simpa using hmm
    unfold maxLen at hm
    rw [cells86] at hx
    have each : ∀ i, i < l → ∃ q : Rc, W.cell? (a.add (i * 8)) = some (.int .i64 q.k) ∧ W.cell? (a.add (i * 8 + 1)) = some (.int .i64 q.t) ∧ W.cell? (a.add (i * 8 + 2)) = some (.int .i64 q.key) ∧ W.cell? (a.add (i * 8 + 3)) = some (.bool q.hd) ∧ W.cell? (a.add (i * 8 + 4)) = some (.int .i64 q.old) ∧ W.cell? (a.add (i * 8 + 5)) = some (.bool q.hs) ∧ W.cell? (a.add (i * 8 + 6)) = some (.int .i64 q.nw) ∧ W.cell? (a.add (i * 8 + 7)) = some (.int .i64 q.bk) := fun i hi => by
      obtain ⟨cs', h1, h2⟩ := hx i (by omega)
      obtain ⟨_, hlen, hcell⟩ := World.cells?_some h1
      obtain ⟨k, t, key, hd, old, hs, nw, bk, rfl⟩ := openRecs h2
      have e0 := hcell 0 (by omega)
      have e1 := hcell 1 (by omega)
      have e2 := hcell 2 (by omega)
      have e3 := hcell 3 (by omega)
      have e4 := hcell 4 (by omega)
      have e5 := hcell 5 (by omega)
      have e6 := hcell 6 (by omega)
      have e7 := hcell 7 (by omega)
      rw [add_add] at e0 e1 e2 e3 e4 e5 e6 e7
      exact ⟨⟨k, t, key, hd, old, hs, nw, bk⟩, by simpa using e0, by simpa using e1, by simpa using e2, by simpa using e3, by simpa using e4, by simpa using e5, by simpa using e6, by simpa using e7⟩
    have nonE : Inhabited Rc := ⟨zRec⟩
    obtain ⟨q, hq⟩ := choose_lt each
    refine ⟨some a, l, c, q, rfl, by omega, ?_⟩
    by_cases hz0 : l = 0
    · exact .inl hz0
    · obtain ⟨b, off, spot⟩ := a
      have hc0 := (hq 0 (by omega)).1
      have hspot : spot = none := by simpa [Addr.add] using World.cell?_spot hc0
      subst hspot
      refine .inr ⟨b, off, rfl, Go.block_lt_of_cell hc0, fun i hi => ?_⟩
      obtain ⟨k0, k1, k2, k3, k4, k5, k6, k7⟩ := hq i hi
      rw [add_plain] at k0 k1 k2 k3 k4 k5 k6 k7
      exact ⟨k0, by rw [Nat.add_assoc]; exact k1, by rw [Nat.add_assoc]; exact k2, by rw [Nat.add_assoc]; exact k3, by rw [Nat.add_assoc]; exact k4, by rw [Nat.add_assoc]; exact k5, by rw [Nat.add_assoc]; exact k6, by rw [Nat.add_assoc]; exact k7⟩
end Go.Proofs.Ytppckjecidcflaa
