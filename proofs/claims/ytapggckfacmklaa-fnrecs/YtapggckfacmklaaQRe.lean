/- Draws: a record in a block of its own while it is drawn. -/
import Derived.Test.YtapggckfacmklaaQUt
import Derived.Deep.RegionLaw
import Derived.Test.YtapggckfacmklaaQOpen
import Derived.Laws.AppendOwn
import Derived.OwnWalk
import Derived.Deep.AppendLies
import Derived.Test.YtapggckfacmklaaQByt
namespace Go.Proofs.Ytapggckfacmklaa
open Go.RowKit Go.Deep
set_option linter.unusedVariables false
set_option maxRecDepth 20000
open Go.ChangeShapes Go.WideShapes Go.ChangeAt Go.RowKit Go.Deep Go.Joins

/-- A record's eight fields. -/
structure Rc where
  k : Int
  t : Int
  key : Int
  hd : Bool
  old : Int
  hs : Bool
  nw : Int
  bk : Int
/-- Its cells. -/
def C8 (w : World) (b o : Nat) (r : Rc) : Prop :=
  w.cell? ⟨b, o, none⟩ = some (.int .i64 r.k) ∧ w.cell? ⟨b, o + 1, none⟩ = some (.int .i64 r.t) ∧ w.cell? ⟨b, o + 2, none⟩ = some (.int .i64 r.key) ∧ w.cell? ⟨b, o + 3, none⟩ = some (.bool r.hd) ∧
  w.cell? ⟨b, o + 4, none⟩ = some (.int .i64 r.old) ∧ w.cell? ⟨b, o + 5, none⟩ = some (.bool r.hs) ∧ w.cell? ⟨b, o + 6, none⟩ = some (.int .i64 r.nw) ∧ w.cell? ⟨b, o + 7, none⟩ = some (.int .i64 r.bk)
theorem C8.block {w w' : World} {b o : Nat} {r : Rc} (h : C8 w b o r) (e : w'.heap[b]? = w.heap[b]?) : C8 w' b o r := by
  have g : ∀ i, w'.cell? ⟨b, i, none⟩ = w.cell? ⟨b, i, none⟩ := fun i => World.cell?_of_block (w := w) (a := ⟨b, i, none⟩) e
  obtain ⟨h0, h1, h2, h3, h4, h5, h6, h7⟩ := h
  exact ⟨(g _).trans h0, (g _).trans h1, (g _).trans h2, (g _).trans h3, (g _).trans h4, (g _).trans h5, (g _).trans h6, (g _).trans h7⟩
def RecsAt (w : World) (a : Option Addr) (n : Nat) (R : Nat → Rc) : Prop := n = 0 ∨ ∃ b off, a = some ⟨b, off, none⟩ ∧ b < w.heap.size ∧ ∀ i, i < n → C8 w b (off + i * 8) (R i)
def Row8 (w : World) (b off n : Nat) (R : Nat → Rc) : Prop := (∀ i, i < n → C8 w b (off + i * 8) (R i)) ∧ ∀ i, w.frozen? ⟨b, i, none⟩ = false
def Own8 (w : World) (lo hi : Nat) (a : Option Addr) (n : Nat) (R : Nat → Rc) : Prop := hi ≤ w.heap.size ∧ (n = 0 ∨ ∃ b off, a = some ⟨b, off, none⟩ ∧ lo ≤ b ∧ b < hi ∧ Row8 w b off n R)
theorem RecsAt.below {w w' : World} {a : Option Addr} {n : Nat} {R : Nat → Rc} (h : RecsAt w a n R) (hb : Below w.heap.size w w') : RecsAt w' a n R := by
  rcases h with h | ⟨b, off, ha, hl, hc⟩
  · exact .inl h
  · exact .inr ⟨b, off, ha, Nat.lt_of_lt_of_le hl hb.size, fun i hi => (hc i hi).block (hb.block _ hl)⟩
theorem Own8.at {w : World} {lo hi : Nat} {a : Option Addr} {n : Nat} {R : Nat → Rc} (h : Own8 w lo hi a n R) : RecsAt w a n R := by
  obtain ⟨h0, h1 | ⟨b, off, ha, _, hl, hc⟩⟩ := h
  · exact .inl h1
  · exact .inr ⟨b, off, ha, by omega, hc.1⟩
theorem Own8.writes {w w' : World} {lo hi lo' hi' : Nat} {a : Option Addr} {n : Nat} {R : Nat → Rc} (h : Own8 w lo hi a n R) (hw : Writes lo' hi' w w') (hd : hi ≤ lo' ∨ hi' ≤ lo) : Own8 w' lo hi a n R := by
  obtain ⟨h0, h1 | ⟨b, off, ha, h2, hl, hc⟩⟩ := h
  · exact ⟨Nat.le_trans h0 hw.size, .inl h1⟩
  · have hb := hw.block b (by omega) (by omega)
    exact ⟨Nat.le_trans h0 hw.size, .inr ⟨b, off, ha, h2, hl, fun i hi => (hc.1 i hi).block hb, fun i => (World.frozen?_of_block (w := w) (a := ⟨b, i, none⟩) hb).trans (hc.2 i)⟩⟩
theorem Own8.below {w w' : World} {lo hi : Nat} {a : Option Addr} {n : Nat} {R : Nat → Rc} (h : Own8 w lo hi a n R) (hb : Below w.heap.size w w') : Own8 w' lo hi a n R :=
  h.writes (Writes.of_below (lo := hi) (hi := hi) hb) (.inl (Nat.le_refl _))
theorem Own8.wide {w : World} {lo hi lo' hi' : Nat} {a : Option Addr} {n : Nat} {R : Nat → Rc} (h : Own8 w lo hi a n R) (h1 : lo' ≤ lo) (h2 : hi ≤ hi') (h3 : hi' ≤ w.heap.size) : Own8 w lo' hi' a n R := by
  obtain ⟨h0, h4 | ⟨b, off, ha, h5, hl, r⟩⟩ := h
  · exact ⟨h3, .inl h4⟩
  · exact ⟨h3, .inr ⟨b, off, ha, by omega, by omega, r⟩⟩
/-! ### equal -/
theorem drewB6 {w1 w2 : World} (hb : Below w1.drew.heap.size w1.drew w2) : Below w1.heap.size w1 w2 := ((Below.refl _ _).drew).trans hb
/-! ### marked -/
def mR (m : Int) (i : Nat) : Rc := ⟨m + i * 8, m + i * 8 + 1, m + i * 8 + 2, (m + i * 8) % 3 == 0, m + i * 8 + 4, (m + i * 8 + 5) % 3 == 0, m + i * 8 + 6, m + i * 8 + 7⟩
def mkR (m : Int) (R : Nat → Rc) (j i : Nat) : Rc := if i < j then mR m i else R i
def set8 (w : World) (b o : Nat) (r : Rc) : World :=
  (((((((w.setCell ⟨b, o, none⟩ (.int .i64 r.k)).setCell ⟨b, o + 1, none⟩ (.int .i64 r.t)).setCell ⟨b, o + 2, none⟩ (.int .i64 r.key)).setCell ⟨b, o + 3, none⟩ (.bool r.hd)).setCell ⟨b, o + 4, none⟩ (.int .i64 r.old)).setCell ⟨b, o + 5, none⟩ (.bool r.hs)).setCell ⟨b, o + 6, none⟩ (.int .i64 r.nw)).setCell ⟨b, o + 7, none⟩ (.int .i64 r.bk)
theorem set8_far {w : World} {b o o' : Nat} {r : Rc} (h : o' < o ∨ o + 7 < o') : (set8 w b o r).cell? ⟨b, o', none⟩ = w.cell? ⟨b, o', none⟩ := by
  unfold set8
  rw [setO (by omega), setO (by omega), setO (by omega), setO (by omega), setO (by omega), setO (by omega), setO (by omega), setO (by omega)]
theorem set8_same {w : World} {b o : Nat} {r r0 : Rc} (h : C8 w b o r0) : C8 (set8 w b o r) b o r := by
  obtain ⟨h0, h1, h2, h3, h4, h5, h6, h7⟩ := h
  unfold set8
  refine ⟨?_, ?_, ?_, ?_, ?_, ?_, ?_, ?_⟩
  · rw [setO (by omega), setO (by omega), setO (by omega), setO (by omega), setO (by omega), setO (by omega), setO (by omega)]; exact setS h0
  · rw [setO (by omega), setO (by omega), setO (by omega), setO (by omega), setO (by omega), setO (by omega)]; exact setS (by rw [setO (by omega)]; exact h1)
  · rw [setO (by omega), setO (by omega), setO (by omega), setO (by omega), setO (by omega)]; exact setS (by rw [setO (by omega), setO (by omega)]; exact h2)
  · rw [setO (by omega), setO (by omega), setO (by omega), setO (by omega)]; exact setS (by rw [setO (by omega), setO (by omega), setO (by omega)]; exact h3)
  · rw [setO (by omega), setO (by omega), setO (by omega)]; exact setS (by rw [setO (by omega), setO (by omega), setO (by omega), setO (by omega)]; exact h4)
  · rw [setO (by omega), setO (by omega)]; exact setS (by rw [setO (by omega), setO (by omega), setO (by omega), setO (by omega), setO (by omega)]; exact h5)
  · rw [setO (by omega)]; exact setS (by rw [setO (by omega), setO (by omega), setO (by omega), setO (by omega), setO (by omega), setO (by omega)]; exact h6)
  · exact setS (by rw [setO (by omega), setO (by omega), setO (by omega), setO (by omega), setO (by omega), setO (by omega), setO (by omega)]; exact h7)
theorem set8_frozen {w : World} {b o : Nat} {r : Rc} (h : ∀ i, w.frozen? ⟨b, i, none⟩ = false) : ∀ i, (set8 w b o r).frozen? ⟨b, i, none⟩ = false := fun i => by
  unfold set8
  rw [World.frozen?_setCell, World.frozen?_setCell, World.frozen?_setCell, World.frozen?_setCell, World.frozen?_setCell, World.frozen?_setCell, World.frozen?_setCell, World.frozen?_setCell]
  exact h i
theorem set8_writes {lo hi : Nat} {w wr : World} {b o : Nat} {r : Rc} (h : Writes lo hi w wr) (h1 : lo ≤ b) (h2 : b < hi) : Writes lo hi w (set8 wr b o r) := by
  unfold set8
  exact (((((((h.setCell (p := ⟨b, _, none⟩) h1 h2 _).setCell (p := ⟨b, _, none⟩) h1 h2 _).setCell (p := ⟨b, _, none⟩) h1 h2 _).setCell (p := ⟨b, _, none⟩) h1 h2 _).setCell (p := ⟨b, _, none⟩) h1 h2 _).setCell (p := ⟨b, _, none⟩) h1 h2 _).setCell (p := ⟨b, _, none⟩) h1 h2 _).setCell (p := ⟨b, _, none⟩) h1 h2 _
theorem row8_step {w : World} {b off n k : Nat} {R : Nat → Rc} {m : Int} (hlt : k < n) (h : Row8 w b off n (mkR m R k)) : Row8 (set8 w b (off + k * 8) (mR m k)) b off n (mkR m R (k + 1)) := by
  refine ⟨fun i hi => ?_, set8_frozen h.2⟩
  by_cases e : i = k
  · subst e
    have : mkR m R (i + 1) i = mR m i := by simp [mkR]
    rw [this]
    exact set8_same (h.1 i hi)
  · have e2 : mkR m R (k + 1) i = mkR m R k i := by
      have : (i < k + 1) ↔ (i < k) := by omega
      simp only [mkR, this]
    rw [e2]
    have g : ∀ j, j < 8 → (set8 w b (off + k * 8) (mR m k)).cell? ⟨b, off + i * 8 + j, none⟩ = w.cell? ⟨b, off + i * 8 + j, none⟩ := fun j hj => set8_far (by omega)
    obtain ⟨h0, h1, h2, h3, h4, h5, h6, h7⟩ := h.1 i hi
    exact ⟨(g 0 (by omega)).trans h0, (g 1 (by omega)).trans h1, (g 2 (by omega)).trans h2, (g 3 (by omega)).trans h3, (g 4 (by omega)).trans h4, (g 5 (by omega)).trans h5, (g 6 (by omega)).trans h6, (g 7 (by omega)).trans h7⟩
/-! ### held -/
/-! ### answers that are records -/
/-! ### the records that bytes tell -/
def zR (z : Nat → Int) : Rc := ⟨num z 0 1, num z 1 2, num z 3 1, hdB z, num z 5 2, hsB z, num z 7 2, num z 9 2⟩
theorem rvs_len (z : Nat → Int) : ∀ k, (rvs z k).length = 8 * k
  | 0 => rfl
  | k + 1 => by simp only [rvs, List.length_append, rvs_len z k]; simp [rvl]; omega
theorem rvs_get (z : Nat → Int) : ∀ k i j, i < k → j < 8 → (rvs z k)[8 * i + j]? = (rvl (sh z (13 * i)))[j]?
  | 0, i, j, h, _ => by omega
  | k + 1, i, j, h, hj => by
    simp only [rvs]
    by_cases e : i = k
    · subst e
      rw [List.getElem?_append_right (by rw [rvs_len]; omega), rvs_len]
      congr 1; omega
    · rw [List.getElem?_append_left (by rw [rvs_len]; omega)]
      exact rvs_get z k i j (by omega) hj
theorem own8_of_row {w : World} {base n : Nat} {a : Option Addr} {cap : Nat} {z : Nat → Int} (h : w.ownsRow base 37 8 (.slice a n cap) n (rvs z n)) : Own8 w base w.heap.size a n (fun i => zR (sh z (13 * i))) := by
  rcases h.2 with ⟨e, h0⟩ | ⟨g, cap', cur, e, hbg, hg, _⟩
  · exact ⟨Nat.le_refl _, .inl h0⟩
  · simp only [Value.slice.injEq, true_and] at e
    obtain ⟨rfl, rfl⟩ := e
    have hlt : g < w.heap.size := by
      obtain ⟨hlt, _⟩ := Array.getElem?_eq_some_iff.1 hg
      exact hlt
    refine ⟨Nat.le_refl _, .inr ⟨g, 0, rfl, hbg, hlt, fun i hi => ?_, fun i => h.frozenAt _⟩⟩
    have c : ∀ j v, j < 8 → (rvl (sh z (13 * i)))[j]? = some v → w.cell? ⟨g, 0 + i * 8 + j, none⟩ = some v := fun j v hj hv => by
      rw [h.cellAt (0 + i * 8 + j) (by omega), show 0 + i * 8 + j = 8 * i + j by omega, rvs_get z n i j hi hj, hv]
    exact ⟨c 0 _ (by omega) rfl, c 1 _ (by omega) rfl, c 2 _ (by omega) rfl, c 3 _ (by omega) rfl, c 4 _ (by omega) rfl, c 5 _ (by omega) rfl, c 6 _ (by omega) rfl, c 7 _ (by omega) rfl⟩
theorem set8_below {n : Nat} {w wr : World} {b o : Nat} {r : Rc} (h : Below n w wr) (h1 : n ≤ b) : Below n w (set8 wr b o r) := by
  unfold set8
  exact (((((((h.setCell (p := ⟨b, _, none⟩) h1 _).setCell (p := ⟨b, _, none⟩) h1 _).setCell (p := ⟨b, _, none⟩) h1 _).setCell (p := ⟨b, _, none⟩) h1 _).setCell (p := ⟨b, _, none⟩) h1 _).setCell (p := ⟨b, _, none⟩) h1 _).setCell (p := ⟨b, _, none⟩) h1 _).setCell (p := ⟨b, _, none⟩) h1 _
theorem set8_size {w : World} {b o : Nat} {r : Rc} : (set8 w b o r).heap.size = w.heap.size := by simp [set8, World.setCell]
theorem row8_set {w : World} {b off n k : Nat} {R : Nat → Rc} {r : Rc} (hlt : k < n) (h : Row8 w b off n R) : Row8 (set8 w b (off + k * 8) r) b off n (fun i => if i = k then r else R i) := by
  refine ⟨fun i hi => ?_, set8_frozen h.2⟩
  by_cases e : i = k
  · subst e
    simp only [if_true]
    exact set8_same (h.1 i hi)
  · simp only [if_neg e]
    have g : ∀ j, j < 8 → (set8 w b (off + k * 8) r).cell? ⟨b, off + i * 8 + j, none⟩ = w.cell? ⟨b, off + i * 8 + j, none⟩ := fun j hj => set8_far (by omega)
    obtain ⟨h0, h1, h2, h3, h4, h5, h6, h7⟩ := h.1 i hi
    exact ⟨(g 0 (by omega)).trans h0, (g 1 (by omega)).trans h1, (g 2 (by omega)).trans h2, (g 3 (by omega)).trans h3, (g 4 (by omega)).trans h4, (g 5 (by omega)).trans h5, (g 6 (by omega)).trans h6, (g 7 (by omega)).trans h7⟩
theorem row8_congr {w : World} {b off n : Nat} {R S : Nat → Rc} (h : Row8 w b off n R) (e : ∀ i, i < n → R i = S i) : Row8 w b off n S := ⟨fun i hi => by rw [← e i hi]; exact h.1 i hi, h.2⟩
theorem row8_block {w w' : World} {b off n : Nat} {R : Nat → Rc} (h : Row8 w b off n R) (hb : w'.heap[b]? = w.heap[b]?) : Row8 w' b off n R :=
  ⟨fun i hi => (h.1 i hi).block hb, fun i => (World.frozen?_of_block (w := w) (a := ⟨b, i, none⟩) hb).trans (h.2 i)⟩
theorem run_make_recs (n : Nat) (hn : n ≤ 1048576) (w : World) :
    (Instr.makeSlice 31 (.int .i64 (n : Int)) (.int .i64 (n : Int))).run Try.prog w = .ok (.slice (some ⟨w.heap.size, 0, none⟩) n n) (w.alloc (.cells (madeCells #[.int .i64 0, .int .i64 0, .int .i64 0, .bool false, .int .i64 0, .bool false, .int .i64 0, .int .i64 0] (n * 8)) 37)) := by
  obtain ⟨i, hi, hzz⟩ := Option.map_eq_some_iff.1 info45
  simp only [Prod.mk.injEq] at hzz
  obtain ⟨hz, hs, hb⟩ := hzz
  have hr := run_make (P := Try.prog) w 31 37 i _ Try.underlying31 hi hz .i64 .i64 n n (by omega) (Int.le_refl _) (by rw [hb]; omega) (by omega)
  simp only [Int.toNat_natCast, hs] at hr
  exact hr
def zRec : Rc := ⟨0, 0, 0, false, 0, false, 0, 0⟩
theorem made_recs (w : World) (n : Nat) : Row8 (w.alloc (.cells (madeCells #[.int .i64 0, .int .i64 0, .int .i64 0, .bool false, .int .i64 0, .bool false, .int .i64 0, .int .i64 0] (n * 8)) 37)) w.heap.size 0 n (fun _ => zRec) := by
  refine ⟨fun i hi => ?_, fun i => by simp [go_sem]⟩
  have c : ∀ j, j < 8 → (w.alloc (.cells (madeCells #[.int .i64 0, .int .i64 0, .int .i64 0, .bool false, .int .i64 0, .bool false, .int .i64 0, .int .i64 0] (n * 8)) 37)).cell? ⟨w.heap.size, 0 + i * 8 + j, none⟩ = (#[Value.int .i64 0, .int .i64 0, .int .i64 0, .bool false, .int .i64 0, .bool false, .int .i64 0, .int .i64 0])[j]? := fun j hj => by
    have l : i * 8 + j < n * 8 := by omega
    have : j = 0 ∨ j = 1 ∨ j = 2 ∨ j = 3 ∨ j = 4 ∨ j = 5 ∨ j = 6 ∨ j = 7 := by omega
    rcases this with rfl | rfl | rfl | rfl | rfl | rfl | rfl | rfl <;> simp [go_sem, madeCells] <;> exact ⟨_, by rw [Array.getElem?_range, if_pos (by omega)], by simp [Nat.add_mod]⟩
  exact ⟨c 0 (by omega), c 1 (by omega), c 2 (by omega), c 3 (by omega), c 4 (by omega), c 5 (by omega), c 6 (by omega), c 7 (by omega)⟩
def toR (R : Nat → Rc) (k i : Nat) : Rc := if i < k then R i else zRec
theorem toR_step (R : Nat → Rc) (k i : Nat) : (if i = k then R k else toR R k i) = toR R (k + 1) i := by
  unfold toR
  by_cases e : i = k
  · subst e; simp
  · rw [if_neg e]
    have : (i < k + 1) ↔ (i < k) := by omega
    simp only [this]
theorem madeR_none (zs : Array Value) : madeCells zs (0 * 8) = #[] := by simp [madeCells]
theorem info2 : (Try.prog.info? 2).map (fun i => (i.zero, i.size, i.bytes)) = some (some (.int .i64 0), 1, 8) := by kernel_rfl
/-- Numbers, as values. -/
def ivs (F : Nat → Int) (n : Nat) : List Value := (List.range n).map fun i => .int .i64 (F i)
theorem ivs_len (F : Nat → Int) (n : Nat) : (ivs F n).length = n := by simp [ivs]
theorem ivs_succ (F : Nat → Int) (n : Nat) : ivs F (n + 1) = ivs F n ++ [.int .i64 (F n)] := by simp [ivs, List.range_succ]
/-- The n numbers at 'a'. -/
def IntsAt (w : World) (a : Option Addr) (n : Nat) (F : Nat → Int) : Prop :=
  n = 0 ∨ ∃ b off, a = some ⟨b, off, none⟩ ∧ b < w.heap.size ∧ ∀ i, i < n → w.cell? ⟨b, off + i, none⟩ = some (.int .i64 (F i))
theorem IntsAt.below {w w' : World} {a : Option Addr} {n : Nat} {F : Nat → Int} (h : IntsAt w a n F) (hb : Below w.heap.size w w') : IntsAt w' a n F := by
  rcases h with h | ⟨b, off, ha, hl, hc⟩
  · exact .inl h
  · exact .inr ⟨b, off, ha, Nat.lt_of_lt_of_le hl hb.size, fun i hi => (hb.cell (p := ⟨b, off + i, none⟩) hl).trans (hc i hi)⟩
theorem ints_of_own {w : World} {base n : Nat} {v : Value} {F : Nat → Int} (h : w.ownsRow base 2 1 v n (ivs F n)) : ∃ a cap, v = .slice a n cap ∧ IntsAt w a n F := by
  rcases h.2 with ⟨rfl, h0⟩ | ⟨g, cap, cur, rfl, hbg, hg, _⟩
  · exact ⟨none, 0, by rw [h0], .inl h0⟩
  · have hlt : g < w.heap.size := by
      obtain ⟨hlt, _⟩ := Array.getElem?_eq_some_iff.1 hg
      exact hlt
    refine ⟨_, cap, rfl, .inr ⟨g, 0, rfl, hlt, fun i hi => ?_⟩⟩
    rw [Nat.zero_add, h.cellAt i (by omega)]
    simp [ivs, hi]
theorem one_i64 (z : Int) : ∀ u ∈ [Value.int .i64 z], u.oneCell' = true := by intro u hu; simp at hu; subst hu; rfl
def ik (m : Int) (i : Nat) : Int := m + i
def mki (m : Int) (z : Nat → Int) (j i : Nat) : Int := if i < j then ik m i else z i
def RowI (w : World) (b off n : Nat) (z : Nat → Int) : Prop := (∀ i, i < n → w.cell? ⟨b, off + i, none⟩ = some (.int .i64 (z i))) ∧ (∀ i, i < n → w.frozen? ⟨b, off + i, none⟩ = false)
def OwnI (w : World) (lo hi : Nat) (a : Option Addr) (n : Nat) (z : Nat → Int) : Prop :=
  hi ≤ w.heap.size ∧ (n = 0 ∨ ∃ g off, a = some ⟨g, off, none⟩ ∧ lo ≤ g ∧ g < hi ∧ (∀ i, i < n → w.cell? ⟨g, off + i, none⟩ = some (.int .i64 (z i))) ∧ (∀ i, i < n → w.frozen? ⟨g, off + i, none⟩ = false))
theorem OwnI.at {w : World} {lo hi : Nat} {a : Option Addr} {n : Nat} {z : Nat → Int} (h : OwnI w lo hi a n z) : IntsAt w a n z := by
  obtain ⟨h0, h1 | ⟨g, off, ha, _, hl, hc, _⟩⟩ := h
  · exact .inl h1
  · exact .inr ⟨g, off, ha, by omega, hc⟩
theorem OwnI.writes {w w' : World} {lo hi lo' hi' : Nat} {a : Option Addr} {n : Nat} {z : Nat → Int} (h : OwnI w lo hi a n z) (hw : Writes lo' hi' w w') (hd : hi ≤ lo' ∨ hi' ≤ lo) : OwnI w' lo hi a n z := by
  obtain ⟨h0, h1 | ⟨g, off, ha, h2, hl, hc, hf⟩⟩ := h
  · exact ⟨Nat.le_trans h0 hw.size, .inl h1⟩
  · have hb := hw.block g (by omega) (by omega)
    exact ⟨Nat.le_trans h0 hw.size, .inr ⟨g, off, ha, h2, hl, fun i hi => (World.cell?_of_block (w := w) (a := ⟨g, _, none⟩) hb).trans (hc i hi), fun i hi => (World.frozen?_of_block (w := w) (a := ⟨g, _, none⟩) hb).trans (hf i hi)⟩⟩
theorem OwnI.below {w w' : World} {lo hi : Nat} {a : Option Addr} {n : Nat} {z : Nat → Int} (h : OwnI w lo hi a n z) (hb : Below w.heap.size w w') : OwnI w' lo hi a n z :=
  h.writes (Writes.of_below (lo := hi) (hi := hi) hb) (.inl (Nat.le_refl _))
theorem OwnI.wide {w : World} {lo hi lo' hi' : Nat} {a : Option Addr} {n : Nat} {z : Nat → Int} (h : OwnI w lo hi a n z) (h1 : lo' ≤ lo) (h2 : hi ≤ hi') (h3 : hi' ≤ w.heap.size) : OwnI w lo' hi' a n z := by
  obtain ⟨h0, h4 | ⟨g, off, ha, h5, hl, r⟩⟩ := h
  · exact ⟨h3, .inl h4⟩
  · exact ⟨h3, .inr ⟨g, off, ha, by omega, by omega, r⟩⟩
theorem rowI_step {w : World} {b off n k : Nat} {z : Nat → Int} {m : Int} (hlt : k < n) (h : RowI w b off n (mki m z k)) : RowI (w.setCell ⟨b, off + k, none⟩ (.int .i64 (m + k))) b off n (mki m z (k + 1)) := by
  obtain ⟨hc, hf⟩ := h
  refine ⟨fun i hi => ?_, fun i hi => ?_⟩
  · by_cases e : i = k
    · subst e; rw [setS (hc i hi)]; simp [mki, ik]
    · rw [setO (by omega), hc i hi]
      have : (i < k + 1) ↔ (i < k) := by omega
      simp only [mki, this]
  · rw [World.frozen?_setCell]; exact hf i hi
/-! ### a list of numbers that grows -/
def il (zs : List Int) : List Value := zs.map (Value.int .i64)
theorem il_len (zs : List Int) : (il zs).length = zs.length := by simp [il]
theorem il_app (zs ys : List Int) : il (zs ++ ys) = il zs ++ il ys := by simp [il]
def zI (zs : List Int) (i : Nat) : Int := zs.getD i 0
theorem ownI_of_row {w : World} {base : Nat} {v : Value} {zs : List Int} (h : w.ownsRow base 2 1 v zs.length (il zs)) : ∃ a cap, v = .slice a zs.length cap ∧ OwnI w base w.heap.size a zs.length (zI zs) := by
  rcases h.2 with ⟨rfl, h0⟩ | ⟨g, cap, cur, rfl, hbg, hg, hnc, hcm, hcs, htake⟩
  · exact ⟨none, 0, by rw [h0], Nat.le_refl _, .inl h0⟩
  · have hlt : g < w.heap.size := by
      obtain ⟨hlt, _⟩ := Array.getElem?_eq_some_iff.1 hg
      exact hlt
    refine ⟨some ⟨g, 0, none⟩, cap, rfl, Nat.le_refl _, .inr ⟨g, 0, rfl, hbg, hlt, fun i hi => ?_, fun i hi => h.frozenAt _⟩⟩
    have := h.cellAt i (by omega)
    rw [Nat.zero_add, this]
    simp [il, hi, zI]
/-- An answer that is a list of numbers (or a code). -/
def IRes (c : Int) (zs : List Int) (w : World) (e : Ending) (w' : World) : Prop :=
  ∃ a cap, e = .returned (.agg #[.int .i64 c, .slice a (if c = 0 then zs else []).length cap]) ∧ Below w.heap.size w w' ∧ OwnI w' w.heap.size w'.heap.size a (if c = 0 then zs else []).length (zI (if c = 0 then zs else []))
theorem ires_bad {c : Int} {zs : List Int} {w w' : World} (hb : Below w.heap.size w w') (hc : c ≠ 0) : IRes c zs w (.returned (.agg #[.int .i64 c, .slice none 0 0])) w' := by
  rw [IRes]
  simp only [if_neg hc]
  exact ⟨none, 0, rfl, hb, Nat.le_refl _, .inl rfl⟩
theorem ires_ok {c : Int} {zs : List Int} {w wq w' : World} {v : Value} {lo l h : Nat} (hc : c = 0) (hB : Below w.heap.size w wq) (hl : w.heap.size ≤ l) (hlh : l ≤ h) (hh : h ≤ lo)
    (ho : wq.ownsRow lo 2 1 v zs.length (il zs)) (hw : Writes l h wq w') (hs : w'.heap.size = wq.heap.size) : IRes c zs w (.returned (.agg #[.int .i64 0, v])) w' := by
  rw [IRes, hc]
  simp only [if_true]
  obtain ⟨a, cap, rfl, ho2⟩ := ownI_of_row ho
  refine ⟨a, cap, rfl, Writes.below hB hw hl, ?_⟩
  rw [hs]
  exact (ho2.writes hw (.inr hh)).wide (by omega) (Nat.le_refl _) (by omega)
theorem l1Source_any (a : Option Addr) (k cap : Nat) (z : Nat → Int) (w : World) (hk : k ≤ 1048576) (hz : Byt k z) (h : BytesAt w a k z) :
    Calls Try.prog 18 #[.slice a k cap] w fun e w' => e = .returned (.pointer (some ⟨w.heap.size, 0, none⟩)) ∧ Below w.heap.size w w' ∧ w'.heap.size = w.heap.size + 1 ∧ Src w' w.heap.size a k cap z 0 := by
  have HX : Hid (∀ o : Obj, o = .cells #[.slice a k cap, .int .i64 0] 65 → Src (w.alloc o) w.heap.size a k cap z 0) := by
    rintro o rfl
    refine ⟨by simp [go_sem], by simp [go_sem], fun i => by simp [go_sem], h.below (below_new _ _), fun b off e => ?_, hz, hk⟩
    rcases h with h | ⟨b', off', e', hl, _⟩
    · exact .inl h
    · rw [e] at e'
      simp only [Option.some.injEq, Addr.mk.injEq, and_true] at e'
      exact .inr (by omega)
  clear h hz
  go_enter Try.func18, Try.ntmps18
  go_wp2_with fail
  go_ret
  exact ⟨rfl, below_new _ _, World.size_alloc _ _, HX.out _ rfl⟩
theorem l1Chance_any (S : Nat) (a : Option Addr) (k cap : Nat) (z : Nat → Int) (t : Nat) (n : Int) (w : World) (ht : t ≤ 1000000) (hn : n ≤ 1000000) (h : Src w S a k cap z t) :
    Calls Try.prog 40 #[.pointer (some ⟨S, 0, none⟩), .int .i64 n] w fun e w' => ∃ b : Bool, e = .returned (.bool b) ∧ Nx S a k cap z (t + 1) w w' := by
  have HS : Hid (Src w S a k cap z t) := h
  clear h
  go_enter Try.func40, Try.ntmps40
  go_wp2_with fail
  refine (l1Next_any S a k cap z t n w ht hn HS.out).mono ?_
  rintro e w1 ⟨v, rfl, -, hnx⟩
  have HN : Hid (Nx S a k cap z (t + 1) w w1) := hnx
  clear hnx
  go_wp2_with fail
  go_ret
  exact ⟨_, rfl, HN.out⟩
theorem l1Pick_any (S : Nat) (a : Option Addr) (k cap : Nat) (z : Nat → Int) (t : Nat) (b off m c : Nat) (F : Nat → Int) (w : World) (ht : t ≤ 1000000) (hm0 : 1 ≤ m) (hm : m ≤ 100) (hb : b ≠ S) (hl : b < w.heap.size) (hc : ∀ i, i < m → w.cell? ⟨b, off + i, none⟩ = some (.int .i64 (F i))) (h : Src w S a k cap z t) :
    Calls Try.prog 20 #[.pointer (some ⟨S, 0, none⟩), .slice (some ⟨b, off, none⟩) m c] w fun e w' => ∃ i : Nat, i < m ∧ e = .returned (.int .i64 (F i)) ∧ Nx S a k cap z (t + 1) w w' := by
  have HS : Hid (Src w S a k cap z t) := h
  have HC : Hid (∀ i, i < m → w.cell? ⟨b, off + i, none⟩ = some (.int .i64 (F i))) := hc
  clear h hc
  go_enter Try.func20, Try.ntmps20
  go_wp2_with fail
  refine (l1Next_any S a k cap z t (m : Int) w ht (by omega) HS.out).mono ?_
  rintro e w1 ⟨v, rfl, hv, hnx⟩
  have HN : Hid (Nx S a k cap z (t + 1) w w1) := hnx
  obtain ⟨hv0, hv1, -⟩ := hv
  obtain ⟨i, rfl⟩ : ∃ i : Nat, v = (i : Int) := ⟨v.toNat, by omega⟩
  have hi : i < m := by have := hv1 (by omega); omega
  have hi1 : (i : Int) < (m : Int) := by omega
  have hi0 : (0 : Int) ≤ (i : Int) := by omega
  have hx : w1.cell? ⟨b, off + i, none⟩ = some (.int .i64 (F i)) := (hnx.1.cell hl (by omega) _).trans (HC.out i hi)
  have HI : Hid (i < m) := hi
  clear hnx hv0 hv1 hi
  generalize hFi : F i = fi at *
  have HFI : Hid (F i = fi) := hFi
  clear hFi
  go_wp2_with fail
  go_ret
  exact ⟨i, HI.out, ret_int HFI.out.symm, HN.out⟩
/-- What several choices leave: only the source is written. -/
def Dw (S : Nat) (a : Option Addr) (k cap : Nat) (z : Nat → Int) (t : Nat) (w w' : World) : Prop := Writes S (S + 1) w w' ∧ Src w' S a k cap z t
theorem Nx.dw {S : Nat} {a : Option Addr} {k cap : Nat} {z : Nat → Int} {t : Nat} {w w' : World} (h : Nx S a k cap z t w w') : Dw S a k cap z t w w' := ⟨h.1, h.2.2⟩
theorem Dw.src {S : Nat} {a : Option Addr} {k cap : Nat} {z : Nat → Int} {t : Nat} {w w' : World} (h : Dw S a k cap z t w w') : Src w' S a k cap z t := h.2
theorem Dw.trans {S : Nat} {a : Option Addr} {k cap : Nat} {z : Nat → Int} {t t' : Nat} {w w' w'' : World} (h : Dw S a k cap z t w w') (g : Dw S a k cap z t' w' w'') : Dw S a k cap z t' w w'' := ⟨h.1.trans g.1, g.2⟩
theorem Dw.below {S : Nat} {a : Option Addr} {k cap : Nat} {z : Nat → Int} {t : Nat} {w w' w'' : World} (h : Dw S a k cap z t w w') (g : Below w'.heap.size w' w'') : Dw S a k cap z t w w'' := ⟨h.1.trans (Writes.of_below g), h.2.below g⟩
theorem Src.lt {w : World} {S : Nat} {a : Option Addr} {k cap : Nat} {z : Nat → Int} {t : Nat} (h : Src w S a k cap z t) : S < w.heap.size := Go.block_lt_of_cell h.c0
theorem Src.self {w : World} {S : Nat} {a : Option Addr} {k cap : Nat} {z : Nat → Int} {t : Nat} (h : Src w S a k cap z t) : Dw S a k cap z t w w := ⟨Writes.refl _ _ _, h⟩

theorem l1DrawKey_any (S : Nat) (a : Option Addr) (k cap : Nat) (z : Nat → Int) (t : Nat) (w : World) (ht : t ≤ 999990) (h : Src w S a k cap z t) :
    Calls Try.prog 55 #[.pointer (some ⟨S, 0, none⟩)] w fun e w' => ∃ v : Int, e = .returned (.int .i64 v) ∧ (0 ≤ v ∧ v < 32) ∧ Dw S a k cap z (t + 4) w w' := by
  have HS : Hid (Src w S a k cap z t) := h
  clear h
  go_enter Try.func55, Try.ntmps55
  go_wp2_with fail
  refine (l1Next_any S a k cap z t 8 w (by omega) (by omega) HS.out).mono ?_
  rintro e w1 ⟨v1, rfl, hv1, hn1⟩
  have HN1 : Hid (Dw S a k cap z (t + 1) w w1) := hn1.dw
  have HV1 : Hid (NxA 8 v1) := hv1
  clear hn1 hv1
  go_wp2_with fail
  refine (l1Next_any S a k cap z (t + 1) 8 w1 (by omega) (by omega) HN1.out.src).mono ?_
  rintro e w2 ⟨v2, rfl, hv2, hn2⟩
  have HN2 : Hid (Dw S a k cap z (t + 2) w w2) := HN1.out.trans hn2.dw
  have HV2 : Hid (NxA 8 v2) := hv2
  clear hn2 hv2
  go_wp2_with fail
  refine (l1Next_any S a k cap z (t + 2) 32 w2 (by omega) (by omega) HN2.out.src).mono ?_
  rintro e w3 ⟨v3, rfl, hv3, hn3⟩
  have HN3 : Hid (Dw S a k cap z (t + 3) w w3) := HN2.out.trans hn3.dw
  have HV3 : Hid (NxA 32 v3) := hv3
  clear hn3 hv3
  go_wp2_with fail
  have hb : Below w3.heap.size w3 (w3.alloc (.cells #[.int .i64 v1, .int .i64 v2, .int .i64 v3] 2)) := below_new _ _
  have HN4 : Hid (Dw S a k cap z (t + 3) w (w3.alloc (.cells #[.int .i64 v1, .int .i64 v2, .int .i64 v3] 2))) := HN3.out.below hb
  have hS : S < w3.heap.size := HN3.out.src.lt
  refine (l1Pick_any S a k cap z (t + 3) w3.heap.size 0 3 3 (fun i => if i = 0 then v1 else if i = 1 then v2 else v3) _ (by omega) (by omega) (by omega) (by omega) (by simp [go_sem]) (fun i hi => ?_) HN4.out.src).mono ?_
  · rcases i with - | - | - | i
    · simp [go_sem]
    · simp [go_sem]
    · simp [go_sem]
    · omega
  rintro e w4 ⟨i, hi, rfl, hn4⟩
  have HN5 : Hid (Dw S a k cap z (t + 4) w w4) := HN4.out.trans hn4.dw
  have HVV : Hid (0 ≤ (if i = 0 then v1 else if i = 1 then v2 else v3) ∧ (if i = 0 then v1 else if i = 1 then v2 else v3) < 32) := by
    obtain ⟨a1, b1, -⟩ := HV1.out
    obtain ⟨a2, b2, -⟩ := HV2.out
    obtain ⟨a3, b3, -⟩ := HV3.out
    have b1 := b1 (by omega)
    have b2 := b2 (by omega)
    have b3 := b3 (by omega)
    refine ⟨?_, ?_⟩ <;> (split <;> (try split) <;> omega)
  clear hn4 hi hb hS
  revert HVV
  show Hid (0 ≤ (if i = 0 then v1 else if i = 1 then v2 else v3) ∧ (if i = 0 then v1 else if i = 1 then v2 else v3) < 32) → _
  generalize (if i = 0 then v1 else if i = 1 then v2 else v3) = r
  intro HVV
  go_wp2_with fail
  go_ret
  exact ⟨r, rfl, HVV.out, HN5.out⟩
/-- A record in block B. -/
structure RB (w : World) (B : Nat) (r : Rc) : Prop where
  c0 : w.cell? ⟨B, 0, none⟩ = some (.int .i64 r.k)
  c1 : w.cell? ⟨B, 1, none⟩ = some (.int .i64 r.t)
  c2 : w.cell? ⟨B, 2, none⟩ = some (.int .i64 r.key)
  c3 : w.cell? ⟨B, 3, none⟩ = some (.bool r.hd)
  c4 : w.cell? ⟨B, 4, none⟩ = some (.int .i64 r.old)
  c5 : w.cell? ⟨B, 5, none⟩ = some (.bool r.hs)
  c6 : w.cell? ⟨B, 6, none⟩ = some (.int .i64 r.nw)
  c7 : w.cell? ⟨B, 7, none⟩ = some (.int .i64 r.bk)
  f : ∀ i, w.frozen? ⟨B, i, none⟩ = false
theorem RB.block {w w' : World} {B : Nat} {r : Rc} (h : RB w B r) (e : w'.heap[B]? = w.heap[B]?) : RB w' B r := by
  have g : ∀ i, w'.cell? ⟨B, i, none⟩ = w.cell? ⟨B, i, none⟩ := fun i => World.cell?_of_block (w := w) (a := ⟨B, i, none⟩) e
  exact ⟨(g _).trans h.c0, (g _).trans h.c1, (g _).trans h.c2, (g _).trans h.c3, (g _).trans h.c4, (g _).trans h.c5, (g _).trans h.c6, (g _).trans h.c7, fun i => (World.frozen?_of_block (w := w) (a := ⟨B, i, none⟩) e).trans (h.f i)⟩
theorem RB.lt {w : World} {B : Nat} {r : Rc} (h : RB w B r) : B < w.heap.size := Go.block_lt_of_cell h.c0
def zR8 : Rc := ⟨0, 0, 0, false, 0, false, 0, 0⟩
/-- A record is drawn: the answer's box is the first new block, the record lies in B3. -/
structure RS (S : Nat) (a : Option Addr) (k cap : Nat) (z : Nat → Int) (t : Nat) (w0 w : World) (B3 : Nat) (r : Rc) : Prop where
  d : Dw S a k cap z t w0 w
  b2 : RB w w0.heap.size zR8
  b3 : RB w B3 r
  lt : w0.heap.size < B3
  s : S < w0.heap.size
theorem RS.call {S : Nat} {a : Option Addr} {k cap : Nat} {z : Nat → Int} {t t' : Nat} {w0 w w' : World} {B3 : Nat} {r : Rc} (h : RS S a k cap z t w0 w B3 r) (g : Dw S a k cap z t' w w') : RS S a k cap z t' w0 w' B3 r :=
  ⟨h.d.trans g, h.b2.block (g.1.block _ h.b2.lt (by have := h.s; omega)), h.b3.block (g.1.block _ h.b3.lt (by have := h.s; have := h.lt; omega)), h.lt, h.s⟩
theorem RS.below {S : Nat} {a : Option Addr} {k cap : Nat} {z : Nat → Int} {t : Nat} {w0 w w' : World} {B3 : Nat} {r : Rc} (h : RS S a k cap z t w0 w B3 r) (g : Below w.heap.size w w') : RS S a k cap z t w0 w' B3 r :=
  ⟨h.d.below g, h.b2.block (g.block _ h.b2.lt), h.b3.block (g.block _ h.b3.lt), h.lt, h.s⟩
theorem Dw.over {S : Nat} {a : Option Addr} {k cap : Nat} {z : Nat → Int} {t : Nat} {w0 w w' : World} (h : Dw S a k cap z t w0 w) (g : Below w0.heap.size w w') (hs : S < w0.heap.size) : Dw S a k cap z t w0 w' := by
  have hS := g.block S hs
  have e : ∀ i, w'.cell? ⟨S, i, none⟩ = w.cell? ⟨S, i, none⟩ := fun i => World.cell?_of_block (w := w) (a := ⟨S, i, none⟩) hS
  have h2 := h.2
  refine ⟨⟨g.os.trans h.1.os, g.tape.trans h.1.tape, g.output.trans h.1.output, Nat.le_trans h.1.size g.size, fun i hi hd => (g.block i hi).trans (h.1.block i hi hd)⟩, (e 0).trans h2.c0, (e 1).trans h2.c1, fun i => (World.frozen?_of_block (w := w) (a := ⟨S, i, none⟩) hS).trans (h2.f i), ?_, h2.far, h2.byt, h2.len⟩
  rcases h2.b with e | ⟨b, off, rfl, hl, hc⟩
  · exact .inl e
  · rcases h2.far b off rfl with e | e
    · exact .inl e
    · exact .inr ⟨b, off, rfl, Nat.lt_of_lt_of_le hl g.size, fun i hi => (World.cell?_of_block (w := w) (a := ⟨b, off + i, none⟩) (g.block b (by omega))).trans (hc i hi)⟩
theorem RS.put {S : Nat} {a : Option Addr} {k cap : Nat} {z : Nat → Int} {t : Nat} {w0 w : World} {B3 : Nat} {r r' : Rc} (h : RS S a k cap z t w0 w B3 r) (j : Nat) (v : Value) (hr : RB (w.setCell ⟨B3, j, none⟩ v) B3 r') : RS S a k cap z t w0 (w.setCell ⟨B3, j, none⟩ v) B3 r' :=
  ⟨h.d.over ((Below.refl _ _).setCell (p := ⟨B3, j, none⟩) (Nat.le_of_lt h.lt) v) h.s, h.b2.block (Below.heap_setCell _ _ _ _ (by have := h.lt; show w0.heap.size ≠ B3; omega)), hr, h.lt, h.s⟩
theorem RB.put0 {w : World} {B : Nat} {r : Rc} (h : RB w B r) (x : Int) : RB (w.setCell ⟨B, 0, none⟩ (.int .i64 x)) B { r with k := x } :=
  ⟨by have := h.c0; simp [go_sem, this], by rw [World.cell?_setCell_other _ _ _ _ (by simp)]; exact h.c1, by rw [World.cell?_setCell_other _ _ _ _ (by simp)]; exact h.c2, by rw [World.cell?_setCell_other _ _ _ _ (by simp)]; exact h.c3, by rw [World.cell?_setCell_other _ _ _ _ (by simp)]; exact h.c4, by rw [World.cell?_setCell_other _ _ _ _ (by simp)]; exact h.c5, by rw [World.cell?_setCell_other _ _ _ _ (by simp)]; exact h.c6, by rw [World.cell?_setCell_other _ _ _ _ (by simp)]; exact h.c7, fun i => by rw [World.frozen?_setCell]; exact h.f i⟩
theorem RB.put1 {w : World} {B : Nat} {r : Rc} (h : RB w B r) (x : Int) : RB (w.setCell ⟨B, 1, none⟩ (.int .i64 x)) B { r with t := x } :=
  ⟨by rw [World.cell?_setCell_other _ _ _ _ (by simp)]; exact h.c0, by have := h.c1; simp [go_sem, this], by rw [World.cell?_setCell_other _ _ _ _ (by simp)]; exact h.c2, by rw [World.cell?_setCell_other _ _ _ _ (by simp)]; exact h.c3, by rw [World.cell?_setCell_other _ _ _ _ (by simp)]; exact h.c4, by rw [World.cell?_setCell_other _ _ _ _ (by simp)]; exact h.c5, by rw [World.cell?_setCell_other _ _ _ _ (by simp)]; exact h.c6, by rw [World.cell?_setCell_other _ _ _ _ (by simp)]; exact h.c7, fun i => by rw [World.frozen?_setCell]; exact h.f i⟩
theorem RB.put2 {w : World} {B : Nat} {r : Rc} (h : RB w B r) (x : Int) : RB (w.setCell ⟨B, 2, none⟩ (.int .i64 x)) B { r with key := x } :=
  ⟨by rw [World.cell?_setCell_other _ _ _ _ (by simp)]; exact h.c0, by rw [World.cell?_setCell_other _ _ _ _ (by simp)]; exact h.c1, by have := h.c2; simp [go_sem, this], by rw [World.cell?_setCell_other _ _ _ _ (by simp)]; exact h.c3, by rw [World.cell?_setCell_other _ _ _ _ (by simp)]; exact h.c4, by rw [World.cell?_setCell_other _ _ _ _ (by simp)]; exact h.c5, by rw [World.cell?_setCell_other _ _ _ _ (by simp)]; exact h.c6, by rw [World.cell?_setCell_other _ _ _ _ (by simp)]; exact h.c7, fun i => by rw [World.frozen?_setCell]; exact h.f i⟩
theorem RB.put3 {w : World} {B : Nat} {r : Rc} (h : RB w B r) (x : Bool) : RB (w.setCell ⟨B, 3, none⟩ (.bool x)) B { r with hd := x } :=
  ⟨by rw [World.cell?_setCell_other _ _ _ _ (by simp)]; exact h.c0, by rw [World.cell?_setCell_other _ _ _ _ (by simp)]; exact h.c1, by rw [World.cell?_setCell_other _ _ _ _ (by simp)]; exact h.c2, by have := h.c3; simp [go_sem, this], by rw [World.cell?_setCell_other _ _ _ _ (by simp)]; exact h.c4, by rw [World.cell?_setCell_other _ _ _ _ (by simp)]; exact h.c5, by rw [World.cell?_setCell_other _ _ _ _ (by simp)]; exact h.c6, by rw [World.cell?_setCell_other _ _ _ _ (by simp)]; exact h.c7, fun i => by rw [World.frozen?_setCell]; exact h.f i⟩
theorem RB.put4 {w : World} {B : Nat} {r : Rc} (h : RB w B r) (x : Int) : RB (w.setCell ⟨B, 4, none⟩ (.int .i64 x)) B { r with old := x } :=
  ⟨by rw [World.cell?_setCell_other _ _ _ _ (by simp)]; exact h.c0, by rw [World.cell?_setCell_other _ _ _ _ (by simp)]; exact h.c1, by rw [World.cell?_setCell_other _ _ _ _ (by simp)]; exact h.c2, by rw [World.cell?_setCell_other _ _ _ _ (by simp)]; exact h.c3, by have := h.c4; simp [go_sem, this], by rw [World.cell?_setCell_other _ _ _ _ (by simp)]; exact h.c5, by rw [World.cell?_setCell_other _ _ _ _ (by simp)]; exact h.c6, by rw [World.cell?_setCell_other _ _ _ _ (by simp)]; exact h.c7, fun i => by rw [World.frozen?_setCell]; exact h.f i⟩
theorem RB.put5 {w : World} {B : Nat} {r : Rc} (h : RB w B r) (x : Bool) : RB (w.setCell ⟨B, 5, none⟩ (.bool x)) B { r with hs := x } :=
  ⟨by rw [World.cell?_setCell_other _ _ _ _ (by simp)]; exact h.c0, by rw [World.cell?_setCell_other _ _ _ _ (by simp)]; exact h.c1, by rw [World.cell?_setCell_other _ _ _ _ (by simp)]; exact h.c2, by rw [World.cell?_setCell_other _ _ _ _ (by simp)]; exact h.c3, by rw [World.cell?_setCell_other _ _ _ _ (by simp)]; exact h.c4, by have := h.c5; simp [go_sem, this], by rw [World.cell?_setCell_other _ _ _ _ (by simp)]; exact h.c6, by rw [World.cell?_setCell_other _ _ _ _ (by simp)]; exact h.c7, fun i => by rw [World.frozen?_setCell]; exact h.f i⟩
theorem RB.put6 {w : World} {B : Nat} {r : Rc} (h : RB w B r) (x : Int) : RB (w.setCell ⟨B, 6, none⟩ (.int .i64 x)) B { r with nw := x } :=
  ⟨by rw [World.cell?_setCell_other _ _ _ _ (by simp)]; exact h.c0, by rw [World.cell?_setCell_other _ _ _ _ (by simp)]; exact h.c1, by rw [World.cell?_setCell_other _ _ _ _ (by simp)]; exact h.c2, by rw [World.cell?_setCell_other _ _ _ _ (by simp)]; exact h.c3, by rw [World.cell?_setCell_other _ _ _ _ (by simp)]; exact h.c4, by rw [World.cell?_setCell_other _ _ _ _ (by simp)]; exact h.c5, by have := h.c6; simp [go_sem, this], by rw [World.cell?_setCell_other _ _ _ _ (by simp)]; exact h.c7, fun i => by rw [World.frozen?_setCell]; exact h.f i⟩
theorem RB.put7 {w : World} {B : Nat} {r : Rc} (h : RB w B r) (x : Int) : RB (w.setCell ⟨B, 7, none⟩ (.int .i64 x)) B { r with bk := x } :=
  ⟨by rw [World.cell?_setCell_other _ _ _ _ (by simp)]; exact h.c0, by rw [World.cell?_setCell_other _ _ _ _ (by simp)]; exact h.c1, by rw [World.cell?_setCell_other _ _ _ _ (by simp)]; exact h.c2, by rw [World.cell?_setCell_other _ _ _ _ (by simp)]; exact h.c3, by rw [World.cell?_setCell_other _ _ _ _ (by simp)]; exact h.c4, by rw [World.cell?_setCell_other _ _ _ _ (by simp)]; exact h.c5, by rw [World.cell?_setCell_other _ _ _ _ (by simp)]; exact h.c6, by have := h.c7; simp [go_sem, this], fun i => by rw [World.frozen?_setCell]; exact h.f i⟩
end Go.Proofs.Ytapggckfacmklaa
