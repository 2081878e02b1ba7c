/- Rows of records: equal, marked, held; answers that are records. -/
import Derived.Test.YtjggplfhkejbbaaQUt
import Derived.Deep.RegionLaw
namespace Go.Proofs.Ytjggplfhkejbbaa
open Go.RowKit Go.Deep
set_option linter.unusedVariables false
set_option maxRecDepth 20000

/-- A record's eight fields. -/
structure Rc where
  k : Int
  t : Int
  key : Int
  hd : Bool
  old : Int
  hs : Bool
  nw : Int
  bk : Int
/-- Its cells. -/
def C8 (w : World) (b o : Nat) (r : Rc) : Prop :=
  w.cell? ⟨b, o, none⟩ = some (.int .i64 r.k) ∧ w.cell? ⟨b, o + 1, none⟩ = some (.int .i64 r.t) ∧ w.cell? ⟨b, o + 2, none⟩ = some (.int .i64 r.key) ∧ w.cell? ⟨b, o + 3, none⟩ = some (.bool r.hd) ∧
  w.cell? ⟨b, o + 4, none⟩ = some (.int .i64 r.old) ∧ w.cell? ⟨b, o + 5, none⟩ = some (.bool r.hs) ∧ w.cell? ⟨b, o + 6, none⟩ = some (.int .i64 r.nw) ∧ w.cell? ⟨b, o + 7, none⟩ = some (.int .i64 r.bk)
theorem C8.block {w w' : World} {b o : Nat} {r : Rc} (h : C8 w b o r) (e : w'.heap[b]? = w.heap[b]?) : C8 w' b o r := by
  have g : ∀ i, w'.cell? ⟨b, i, none⟩ = w.cell? ⟨b, i, none⟩ := fun i => World.cell?_of_block (w := w) (a := ⟨b, i, none⟩) e
  obtain ⟨h0, h1, h2, h3, h4, h5, h6, h7⟩ := h
  exact ⟨(g _).trans h0, (g _).trans h1, (g _).trans h2, (g _).trans h3, (g _).trans h4, (g _).trans h5, (g _).trans h6, (g _).trans h7⟩
def RecsAt (w : World) (a : Option Addr) (n : Nat) (R : Nat → Rc) : Prop := n = 0 ∨ ∃ b off, a = some ⟨b, off, none⟩ ∧ b < w.heap.size ∧ ∀ i, i < n → C8 w b (off + i * 8) (R i)
def Row8 (w : World) (b off n : Nat) (R : Nat → Rc) : Prop := (∀ i, i < n → C8 w b (off + i * 8) (R i)) ∧ ∀ i, w.frozen? ⟨b, i, none⟩ = false
def Own8 (w : World) (lo hi : Nat) (a : Option Addr) (n : Nat) (R : Nat → Rc) : Prop := hi ≤ w.heap.size ∧ (n = 0 ∨ ∃ b off, a = some ⟨b, off, none⟩ ∧ lo ≤ b ∧ b < hi ∧ Row8 w b off n R)
theorem RecsAt.below {w w' : World} {a : Option Addr} {n : Nat} {R : Nat → Rc} (h : RecsAt w a n R) (hb : Below w.heap.size w w') : RecsAt w' a n R := by
  rcases h with h | ⟨b, off, ha, hl, hc⟩
  · exact .inl h
  · exact .inr ⟨b, off, ha, Nat.lt_of_lt_of_le hl hb.size, fun i hi => (hc i hi).block (hb.block _ hl)⟩
theorem Own8.at {w : World} {lo hi : Nat} {a : Option Addr} {n : Nat} {R : Nat → Rc} (h : Own8 w lo hi a n R) : RecsAt w a n R := by
  obtain ⟨h0, h1 | ⟨b, off, ha, _, hl, hc⟩⟩ := h
  · exact .inl h1
  · exact .inr ⟨b, off, ha, by omega, hc.1⟩
theorem Own8.writes {w w' : World} {lo hi lo' hi' : Nat} {a : Option Addr} {n : Nat} {R : Nat → Rc} (h : Own8 w lo hi a n R) (hw : Writes lo' hi' w w') (hd : hi ≤ lo' ∨ hi' ≤ lo) : Own8 w' lo hi a n R := by
  obtain ⟨h0, h1 | ⟨b, off, ha, h2, hl, hc⟩⟩ := h
  · exact ⟨Nat.le_trans h0 hw.size, .inl h1⟩
  · have hb := hw.block b (by omega) (by omega)
    exact ⟨Nat.le_trans h0 hw.size, .inr ⟨b, off, ha, h2, hl, fun i hi => (hc.1 i hi).block hb, fun i => (World.frozen?_of_block (w := w) (a := ⟨b, i, none⟩) hb).trans (hc.2 i)⟩⟩
theorem Own8.below {w w' : World} {lo hi : Nat} {a : Option Addr} {n : Nat} {R : Nat → Rc} (h : Own8 w lo hi a n R) (hb : Below w.heap.size w w') : Own8 w' lo hi a n R :=
  h.writes (Writes.of_below (lo := hi) (hi := hi) hb) (.inl (Nat.le_refl _))
theorem Own8.wide {w : World} {lo hi lo' hi' : Nat} {a : Option Addr} {n : Nat} {R : Nat → Rc} (h : Own8 w lo hi a n R) (h1 : lo' ≤ lo) (h2 : hi ≤ hi') (h3 : hi' ≤ w.heap.size) : Own8 w lo' hi' a n R := by
  obtain ⟨h0, h4 | ⟨b, off, ha, h5, hl, r⟩⟩ := h
  · exact ⟨h3, .inl h4⟩
  · exact ⟨h3, .inr ⟨b, off, ha, by omega, by omega, r⟩⟩
/-! ### equal -/
theorem drewB6 {w1 w2 : World} (hb : Below w1.drew.heap.size w1.drew w2) : Below w1.heap.size w1 w2 := ((Below.refl _ _).drew).trans hb
/-! ### marked -/
def mR (m : Int) (i : Nat) : Rc := ⟨m + i * 8, m + i * 8 + 1, m + i * 8 + 2, (m + i * 8) % 3 == 0, m + i * 8 + 4, (m + i * 8 + 5) % 3 == 0, m + i * 8 + 6, m + i * 8 + 7⟩
def mkR (m : Int) (R : Nat → Rc) (j i : Nat) : Rc := if i < j then mR m i else R i
def set8 (w : World) (b o : Nat) (r : Rc) : World :=
  (((((((w.setCell ⟨b, o, none⟩ (.int .i64 r.k)).setCell ⟨b, o + 1, none⟩ (.int .i64 r.t)).setCell ⟨b, o + 2, none⟩ (.int .i64 r.key)).setCell ⟨b, o + 3, none⟩ (.bool r.hd)).setCell ⟨b, o + 4, none⟩ (.int .i64 r.old)).setCell ⟨b, o + 5, none⟩ (.bool r.hs)).setCell ⟨b, o + 6, none⟩ (.int .i64 r.nw)).setCell ⟨b, o + 7, none⟩ (.int .i64 r.bk)
theorem set8_far {w : World} {b o o' : Nat} {r : Rc} (h : o' < o ∨ o + 7 < o') : (set8 w b o r).cell? ⟨b, o', none⟩ = w.cell? ⟨b, o', none⟩ := by
  unfold set8
  rw [setO (by omega), setO (by omega), setO (by omega), setO (by omega), setO (by omega), setO (by omega), setO (by omega), setO (by omega)]
theorem set8_same {w : World} {b o : Nat} {r r0 : Rc} (h : C8 w b o r0) : C8 (set8 w b o r) b o r := by
  obtain ⟨h0, h1, h2, h3, h4, h5, h6, h7⟩ := h
  unfold set8
  refine ⟨?_, ?_, ?_, ?_, ?_, ?_, ?_, ?_⟩
  · rw [setO (by omega), setO (by omega), setO (by omega), setO (by omega), setO (by omega), setO (by omega), setO (by omega)]; exact setS h0
  · rw [setO (by omega), setO (by omega), setO (by omega), setO (by omega), setO (by omega), setO (by omega)]; exact setS (by rw [setO (by omega)]; exact h1)
  · rw [setO (by omega), setO (by omega), setO (by omega), setO (by omega), setO (by omega)]; exact setS (by rw [setO (by omega), setO (by omega)]; exact h2)
  · rw [setO (by omega), setO (by omega), setO (by omega), setO (by omega)]; exact setS (by rw [setO (by omega), setO (by omega), setO (by omega)]; exact h3)
  · rw [setO (by omega), setO (by omega), setO (by omega)]; exact setS (by rw [setO (by omega), setO (by omega), setO (by omega), setO (by omega)]; exact h4)
  · rw [setO (by omega), setO (by omega)]; exact setS (by rw [setO (by omega), setO (by omega), setO (by omega), setO (by omega), setO (by omega)]; exact h5)
  · rw [setO (by omega)]; exact setS (by rw [setO (by omega), setO (by omega), setO (by omega), setO (by omega), setO (by omega), setO (by omega)]; exact h6)
  · exact setS (by rw [setO (by omega), setO (by omega), setO (by omega), setO (by omega), setO (by omega), setO (by omega), setO (by omega)]; exact h7)
theorem set8_frozen {w : World} {b o : Nat} {r : Rc} (h : ∀ i, w.frozen? ⟨b, i, none⟩ = false) : ∀ i, (set8 w b o r).frozen? ⟨b, i, none⟩ = false := fun i => by
  unfold set8
  rw [World.frozen?_setCell, World.frozen?_setCell, World.frozen?_setCell, World.frozen?_setCell, World.frozen?_setCell, World.frozen?_setCell, World.frozen?_setCell, World.frozen?_setCell]
  exact h i
theorem set8_writes {lo hi : Nat} {w wr : World} {b o : Nat} {r : Rc} (h : Writes lo hi w wr) (h1 : lo ≤ b) (h2 : b < hi) : Writes lo hi w (set8 wr b o r) := by
  unfold set8
  exact (((((((h.setCell (p := ⟨b, _, none⟩) h1 h2 _).setCell (p := ⟨b, _, none⟩) h1 h2 _).setCell (p := ⟨b, _, none⟩) h1 h2 _).setCell (p := ⟨b, _, none⟩) h1 h2 _).setCell (p := ⟨b, _, none⟩) h1 h2 _).setCell (p := ⟨b, _, none⟩) h1 h2 _).setCell (p := ⟨b, _, none⟩) h1 h2 _).setCell (p := ⟨b, _, none⟩) h1 h2 _
theorem row8_step {w : World} {b off n k : Nat} {R : Nat → Rc} {m : Int} (hlt : k < n) (h : Row8 w b off n (mkR m R k)) : Row8 (set8 w b (off + k * 8) (mR m k)) b off n (mkR m R (k + 1)) := by
  refine ⟨fun i hi => ?_, set8_frozen h.2⟩
  by_cases e : i = k
  · subst e
    have : mkR m R (i + 1) i = mR m i := by simp [mkR]
    rw [this]
    exact set8_same (h.1 i hi)
  · have e2 : mkR m R (k + 1) i = mkR m R k i := by
      have : (i < k + 1) ↔ (i < k) := by omega
      simp only [mkR, this]
    rw [e2]
    have g : ∀ j, j < 8 → (set8 w b (off + k * 8) (mR m k)).cell? ⟨b, off + i * 8 + j, none⟩ = w.cell? ⟨b, off + i * 8 + j, none⟩ := fun j hj => set8_far (by omega)
    obtain ⟨h0, h1, h2, h3, h4, h5, h6, h7⟩ := h.1 i hi
    exact ⟨(g 0 (by omega)).trans h0, (g 1 (by omega)).trans h1, (g 2 (by omega)).trans h2, (g 3 (by omega)).trans h3, (g 4 (by omega)).trans h4, (g 5 (by omega)).trans h5, (g 6 (by omega)).trans h6, (g 7 (by omega)).trans h7⟩
end Go.Proofs.Ytjggplfhkejbbaa
