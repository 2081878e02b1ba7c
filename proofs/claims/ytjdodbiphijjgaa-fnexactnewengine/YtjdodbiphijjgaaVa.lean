/- Rows of versions: what they hold, by the index; the laws' own helpers over them: copies, equal. -/
import Derived.Test.YtjdodbiphijjgaaFault
import Derived.Deep.RegionLaw
import Derived.Lib.SmallJoins
namespace Go.Proofs.Ytjdodbiphijjgaa
open Go.RowKit Go.Deep
set_option linter.unusedVariables false
set_option maxRecDepth 20000

/-- A version's four fields. -/
structure Vr where
  t : Int
  a : Int
  g : Bool
  v : Int
/-- Its cells. -/
def C4 (w : World) (b o : Nat) (r : Vr) : Prop :=
  w.cell? ⟨b, o, none⟩ = some (.int .i64 r.t) ∧ w.cell? ⟨b, o + 1, none⟩ = some (.int .i64 r.a) ∧ w.cell? ⟨b, o + 2, none⟩ = some (.bool r.g) ∧ w.cell? ⟨b, o + 3, none⟩ = some (.int .i64 r.v)
theorem C4.block {w w' : World} {b o : Nat} {r : Vr} (h : C4 w b o r) (e : w'.heap[b]? = w.heap[b]?) : C4 w' b o r := by
  have g : ∀ i, w'.cell? ⟨b, i, none⟩ = w.cell? ⟨b, i, none⟩ := fun i => World.cell?_of_block (w := w) (a := ⟨b, i, none⟩) e
  obtain ⟨h0, h1, h2, h3⟩ := h
  exact ⟨(g _).trans h0, (g _).trans h1, (g _).trans h2, (g _).trans h3⟩
/-- The slice at 'a' has the n versions R. -/
def VersAt (w : World) (a : Option Addr) (n : Nat) (R : Nat → Vr) : Prop := n = 0 ∨ ∃ b off, a = some ⟨b, off, none⟩ ∧ b < w.heap.size ∧ ∀ i, i < n → C4 w b (off + i * 4) (R i)
def Row4 (w : World) (b off n : Nat) (R : Nat → Vr) : Prop := (∀ i, i < n → C4 w b (off + i * 4) (R i)) ∧ ∀ i, w.frozen? ⟨b, i, none⟩ = false
def Own4 (w : World) (lo hi : Nat) (a : Option Addr) (n : Nat) (R : Nat → Vr) : Prop := hi ≤ w.heap.size ∧ (n = 0 ∨ ∃ b off, a = some ⟨b, off, none⟩ ∧ lo ≤ b ∧ b < hi ∧ Row4 w b off n R)
theorem VersAt.below {w w' : World} {a : Option Addr} {n : Nat} {R : Nat → Vr} (h : VersAt w a n R) (hb : Below w.heap.size w w') : VersAt w' a n R := by
  rcases h with h | ⟨b, off, ha, hl, hc⟩
  · exact .inl h
  · exact .inr ⟨b, off, ha, Nat.lt_of_lt_of_le hl hb.size, fun i hi => (hc i hi).block (hb.block _ hl)⟩
theorem VersAt.congr {w : World} {a : Option Addr} {n : Nat} {R S : Nat → Vr} (h : VersAt w a n R) (e : ∀ i, i < n → R i = S i) : VersAt w a n S := by
  rcases h with h | ⟨b, off, ha, hl, hc⟩
  · exact .inl h
  · exact .inr ⟨b, off, ha, hl, fun i hi => by rw [← e i hi]; exact hc i hi⟩
theorem Own4.at {w : World} {lo hi : Nat} {a : Option Addr} {n : Nat} {R : Nat → Vr} (h : Own4 w lo hi a n R) : VersAt w a n R := by
  obtain ⟨h0, h1 | ⟨b, off, ha, _, hl, hc⟩⟩ := h
  · exact .inl h1
  · exact .inr ⟨b, off, ha, by omega, hc.1⟩
theorem Own4.congr {w : World} {lo hi : Nat} {a : Option Addr} {n : Nat} {R S : Nat → Vr} (h : Own4 w lo hi a n R) (e : ∀ i, i < n → R i = S i) : Own4 w lo hi a n S := by
  obtain ⟨h0, h1 | ⟨b, off, ha, h2, hl, hc⟩⟩ := h
  · exact ⟨h0, .inl h1⟩
  · exact ⟨h0, .inr ⟨b, off, ha, h2, hl, fun i hi => by rw [← e i hi]; exact hc.1 i hi, hc.2⟩⟩
theorem Own4.writes {w w' : World} {lo hi lo' hi' : Nat} {a : Option Addr} {n : Nat} {R : Nat → Vr} (h : Own4 w lo hi a n R) (hw : Writes lo' hi' w w') (hd : hi ≤ lo' ∨ hi' ≤ lo) : Own4 w' lo hi a n R := by
  obtain ⟨h0, h1 | ⟨b, off, ha, h2, hl, hc⟩⟩ := h
  · exact ⟨Nat.le_trans h0 hw.size, .inl h1⟩
  · have hb := hw.block b (by omega) (by omega)
    exact ⟨Nat.le_trans h0 hw.size, .inr ⟨b, off, ha, h2, hl, fun i hi => (hc.1 i hi).block hb, fun i => (World.frozen?_of_block (w := w) (a := ⟨b, i, none⟩) hb).trans (hc.2 i)⟩⟩
theorem Own4.below {w w' : World} {lo hi : Nat} {a : Option Addr} {n : Nat} {R : Nat → Vr} (h : Own4 w lo hi a n R) (hb : Below w.heap.size w w') : Own4 w' lo hi a n R :=
  h.writes (Writes.of_below (lo := hi) (hi := hi) hb) (.inl (Nat.le_refl _))
theorem Own4.wide {w : World} {lo hi lo' hi' : Nat} {a : Option Addr} {n : Nat} {R : Nat → Vr} (h : Own4 w lo hi a n R) (h1 : lo' ≤ lo) (h2 : hi ≤ hi') (h3 : hi' ≤ w.heap.size) : Own4 w lo' hi' a n R := by
  obtain ⟨h0, h4 | ⟨b, off, ha, h5, hl, r⟩⟩ := h
  · exact ⟨h3, .inl h4⟩
  · exact ⟨h3, .inr ⟨b, off, ha, by omega, by omega, r⟩⟩
/-! ### a version is stored -/
def set4 (w : World) (b o : Nat) (r : Vr) : World :=
  (((w.setCell ⟨b, o, none⟩ (.int .i64 r.t)).setCell ⟨b, o + 1, none⟩ (.int .i64 r.a)).setCell ⟨b, o + 2, none⟩ (.bool r.g)).setCell ⟨b, o + 3, none⟩ (.int .i64 r.v)
theorem set4_far {w : World} {b o o' : Nat} {r : Vr} (h : o' < o ∨ o + 3 < o') : (set4 w b o r).cell? ⟨b, o', none⟩ = w.cell? ⟨b, o', none⟩ := by
  unfold set4
  rw [setO (by omega), setO (by omega), setO (by omega), setO (by omega)]
theorem set4_same {w : World} {b o : Nat} {r r0 : Vr} (h : C4 w b o r0) : C4 (set4 w b o r) b o r := by
  obtain ⟨h0, h1, h2, h3⟩ := h
  unfold set4
  refine ⟨?_, ?_, ?_, ?_⟩
  · rw [setO (by omega), setO (by omega), setO (by omega)]; exact setS h0
  · rw [setO (by omega), setO (by omega)]; exact setS (by rw [setO (by omega)]; exact h1)
  · rw [setO (by omega)]; exact setS (by rw [setO (by omega), setO (by omega)]; exact h2)
  · exact setS (by rw [setO (by omega), setO (by omega), setO (by omega)]; exact h3)
theorem set4_frozen {w : World} {b o : Nat} {r : Vr} (h : ∀ i, w.frozen? ⟨b, i, none⟩ = false) : ∀ i, (set4 w b o r).frozen? ⟨b, i, none⟩ = false := fun i => by
  unfold set4
  rw [World.frozen?_setCell, World.frozen?_setCell, World.frozen?_setCell, World.frozen?_setCell]
  exact h i
theorem set4_writes {lo hi : Nat} {w wr : World} {b o : Nat} {r : Vr} (h : Writes lo hi w wr) (h1 : lo ≤ b) (h2 : b < hi) : Writes lo hi w (set4 wr b o r) := by
  unfold set4
  exact (((h.setCell (p := ⟨b, _, none⟩) h1 h2 _).setCell (p := ⟨b, _, none⟩) h1 h2 _).setCell (p := ⟨b, _, none⟩) h1 h2 _).setCell (p := ⟨b, _, none⟩) h1 h2 _
theorem set4_below {n : Nat} {w wr : World} {b o : Nat} {r : Vr} (h : Below n w wr) (h1 : n ≤ b) : Below n w (set4 wr b o r) := by
  unfold set4
  exact (((h.setCell (p := ⟨b, _, none⟩) h1 _).setCell (p := ⟨b, _, none⟩) h1 _).setCell (p := ⟨b, _, none⟩) h1 _).setCell (p := ⟨b, _, none⟩) h1 _
theorem set4_size {w : World} {b o : Nat} {r : Vr} : (set4 w b o r).heap.size = w.heap.size := by simp [set4, World.setCell]
/-- A row of which the k-th version is stored. -/
theorem row4_set {w : World} {b off n k : Nat} {R : Nat → Vr} {r : Vr} (hlt : k < n) (h : Row4 w b off n R) : Row4 (set4 w b (off + k * 4) r) b off n (fun i => if i = k then r else R i) := by
  refine ⟨fun i hi => ?_, set4_frozen h.2⟩
  by_cases e : i = k
  · subst e
    simp only [if_true]
    exact set4_same (h.1 i hi)
  · simp only [if_neg e]
    have g : ∀ j, j < 4 → (set4 w b (off + k * 4) r).cell? ⟨b, off + i * 4 + j, none⟩ = w.cell? ⟨b, off + i * 4 + j, none⟩ := fun j hj => set4_far (by omega)
    obtain ⟨h0, h1, h2, h3⟩ := h.1 i hi
    exact ⟨(g 0 (by omega)).trans h0, (g 1 (by omega)).trans h1, (g 2 (by omega)).trans h2, (g 3 (by omega)).trans h3⟩
theorem row4_congr {w : World} {b off n : Nat} {R S : Nat → Vr} (h : Row4 w b off n R) (e : ∀ i, i < n → R i = S i) : Row4 w b off n S := ⟨fun i hi => by rw [← e i hi]; exact h.1 i hi, h.2⟩
theorem row4_block {w w' : World} {b off n : Nat} {R : Nat → Vr} (h : Row4 w b off n R) (hb : w'.heap[b]? = w.heap[b]?) : Row4 w' b off n R :=
  ⟨fun i hi => (h.1 i hi).block hb, fun i => (World.frozen?_of_block (w := w) (a := ⟨b, i, none⟩) hb).trans (h.2 i)⟩
/-! ### copies -/
theorem infoV : (Try.prog.info? 43).map (fun i => (i.zero, i.size, i.bytes)) = some (some (.agg #[.int .i64 0, .int .i64 0, .bool false, .int .i64 0]), 4, 32) := by kernel_rfl
/-- 'make([]impl.Version, n)'. -/
theorem run_make_vers (n : Nat) (hn : n ≤ 1048576) (w : World) :
    (Instr.makeSlice 44 (.int .i64 (n : Int)) (.int .i64 (n : Int))).run Try.prog w = .ok (.slice (some ⟨w.heap.size, 0, none⟩) n n) (w.alloc (.cells (madeCells #[.int .i64 0, .int .i64 0, .bool false, .int .i64 0] (n * 4)) 43)) := by
  obtain ⟨i, hi, hzz⟩ := Option.map_eq_some_iff.1 infoV
  simp only [Prod.mk.injEq] at hzz
  obtain ⟨hz, hs, hb⟩ := hzz
  have hr := run_make (P := Try.prog) w 44 43 i _ Try.underlying44 hi hz .i64 .i64 n n (by omega) (Int.le_refl _) (by rw [hb]; omega) (by omega)
  simp only [Int.toNat_natCast, hs] at hr
  exact hr
def zV : Vr := ⟨0, 0, false, 0⟩
theorem made_vers (w : World) (n : Nat) : Row4 (w.alloc (.cells (madeCells #[.int .i64 0, .int .i64 0, .bool false, .int .i64 0] (n * 4)) 43)) w.heap.size 0 n (fun _ => zV) := by
  refine ⟨fun i hi => ?_, fun i => by simp [go_sem]⟩
  have c : ∀ j, j < 4 → (w.alloc (.cells (madeCells #[.int .i64 0, .int .i64 0, .bool false, .int .i64 0] (n * 4)) 43)).cell? ⟨w.heap.size, 0 + i * 4 + j, none⟩ = (#[Value.int .i64 0, .int .i64 0, .bool false, .int .i64 0])[j]? := fun j hj => by
    have l : i * 4 + j < n * 4 := by omega
    have : j = 0 ∨ j = 1 ∨ j = 2 ∨ j = 3 := by omega
    rcases this with rfl | rfl | rfl | rfl <;> simp [go_sem, madeCells] <;> exact ⟨_, by rw [Array.getElem?_range, if_pos (by omega)], by simp [Nat.add_mod]⟩
  exact ⟨c 0 (by omega), c 1 (by omega), c 2 (by omega), c 3 (by omega)⟩
end Go.Proofs.Ytjdodbiphijjgaa
