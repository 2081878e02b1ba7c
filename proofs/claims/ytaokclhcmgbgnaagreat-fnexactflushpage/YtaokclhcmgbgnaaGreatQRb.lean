/- What is held: lists of pairs of numbers, by the index; the laws' own helpers over them. -/
import Derived.Test.YtaokclhcmgbgnaaGreatQBase
namespace Go.Proofs.YtaokclhcmgbgnaaGreat
open Go.ChangeShapes Go.WideShapes Go.ChangeAt Go.RowKit Go.Deep Go.Joins
set_option linter.unusedVariables false
set_option maxRecDepth 20000

/-- The sum of the first k. -/
def smf9 (f : Nat → Nat) : Nat → Nat
  | 0 => 0
  | k + 1 => smf9 f k + f k
theorem smf9_ge (f : Nat → Nat) : ∀ n i, i < n → f i ≤ smf9 f n
  | 0, i, h => by omega
  | n + 1, i, h => by
    by_cases e : i = n
    · subst e; simp [smf9]
    · have := smf9_ge f n i (by omega); simp only [smf9]; omega
theorem smf9_le (f : Nat → Nat) {n : Nat} : ∀ {i}, i ≤ n → smf9 f i ≤ smf9 f n := by
  induction n with
  | zero => intro i h; have : i = 0 := by omega
            subst this; exact Nat.le_refl _
  | succ n ih =>
    intro i h
    by_cases e : i = n + 1
    · subst e; exact Nat.le_refl _
    · have := ih (i := i) (by omega); simp only [smf9]; omega
theorem smf9_add (f : Nat → Nat) (c d : Nat) : ∀ k, smf9 (fun i => f i * c + d) k = smf9 f k * c + k * d
  | 0 => by simp [smf9]
  | k + 1 => by simp only [smf9, smf9_add f c d k, Nat.add_mul, Nat.one_mul]; omega
def upf9 {α : Type} (f : Nat → α) (j : Nat) (x : α) (i : Nat) : α := if i = j then x else f i
theorem upf9_eq {α : Type} (f : Nat → α) (j : Nat) (x : α) : upf9 f j x j = x := by simp [upf9]
theorem upf9_ne {α : Type} (f : Nat → α) {j i : Nat} (x : α) (h : i ≠ j) : upf9 f j x i = f i := by simp [upf9, h]
def pref9 {α : Type} (f g : Nat → α) (j i : Nat) : α := if i < j then f i else g i
theorem pref9_upf {α : Type} (f g : Nat → α) (j : Nat) : upf9 (pref9 f g j) j (f j) = pref9 f g (j + 1) := by
  funext i
  by_cases e : i = j
  · subst e; simp [upf9, pref9]
  · by_cases h : i < j
    · have : i < j + 1 := by omega
      simp [upf9, pref9, e, h, this]
    · have : ¬ i < j + 1 := by omega
      simp [upf9, pref9, e, h, this]
theorem pref9_at {α : Type} (f g : Nat → α) (j : Nat) : pref9 f g j j = g j := by simp [pref9]
theorem pref9_lt {α : Type} (f g : Nat → α) {j i : Nat} (h : i < j) : pref9 f g j i = f i := by simp [pref9, h]
theorem pref9_zero {α : Type} (f g : Nat → α) : pref9 f g 0 = g := by funext i; simp [pref9]
/-- What is kept of cells by a call. -/
theorem bcell29 {w w' : World} (hb : Below w.heap.size w w') : (∀ b i, b < w.heap.size → w'.cell? ⟨b, i, none⟩ = w.cell? ⟨b, i, none⟩) ∧ (∀ b i, b < w.heap.size → w'.frozen? ⟨b, i, none⟩ = w.frozen? ⟨b, i, none⟩) :=
  ⟨fun b i h => hb.cell (p := ⟨b, i, none⟩) h, fun b i h => hb.frozen (p := ⟨b, i, none⟩) h⟩
theorem szCellS_x (n : Nat) (a : Option Addr) (cap : Nat) (x : Int) (w : World) (hn : n ≤ 9223372036854775807) (h0 : 0 ≤ x) (h1 : x ≤ 1048576) :
    Calls Tryz.prog 146 #[.slice a n cap, .int .i64 x] w fun e w' => e = .returned (.int .i64 (if x - n < 0 then -1 else x - n)) ∧ w' = w := by
  by_cases h : x - (n : Int) < 0
  · go_enter Tryz.func146, Tryz.ntmps146
    go_wp2
    go_ret
    exact ⟨rfl, rfl⟩
  · go_enter Tryz.func146, Tryz.ntmps146
    go_wp2
    go_ret
    exact ⟨rfl, rfl⟩
theorem szCellS_r (n : Nat) (a : Option Addr) (cap : Nat) (x : Int) (w : World) (hn : n ≤ 9223372036854775807) (h0 : 0 ≤ x) (h1 : x ≤ 1048576) :
    Calls Tryz.prog 146 #[.slice a n cap, .int .i64 x] w fun e w' => Below w.heap.size w w' ∧ ∃ r : Int, e = .returned (.int .i64 r) ∧ (r = -1 ∨ (0 ≤ r ∧ r = x - n)) := by
  refine (szCellS_x n a cap x w hn h0 h1).mono ?_
  rintro e w' ⟨rfl, rfl⟩
  refine ⟨Below.refl _ _, _, rfl, ?_⟩
  by_cases h : x - (n : Int) < 0
  · exact .inl (if_pos h)
  · exact .inr (by rw [if_neg h]; omega)
theorem szInt64S_r (n : Nat) (a : Option Addr) (cap : Nat) (x : Int) (w : World) (hn : n ≤ 9223372036854775807) (h0 : 0 ≤ x) (h1 : x ≤ 1048576) :
    Calls Tryz.prog 23 #[.slice a n cap, .int .i64 x] w fun e w' => Below w.heap.size w w' ∧ ∃ r : Int, e = .returned (.int .i64 r) ∧ (r = -1 ∨ (0 ≤ r ∧ r = x - n)) := by
  refine (szInt64S_x n a cap x w hn h0 h1).mono ?_
  rintro e w' ⟨rfl, rfl⟩
  refine ⟨Below.refl _ _, _, rfl, ?_⟩
  by_cases h : x - (n : Int) < 0
  · exact .inl (if_pos h)
  · exact .inr (by rw [if_neg h]; omega)
theorem toCellS_own (n : Nat) (K V : Nat → Int) (a : Option Addr) (cap : Nat) (w : World) (hn : n ≤ 1048576) (h : CellsAt w a n K V) :
    Calls Tryz.prog 149 #[.slice a n cap] w fun e w' => ∃ b, e = .returned (.slice (some ⟨b, 0, none⟩) n n) ∧ Below w.heap.size w w' ∧ Own w' w.heap.size w'.heap.size (some ⟨b, 0, none⟩) n K V := by
  refine (toCellS_any n K V a cap w (by omega) h).mono ?_
  rintro e w' ⟨rfl, hb, hr⟩
  exact ⟨_, rfl, hb, (Own.of_row hr).wide (Nat.le_refl _) hr.lt (Nat.le_refl _)⟩
theorem cellsCell : Tryz.prog.cellsOf 220 = 2 := by kernel_rfl
theorem openCellS {H : Type} {enc : TypeId × Value → H} {W : World} {fuel : Nat} {cs : List Value} {x : DataW H × List MemPlace}
    (h : DataW.trod enc Tryz.prog W 0 (fun _ => true) true fuel 128 cs = some x) :
    ∃ (a : Option Addr) (n cap : Nat) (K V : Nat → Int), cs = [.slice a n cap] ∧ n ≤ cap ∧ n ≤ 9223372036854775807 ∧ CellsAt W a n K V := by
  rcases open_slice Tryz.underlying128 h with ⟨rfl, _⟩ | ⟨a, l, c, m, nn, D, Pl, rfl, _, hl, hm, hmm, _, hx⟩
  · exact ⟨none, 0, 0, fun _ => 0, fun _ => 0, rfl, Nat.le_refl _, by omega, .inl rfl⟩
  · have hmc : m = c := by simpa using hmm
    unfold maxLen at hm
    rw [cellsCell] at hx
    have each : ∀ i, i < l → ∃ q : Int × Int, W.cell? (a.add (i * 2)) = some (.int .i64 q.1) ∧ W.cell? (a.add (i * 2 + 1)) = some (.int .i64 q.2) := fun i hi => by
      obtain ⟨cs', h1, h2⟩ := hx i (by omega)
      obtain ⟨_, hlen, hcell⟩ := World.cells?_some h1
      obtain ⟨xs, k, hk, hxy, _, hxl, hf⟩ := DataW.trod_struct Tryz.underlying220 h2
      match xs, hxl, cs', hlen with
      | [y0, y1], _, [v0, v1], _ =>
        have g0 := hf 0 _ rfl
        have g1 := hf 1 _ rfl
        simp [cellsI1] at g0 g1
        have e0 := hcell 0 (by omega)
        have e1 := hcell 1 (by omega)
        rw [add_add] at e0 e1
        obtain ⟨z0, f0, _, _⟩ := DataW.trod_int Tryz.underlying2 g0
        obtain ⟨z1, f1, _, _⟩ := DataW.trod_int Tryz.underlying2 g1
        simp at f0 f1
        subst f0 f1
        exact ⟨(z0, z1), by simpa using e0, by simpa using e1⟩
    obtain ⟨q, hq⟩ := choose_lt each
    refine ⟨some a, l, c, fun i => (q i).1, fun i => (q i).2, rfl, by omega, by omega, ?_⟩
    by_cases hz0 : l = 0
    · exact .inl hz0
    · obtain ⟨b, off, spot⟩ := a
      have hc0 := (hq 0 (by omega)).1
      have hspot : spot = none := by simpa [Addr.add] using World.cell?_spot hc0
      subst hspot
      refine .inr ⟨b, off, rfl, Go.block_lt_of_cell hc0, fun i hi => ?_, fun i hi => ?_⟩
      · have k0 := (hq i hi).1
        rw [add_plain] at k0
        exact k0
      · have k1 := (hq i hi).2
        rw [add_plain] at k1
        rw [Nat.add_assoc]; exact k1
structure Pg where
  id : Int
  lsn : Int
  cn : Nat
  cK : Nat → Int
  cV : Nat → Int
def zPg : Pg := ⟨0, 0, 0, fun _ => 0, fun _ => 0⟩
def BigPg (t : Pg) : Prop := (t.cn ≤ 9223372036854775807) ∧ True
def SmPg (t : Pg) : Prop := (t.cn ≤ 1048576) ∧ True
/-- How many elements its slices have. -/
def szPg (t : Pg) : Nat := t.cn
/-- What its slices hold. -/
def InPg (w : World) (a0 : Option Addr) (t : Pg) : Prop := CellsAt w a0 t.cn t.cK t.cV ∧ True
theorem InPg.below {w w' : World} {a0 : Option Addr} {t : Pg} (h : InPg w a0 t) (hb : Below w.heap.size w w') : InPg w' a0 t := by
  obtain ⟨h0, _⟩ := h
  exact ⟨h0.below hb, trivial⟩
/-- The cells of one. -/
def CPg (w : World) (b o : Nat) (t : Pg) (a0 : Option Addr) (c0 : Nat) : Prop :=
  w.cell? ⟨b, o, none⟩ = some (.int .i64 t.id) ∧ w.cell? ⟨b, o + 1, none⟩ = some (.int .i64 t.lsn) ∧ w.cell? ⟨b, o + 2, none⟩ = some (.slice a0 t.cn c0)
theorem CPg.block {w w' : World} {b o : Nat} {t : Pg} {a0 : Option Addr} {c0 : Nat} (h : CPg w b o t a0 c0) (e : w'.heap[b]? = w.heap[b]?) : CPg w' b o t a0 c0 := by
  have g : ∀ i, w'.cell? ⟨b, i, none⟩ = w.cell? ⟨b, i, none⟩ := fun i => World.cell?_of_block (w := w) (a := ⟨b, i, none⟩) e
  obtain ⟨h0, h1, h2⟩ := h
  exact ⟨(g _).trans h0, (g _).trans h1, (g _).trans h2⟩
/-- In blocks of their own, one behind the other, from l on, below h. -/
def OwnInPg (w : World) (l h : Nat) (a0 : Option Addr) (t : Pg) : Prop := ∃ m0 m1, l ≤ m0 ∧ m0 ≤ m1 ∧ m1 ≤ h ∧ h ≤ w.heap.size ∧ Own w m0 m1 a0 t.cn t.cK t.cV
theorem OwnInPg.writes {w w' : World} {l h lo' hi' : Nat} {a0 : Option Addr} {t : Pg} (k : OwnInPg w l h a0 t) (hw : Writes lo' hi' w w') (hd : h ≤ lo' ∨ hi' ≤ l) : OwnInPg w' l h a0 t := by
  obtain ⟨m0, m1, g0, g1, g2, gz, k0⟩ := k
  exact ⟨m0, m1, g0, g1, g2, Nat.le_trans gz hw.size, k0.writes hw (by omega)⟩
theorem OwnInPg.lt {w : World} {l h : Nat} {a0 : Option Addr} {t : Pg} (k : OwnInPg w l h a0 t) : l ≤ h ∧ h ≤ w.heap.size := by
  obtain ⟨m0, m1, g0, g1, g2, gz, k0⟩ := k
  exact ⟨by omega, gz⟩
theorem OwnInPg.at {w : World} {l h : Nat} {a0 : Option Addr} {t : Pg} (k : OwnInPg w l h a0 t) : InPg w a0 t := by
  obtain ⟨m0, m1, g0, g1, g2, gz, k0⟩ := k
  exact ⟨k0.at, trivial⟩
/-- The slice at 'a' has the n pages T. -/
def PgsAt (w : World) (a : Option Addr) (n : Nat) (T : Nat → Pg) : Prop :=
  n = 0 ∨ ∃ b off, a = some ⟨b, off, none⟩ ∧ b < w.heap.size ∧ ∀ i, i < n → ∃ a0 c0, CPg w b (off + i * 3) (T i) a0 c0 ∧ InPg w a0 (T i) ∧ (T i).cn ≤ c0
theorem PgsAt.below {w w' : World} {a : Option Addr} {n : Nat} {T : Nat → Pg} (h : PgsAt w a n T) (hb : Below w.heap.size w w') : PgsAt w' a n T := by
  rcases h with h | ⟨b, off, ha, hl, hc⟩
  · exact .inl h
  · refine .inr ⟨b, off, ha, Nat.lt_of_lt_of_le hl hb.size, fun i hi => ?_⟩
    obtain ⟨a0, c0, h1, h2, h3⟩ := hc i hi
    exact ⟨a0, c0, h1.block (hb.block _ hl), h2.below hb, h3⟩
/-- The same in blocks of their own, from lo on, below hi. -/
def OwnPg (w : World) (lo hi : Nat) (a : Option Addr) (n : Nat) (T : Nat → Pg) : Prop :=
  hi ≤ w.heap.size ∧ (n = 0 ∨ ∃ b off, a = some ⟨b, off, none⟩ ∧ lo ≤ b ∧ b < hi ∧ (∀ i, w.frozen? ⟨b, i, none⟩ = false) ∧ ∃ l h : Nat → Nat, (∀ i j, i < n → j < n → i ≠ j → h i ≤ l j ∨ h j ≤ l i) ∧
    ∀ i, i < n → (b < l i ∨ h i ≤ b) ∧ (h i = 0 ∨ lo ≤ l i ∧ h i ≤ hi) ∧ ∃ a0 c0, CPg w b (off + i * 3) (T i) a0 c0 ∧ ((T i).cn ≤ c0) ∧ OwnInPg w (l i) (h i) a0 (T i))
theorem OwnPg.at {w : World} {lo hi : Nat} {a : Option Addr} {n : Nat} {T : Nat → Pg} (h : OwnPg w lo hi a n T) : PgsAt w a n T := by
  obtain ⟨h0, h1 | ⟨b, off, ha, _, hl, _, l, h, _, hc⟩⟩ := h
  · exact .inl h1
  · refine .inr ⟨b, off, ha, by omega, fun i hi => ?_⟩
    obtain ⟨_, _, a0, c0, k1, k2, k3⟩ := hc i hi
    exact ⟨a0, c0, k1, k3.at, k2⟩
theorem OwnPg.writes {w w' : World} {lo hi lo' hi' : Nat} {a : Option Addr} {n : Nat} {T : Nat → Pg} (h : OwnPg w lo hi a n T) (hw : Writes lo' hi' w w') (hd : hi ≤ lo' ∨ hi' ≤ lo) : OwnPg w' lo hi a n T := by
  obtain ⟨h0, h1 | ⟨b, off, ha, hlo, hl, hf, l, h, hj, hc⟩⟩ := h
  · exact ⟨Nat.le_trans h0 hw.size, .inl h1⟩
  · have e := hw.block b (by omega) (by omega)
    refine ⟨Nat.le_trans h0 hw.size, .inr ⟨b, off, ha, hlo, hl, fun i => (World.frozen?_of_block (w := w) (a := ⟨b, i, none⟩) e).trans (hf i), l, h, hj, fun i hi => ?_⟩⟩
    obtain ⟨k0, k1, a0, c0, k2, k3, k4⟩ := hc i hi
    have := k4.lt
    exact ⟨k0, k1, a0, c0, k2.block e, k3, k4.writes hw (by omega)⟩
theorem OwnPg.below {w w' : World} {lo hi : Nat} {a : Option Addr} {n : Nat} {T : Nat → Pg} (h : OwnPg w lo hi a n T) (hb : Below w.heap.size w w') : OwnPg w' lo hi a n T :=
  h.writes (Writes.of_below (lo := hi) (hi := hi) hb) (.inl (Nat.le_refl _))
theorem OwnPg.wide {w : World} {lo hi lo' hi' : Nat} {a : Option Addr} {n : Nat} {T : Nat → Pg} (h : OwnPg w lo hi a n T) (h1 : lo' ≤ lo) (h2 : hi ≤ hi') (h3 : hi' ≤ w.heap.size) : OwnPg w lo' hi' a n T := by
  obtain ⟨h0, h4 | ⟨b, off, ha, hlo, hl, hf, l, h, hj, hc⟩⟩ := h
  · exact ⟨h3, .inl h4⟩
  · refine ⟨h3, .inr ⟨b, off, ha, by omega, by omega, hf, l, h, hj, fun i hi => ?_⟩⟩
    obtain ⟨k0, k1, r⟩ := hc i hi
    exact ⟨k0, by omega, r⟩
theorem OwnPg.congr {w : World} {lo hi : Nat} {a : Option Addr} {n : Nat} {T T' : Nat → Pg} (h : OwnPg w lo hi a n T) (e : ∀ i, i < n → T i = T' i) : OwnPg w lo hi a n T' := by
  obtain ⟨h0, h1 | ⟨b, off, ha, hlo, hl, hf, l, h, hj, hc⟩⟩ := h
  · exact ⟨h0, .inl h1⟩
  · exact ⟨h0, .inr ⟨b, off, ha, hlo, hl, hf, l, h, hj, fun i hi => by rw [← e i hi]; exact hc i hi⟩⟩
/-! ### one is stored -/
def setPg (w : World) (b o : Nat) (t : Pg) (a0 : Option Addr) (c0 : Nat) : World := ((w.setCell ⟨b, o, none⟩ (.int .i64 t.id)).setCell ⟨b, o + 1, none⟩ (.int .i64 t.lsn)).setCell ⟨b, o + 2, none⟩ (.slice a0 t.cn c0)
theorem setPg_size {w : World} {b o : Nat} {t : Pg} {a0 : Option Addr} {c0 : Nat} : (setPg w b o t a0 c0).heap.size = w.heap.size := by simp [setPg, World.setCell]
theorem setPg_far {w : World} {b o o' : Nat} {t : Pg} {a0 : Option Addr} {c0 : Nat} (h : o' < o ∨ o + 2 < o') : (setPg w b o t a0 c0).cell? ⟨b, o', none⟩ = w.cell? ⟨b, o', none⟩ := by
  unfold setPg
  rw [setO (by omega), setO (by omega), setO (by omega)]
theorem setPg_frozen {w : World} {b o : Nat} {t : Pg} {a0 : Option Addr} {c0 : Nat} {p : Addr} : (setPg w b o t a0 c0).frozen? p = w.frozen? p := by
  unfold setPg
  rw [World.frozen?_setCell, World.frozen?_setCell, World.frozen?_setCell]
theorem setPg_same {w : World} {b o : Nat} {t t0 : Pg} {a0 : Option Addr} {c0 : Nat} {x0 : Option Addr} {y0 : Nat} (h : CPg w b o t0 x0 y0) : CPg (setPg w b o t a0 c0) b o t a0 c0 := by
  obtain ⟨h0, h1, h2⟩ := h
  refine ⟨?_, ?_, ?_⟩
  · unfold setPg; rw [setO (by omega), setO (by omega)]; exact setS h0
  · unfold setPg; rw [setO (by omega)]; exact setS (by rw [setO (by omega)]; exact h1)
  · unfold setPg; exact setS (by rw [setO (by omega), setO (by omega)]; exact h2)
theorem setPg_below {m : Nat} {w wr : World} {b o : Nat} {t : Pg} {a0 : Option Addr} {c0 : Nat} (h : Below m w wr) (h1 : m ≤ b) : Below m w (setPg wr b o t a0 c0) :=
  ((h.setCell (p := ⟨b, _, none⟩) h1 _).setCell (p := ⟨b, _, none⟩) h1 _).setCell (p := ⟨b, _, none⟩) h1 _
theorem setPg_writes {lo hi : Nat} {w wr : World} {b o : Nat} {t : Pg} {a0 : Option Addr} {c0 : Nat} (h : Writes lo hi w wr) (h1 : lo ≤ b) (h2 : b < hi) : Writes lo hi w (setPg wr b o t a0 c0) :=
  ((h.setCell (p := ⟨b, _, none⟩) h1 h2 _).setCell (p := ⟨b, _, none⟩) h1 h2 _).setCell (p := ⟨b, _, none⟩) h1 h2 _
theorem OwnPg.store {w : World} {lo hi hi' l' h' b off n j : Nat} {T : Nat → Pg} {t : Pg} {a0 : Option Addr} {c0 : Nat} (h : OwnPg w lo hi (some ⟨b, off, none⟩) n T) (hj : j < n) (e1 : hi ≤ l') (e2 : h' ≤ hi') (e3 : hi ≤ hi') (e4 : hi' ≤ w.heap.size) (hn : t.cn ≤ c0) (hu : OwnInPg w l' h' a0 t) :
    OwnPg (setPg w b (off + j * 3) t a0 c0) lo hi' (some ⟨b, off, none⟩) n (upf9 T j t) := by
  obtain ⟨h0, h1 | ⟨b1, off1, ha, hlo, hl, hf, l, h, hd, hc⟩⟩ := h
  · omega
  simp only [Option.some.injEq, Addr.mk.injEq, and_true] at ha
  obtain ⟨rfl, rfl⟩ := ha
  refine ⟨by rw [setPg_size]; exact e4, .inr ⟨b, off, rfl, hlo, by omega, fun i => by rw [setPg_frozen]; exact hf i, fun i => if i = j then l' else l i, fun i => if i = j then h' else h i, fun i q hi hq hne => ?_, fun i hi => ?_⟩⟩
  · by_cases c1 : i = j <;> by_cases c2 : q = j <;> simp only [c1, c2, if_true, if_false]
    · omega
    · have := (hc q hq).2.1; omega
    · have := (hc i hi).2.1; omega
    · exact hd i q hi hq hne
  · obtain ⟨k0, k1, x0, y0, k2, k3, k4⟩ := hc i hi
    have k6 := k4.lt
    have k7 := hu.lt
    by_cases e : i = j
    · subst e
      simp only [if_true, upf9_eq]
      exact ⟨by omega, by omega, a0, c0, setPg_same k2, hn, hu.writes (lo' := b) (hi' := b + 1) (setPg_writes (Writes.refl _ _ _) (Nat.le_refl _) (Nat.lt_succ_self _)) (by omega)⟩
    · simp only [if_neg e]
      rw [upf9_ne _ _ e]
      refine ⟨k0, by omega, x0, y0, ?_, k3, k4.writes (lo' := b) (hi' := b + 1) (setPg_writes (Writes.refl _ _ _) (Nat.le_refl _) (Nat.lt_succ_self _)) (by omega)⟩
      have g : ∀ q, q < 3 → (setPg w b (off + j * 3) t a0 c0).cell? ⟨b, off + i * 3 + q, none⟩ = w.cell? ⟨b, off + i * 3 + q, none⟩ := fun q hq => setPg_far (by omega)
      obtain ⟨h0, h1, h2⟩ := k2
      exact ⟨(g 0 (by omega)).trans h0, (g 1 (by omega)).trans h1, (g 2 (by omega)).trans h2⟩
theorem infoPg : (Tryz.prog.info? 66).map (fun i => (i.zero, i.size, i.bytes)) = some (some (.agg #[.int .i64 0, .int .i64 0, .slice none 0 0]), 3, 40) := by kernel_rfl
theorem run_make_Pg (n : Nat) (hn : n ≤ 1048576) (w : World) :
    (Instr.makeSlice 35 (.int .i64 (n : Int)) (.int .i64 (n : Int))).run Tryz.prog w = .ok (.slice (some ⟨w.heap.size, 0, none⟩) n n) (w.alloc (.cells (madeCells #[.int .i64 0, .int .i64 0, .slice none 0 0] (n * 3)) 66)) := by
  obtain ⟨i, hi, hzz⟩ := Option.map_eq_some_iff.1 infoPg
  simp only [Prod.mk.injEq] at hzz
  obtain ⟨hz, hs, hb⟩ := hzz
  have hr := run_make (P := Tryz.prog) w 35 66 i _ Tryz.underlying35 hi hz .i64 .i64 n n (by omega) (Int.le_refl _) (by rw [hb]; omega) (by omega)
  simp only [Int.toNat_natCast, hs] at hr
  exact hr
theorem made_Pg (w : World) (n : Nat) : OwnPg (w.alloc (.cells (madeCells #[.int .i64 0, .int .i64 0, .slice none 0 0] (n * 3)) 66)) w.heap.size (w.heap.size + 1) (some ⟨w.heap.size, 0, none⟩) n (fun _ => zPg) := by
  refine ⟨by simp, .inr ⟨_, _, rfl, Nat.le_refl _, Nat.lt_succ_self _, fun i => by simp [go_sem], fun _ => 0, fun _ => 0, fun i j _ _ _ => .inl (Nat.le_refl _), fun i hi => ⟨.inr (Nat.zero_le _), .inl rfl, none, 0, ?_, ?_, ?_⟩⟩⟩
  · have c : ∀ j, j < 3 → (w.alloc (.cells (madeCells #[.int .i64 0, .int .i64 0, .slice none 0 0] (n * 3)) 66)).cell? ⟨w.heap.size, 0 + i * 3 + j, none⟩ = (#[Value.int .i64 0, .int .i64 0, .slice none 0 0])[j]? := fun j hj => by
      have l : i * 3 + j < n * 3 := by omega
      have : j = 0 ∨ j = 1 ∨ j = 2 := by omega
      rcases this with rfl | rfl | rfl <;> simp [go_sem, madeCells] <;> exact ⟨_, by rw [Array.getElem?_range, if_pos (by omega)], by simp [Nat.add_mod]⟩
    exact ⟨c 0 (by omega), c 1 (by omega), c 2 (by omega)⟩
  · exact Nat.le_refl _
  · exact ⟨0, 0, Nat.le_refl _, Nat.le_refl _, Nat.le_refl _, Nat.zero_le _, ⟨Nat.zero_le _, .inl rfl⟩⟩
/-! ### sizes -/
set_option maxHeartbeats 1000000 in
theorem szPage_r (t : Pg) (a0 : Option Addr) (c0 : Nat) (x : Int) (w : World) (hB : BigPg t) (h0 : 0 ≤ x) (h1 : x ≤ 1048576) (h : InPg w a0 t) :
    Calls Tryz.prog 77 #[.agg #[.int .i64 t.id, .int .i64 t.lsn, .slice a0 t.cn c0], .int .i64 x] w fun e w' => Below w.heap.size w w' ∧ ∃ r : Int, e = .returned (.int .i64 r) ∧ (r = -1 ∨ (0 ≤ r ∧ r = x - szPg t)) := by
  obtain ⟨hB0, _⟩ := hB
  have HA : Hid (InPg w a0 t) := h
  have HZ : Hid (szPg t = t.cn) := rfl
  clear h
  go_enter Tryz.func77, Tryz.ntmps77
  go_wp2_with fail
  refine (szCellS_r t.cn a0 c0 x _ hB0 (by omega) (by omega)).mono ?_
  rintro e w1 ⟨hb, r0, rfl, hr⟩
  have HB1 : Hid (Below w.heap.size w w1) := below_then (below_new _ _) hb
  clear hb
  rcases hr with rfl | ⟨hr0, hr1⟩
  · go_wp2_with fail
    go_ret
    exact ⟨HB1.out, _, rfl, .inl rfl⟩
  have hng0 : ¬ r0 < 0 := by omega
  have HR0 : Hid (r0 = x - t.cn) := hr1
  have hle0 : r0 ≤ 1048576 := by omega
  clear hr1
  go_wp2_with fail
  go_ret
  exact ⟨HB1.out, _, rfl, .inr ⟨hr0, by have e0 := HR0.out; have ez := HZ.out; omega⟩⟩
def smPg (T : Nat → Pg) (k : Nat) : Nat := smf9 (fun i => szPg (T i)) k
set_option maxHeartbeats 1000000 in
theorem szPageS_any (n : Nat) (T : Nat → Pg) (a : Option Addr) (cap : Nat) (x : Int) (w : World) (hn : n ≤ 9223372036854775807) (hL : ∀ i, i < n → BigPg (T i)) (h0 : 0 ≤ x) (h1 : x ≤ 1048576) (h : PgsAt w a n T) :
    Calls Tryz.prog 19 #[.slice a n cap, .int .i64 x] w fun e w' => Below w.heap.size w w' ∧ ∃ r : Int, e = .returned (.int .i64 r) ∧ (r = -1 ∨ (0 ≤ r ∧ r = x - n - smPg T n)) := by
  by_cases hx : x - (n : Int) < 0
  · clear hL h
    go_enter Tryz.func19, Tryz.ntmps19
    go_wp2
    go_ret
    exact ⟨Below.refl _ _, _, rfl, .inl rfl⟩
  · go_enter Tryz.func19, Tryz.ntmps19
    have HL : Hid (∀ i, i < n → BigPg (T i)) := hL
    have HA : Hid (PgsAt w a n T) := h
    clear hL h
    go_wp2
    go_loopw [1, 5] (fun q i wr => ∃ k : Nat, k ≤ n ∧ i = .int .i64 k ∧ q = .int .i64 (x - n - smPg T k) ∧ 0 ≤ x - n - smPg T k ∧ Below w.heap.size w wr) (fun _ i _ => n - (intOf i).toNat)
    case atStart => exact ⟨0, Nat.zero_le _, rfl, by simp [smPg, smf9], by simp [smPg, smf9]; omega, Below.refl _ _⟩
    case round =>
      obtain ⟨k, hk, rfl, rfl, hnn, hb⟩ := hrel
      by_cases hlt : k < n
      · rcases HA.out.below hb with h | ⟨b, off, rfl, hl, hc⟩
        · omega
        obtain ⟨a0, c0, hC, hI, -⟩ := hc k hlt
        obtain ⟨q0, q1, q2⟩ := hC
        have HI : Hid (InPg wr a0 (T k)) := hI
        have hs : (smPg T (k + 1) : Int) = smPg T k + szPg (T k) := by simp [smPg, smf9]
        generalize hS : (smPg T k : Int) = S at *
        have HB : Hid (Below w.heap.size w wr) := hb
        clear hc hb hI
        go_wp2_with fail
        refine (szPage_r (T k) a0 c0 (x - n - S) wr (HL.out k hlt) hnn (by omega) HI.out).mono ?_
        rintro e w' ⟨hb', r, rfl, hr⟩
        have HB' : Hid (Below w.heap.size w w') := below_then HB.out hb'
        clear hb' q0 q1 q2
        rcases hr with rfl | ⟨hr0, hr1⟩
        · go_wp2_with fail
          go_ret
          exact ⟨HB'.out, _, rfl, .inl rfl⟩
        · have hng : ¬ r < 0 := by omega
          have HR : Hid (r = x - n - S - szPg (T k)) := hr1
          clear hr1
          go_wp2_with fail
          go_roundw
          case rel => exact ⟨k + 1, hlt, by go_num, by rw [hs, HR.out]; congr 1; omega, by rw [hs]; have := HR.out; omega, HB'.out⟩
          case measure => simp [intOf]; omega
      · have hkn : k = n := by omega
        go_wp2
        go_ret
        exact ⟨hb, _, rfl, .inr ⟨by first | exact hnn | (rw [hkn] at hnn; exact hnn), by first | rfl | rw [hkn]⟩⟩
/-! ### one copied -/
set_option maxHeartbeats 4000000 in
theorem toPage_own (t : Pg) (a0 : Option Addr) (c0 : Nat) (w : World) (hS : SmPg t) (h : InPg w a0 t) :
    Calls Tryz.prog 91 #[.agg #[.int .i64 t.id, .int .i64 t.lsn, .slice a0 t.cn c0]] w fun e w' =>
      ∃ B0, e = .returned (.agg #[.int .i64 t.id, .int .i64 t.lsn, .slice (some ⟨B0, 0, none⟩) t.cn t.cn]) ∧ Below w.heap.size w w' ∧ OwnInPg w' w.heap.size w'.heap.size (some ⟨B0, 0, none⟩) t := by
  obtain ⟨hS0, _⟩ := hS
  have HA : Hid (InPg w a0 t) := h
  clear h
  go_enter Tryz.func91, Tryz.ntmps91
  go_wp2_with fail
  have hb0 : ∀ o1 o2 o3, Below w.heap.size w (((w.alloc o1).alloc o2).alloc o3) := fun o1 o2 o3 => (((Below.refl _ _).alloc (Nat.le_refl _) _).alloc (by simp) _).alloc (by simp; omega) _
  refine (toCellS_own t.cn t.cK t.cV a0 c0 _ hS0 ((HA.out.1).below (hb0 _ _ _))).mono ?_
  rintro e w1 ⟨B0, rfl, hb, hr⟩
  obtain ⟨hc, hf⟩ := bcell29 hb
  have hz : w.heap.size + 3 ≤ w1.heap.size := by have := hb.size; simp at this; omega
  have e3 : ∀ o1 o2 o3 : Obj, (((w.alloc o1).alloc o2).alloc o3).heap.size = w.heap.size + 3 := fun _ _ _ => by simp
  rw [e3] at hr
  have HR0 : Hid (Own w1 (w.heap.size + 3) w1.heap.size (some ⟨B0, 0, none⟩) t.cn t.cK t.cV) := hr
  have HB1 : Hid (Below w.heap.size w w1) := below_then (hb0 _ _ _) hb
  have s0 : w1.cell? ⟨w.heap.size + 1, 0, none⟩ = some (.int .i64 0) := by rw [hc _ _ (by simp <;> omega)]; simp [go_sem]
  have s1 : w1.cell? ⟨w.heap.size + 1, 1, none⟩ = some (.int .i64 0) := by rw [hc _ _ (by simp <;> omega)]; simp [go_sem]
  have s2 : w1.cell? ⟨w.heap.size + 1, 2, none⟩ = some (.slice none 0 0) := by rw [hc _ _ (by simp <;> omega)]; simp [go_sem]
  have x0 : w1.cell? ⟨w.heap.size + 2, 0, none⟩ = some (.int .i64 t.id) := by rw [hc _ _ (by simp <;> omega)]; simp [go_sem]
  have x1 : w1.cell? ⟨w.heap.size + 2, 1, none⟩ = some (.int .i64 t.lsn) := by rw [hc _ _ (by simp <;> omega)]; simp [go_sem]
  have x2 : w1.cell? ⟨w.heap.size + 2, 2, none⟩ = some (.slice none 0 0) := by rw [hc _ _ (by simp <;> omega)]; simp [go_sem]
  have f1 : ∀ i, w1.frozen? ⟨w.heap.size + 1, i, none⟩ = false := fun i => by rw [hf _ _ (by simp <;> omega)]; simp [go_sem]
  have f2 : ∀ i, w1.frozen? ⟨w.heap.size + 2, i, none⟩ = false := fun i => by rw [hf _ _ (by simp <;> omega)]; simp [go_sem]
  clear hc hf hb hr e3 hb0
  have HWW : Hid (∀ w', Writes w.heap.size (w.heap.size + 3) w1 w' → w'.heap.size = w1.heap.size → Below w.heap.size w w' ∧ OwnInPg w' w.heap.size w'.heap.size (some ⟨B0, 0, none⟩) t) := fun w' h e =>
    ⟨h.below HB1.out (Nat.le_refl _), w.heap.size + 3, w1.heap.size, by omega, by omega, by omega, Nat.le_refl _, HR0.out.writes h (.inr (by omega))⟩
  clear HR0
  go_wp2_with fail
  refine bodyPost_ret (v := .agg #[.int .i64 t.id, .int .i64 t.lsn, .slice (some ⟨B0, 0, none⟩) t.cn t.cn]) (by simp [results, Tryz.results91, go_sem, s0, s1, s2]) rfl ⟨_, rfl, ?_⟩
  refine HWW.out _ ?_ (by simp [World.setCell])
  repeat (first | with_reducible exact Writes.refl _ _ _ | with_reducible refine Writes.setCell ?_ (by first | omega | (simp <;> omega)) (by first | omega | (simp <;> omega)) _)
theorem pref9_zPg (T : Nat → Pg) (k : Nat) : pref9 T (fun _ => zPg) k k = zPg := pref9_at _ _ _
set_option maxHeartbeats 2000000 in
theorem toPageS_any (n : Nat) (T : Nat → Pg) (a : Option Addr) (cap : Nat) (w : World) (hn : n ≤ 1048576) (hL : ∀ i, i < n → SmPg (T i)) (h : PgsAt w a n T) :
    Calls Tryz.prog 32 #[.slice a n cap] w fun e w' =>
      e = .returned (.slice (some ⟨w.heap.size, 0, none⟩) n n) ∧ Below w.heap.size w w' ∧ OwnPg w' w.heap.size w'.heap.size (some ⟨w.heap.size, 0, none⟩) n T := by
  have hmk := run_make_Pg n (by omega)
  have HL : Hid (∀ i, i < n → SmPg (T i)) := hL
  have HA : Hid (PgsAt w a n T) := h
  clear hL h
  go_enter Tryz.func32, Tryz.ntmps32
  go_wp2
  clear hmk
  go_loopw [4] (fun i wr => ∃ k : Nat, k ≤ n ∧ i = .int .i64 k ∧ Hid (Below w.heap.size w wr) ∧ Hid (OwnPg wr w.heap.size wr.heap.size (some ⟨w.heap.size, 0, none⟩) n (pref9 T (fun _ => zPg) k))) (fun i _ => n - (intOf i).toNat)
  case atStart => exact ⟨0, Nat.zero_le _, rfl, (Below.refl _ _).alloc (Nat.le_refl _) _, by rw [pref9_zero]; exact (made_Pg w n).wide (Nat.le_refl _) (by simp) (Nat.le_refl _)⟩
  case round =>
    obtain ⟨k, hk, rfl, HB, HO⟩ := hrel
    by_cases hlt : k < n
    · rcases HA.out.below HB.out with h | ⟨b, off, rfl, hl, hc⟩
      · omega
      obtain ⟨a0, c0, hC, hI, -⟩ := hc k hlt
      obtain ⟨q0, q1, q2⟩ := hC
      have HI : Hid (InPg wr a0 (T k)) := hI
      obtain ⟨h0, h1 | ⟨b1, off1, ha, hlo, hl1, hf, l, h, hd, hc1⟩⟩ := HO.out
      · omega
      simp only [Option.some.injEq, Addr.mk.injEq, and_true] at ha
      obtain ⟨rfl, rfl⟩ := ha
      obtain ⟨_, _, x0, y0, hC1, -⟩ := hc1 k hlt
      rw [pref9_zPg, Nat.zero_add] at hC1
      have hsz : w.heap.size < wr.heap.size := by omega
      have hlt' : (k : Int) < (n : Int) := by omega
      have hk0 : (0 : Int) ≤ (k : Int) := by omega
      clear hc hI hc1 hd
      go_wp2_with fail
      refine (toPage_own (T k) a0 c0 wr (HL.out k hlt) HI.out).mono ?_
      rintro e w1 ⟨B0, rfl, hb1, hr1⟩
      have HB1 : Hid (Below wr.heap.size wr w1) := hb1
      have HR1 : Hid (OwnInPg w1 wr.heap.size w1.heap.size (some ⟨B0, 0, none⟩) (T k)) := hr1
      have hC2 := hC1.block (hb1.block _ hsz)
      obtain ⟨z0, z1, z2⟩ := hC2
      replace hf : ∀ i, w1.frozen? ⟨w.heap.size, i, none⟩ = false := fun i => (hb1.frozen (p := ⟨_, _, none⟩) hsz).trans (hf i)
      clear hb1 hr1 hC1 q0 q1 q2
      go_wp2_with fail
      go_roundw
      case rel =>
        have HS := (HO.out.below HB1.out).store (t := T k) (c0 := (T k).cn) hlt (Nat.le_refl _) (Nat.le_refl _) HB1.out.size (Nat.le_refl _) (Nat.le_refl _) HR1.out
        rw [pref9_upf, Nat.zero_add] at HS
        refine ⟨k + 1, hlt, by go_num, setPg_below (t := T k) (o := k * 3) (a0 := (some ⟨B0, 0, none⟩)) (c0 := (T k).cn) (below_then HB.out HB1.out) (Nat.le_refl _), ?_⟩
        have es : (setPg w1 w.heap.size (k * 3) (T k) (some ⟨B0, 0, none⟩) (T k).cn).heap.size = w1.heap.size := setPg_size
        rw [← es] at HS
        exact HS
      case measure => simp [intOf]; omega
    · have hkn : k = n := by omega
      have HT : Hid (OwnPg wr w.heap.size wr.heap.size (some ⟨w.heap.size, 0, none⟩) n T) := by
        refine HO.out.congr fun i hi => pref9_lt _ _ (by omega)
      have hnl : ¬ ((k : Int) < (n : Int)) := by omega
      go_wp2_with fail
      go_ret
      exact ⟨rfl, HB.out, HT.out⟩
/-! ### equal -/
set_option maxHeartbeats 1000000 in
theorem eqPage_rec (t : Pg) (a0 : Option Addr) (c0 : Nat) (d0 : Option Addr) (e0 : Nat) (w : World) (hS : SmPg t) (h : InPg w a0 t) (h' : InPg w d0 t) :
    Calls Tryz.prog 103 #[.agg #[.int .i64 t.id, .int .i64 t.lsn, .slice a0 t.cn c0], .agg #[.int .i64 t.id, .int .i64 t.lsn, .slice d0 t.cn e0]] w fun e w' => e = .returned (.bool true) ∧ Below w.heap.size w w' := by
  obtain ⟨hS0, _⟩ := hS
  have HA : Hid (InPg w a0 t) := h
  have HD : Hid (InPg w d0 t) := h'
  clear h h'
  have hne0 : (t.id != t.id) = false := by simp
  have hne1 : (t.lsn != t.lsn) = false := by simp
  have hb0 : ∀ o1 o2, Below w.heap.size w ((w.alloc o1).alloc o2) := fun o1 o2 => (((Below.refl _ _).alloc (Nat.le_refl _) _).alloc (by simp) _)
  go_enter Tryz.func103, Tryz.ntmps103
  go_wp2_with fail
  refine (eqCellS_any t.cn t.cK t.cV a0 d0 c0 e0 _ (by omega) ((HA.out.1).below (hb0 _ _)) ((HD.out.1).below (hb0 _ _))).mono ?_
  rintro e w1 ⟨rfl, hb⟩
  have HB1 : Hid (Below w.heap.size w w1) := below_then (hb0 _ _) hb
  clear hb
  clear hb0
  go_wp2_with fail
  go_ret
  exact ⟨rfl, HB1.out⟩
set_option maxHeartbeats 4000000 in
theorem eqPageS_any (n : Nat) (T : Nat → Pg) (a a' : Option Addr) (cap cap' : Nat) (w : World) (hn : n ≤ 1048576) (hL : ∀ i, i < n → SmPg (T i)) (h : PgsAt w a n T) (h' : PgsAt w a' n T) :
    Calls Tryz.prog 41 #[.slice a n cap, .slice a' n cap'] w fun e w' => e = .returned (.bool true) ∧ Below w.heap.size w w' := by
  have HL : Hid (∀ i, i < n → SmPg (T i)) := hL
  have HA : Hid (PgsAt w a n T) := h
  have HA' : Hid (PgsAt w a' n T) := h'
  have hne : ((n : Int) != (n : Int)) = false := by simp
  clear hL h h'
  go_enter Tryz.func41, Tryz.ntmps41
  go_wp2_with fail
  go_loopw [5] (fun i wr => ∃ k : Nat, k ≤ n ∧ i = .int .i64 k ∧ Hid (Below w.heap.size w wr)) (fun i _ => n - (intOf i).toNat)
  case atStart => exact ⟨0, Nat.zero_le _, rfl, Below.refl _ _⟩
  case round =>
    obtain ⟨k, hk, rfl, HB⟩ := hrel
    by_cases hlt : k < n
    · have hlt' : (k : Int) < (n : Int) := by omega
      have hk0 : (0 : Int) ≤ (k : Int) := by omega
      rcases HA.out.below HB.out with h | ⟨b, off, rfl, hl, hc⟩
      · omega
      rcases HA'.out.below HB.out with h | ⟨b', off', rfl, hl', hc'⟩
      · omega
      obtain ⟨a0, c0, hC, hy1, -⟩ := hc k hlt
      obtain ⟨d0, e0, hC', hy2, -⟩ := hc' k hlt
      obtain ⟨q0, q1, q2⟩ := hC
      obtain ⟨y0, y1, y2⟩ := hC'
      have H1 : Hid (InPg wr a0 (T k)) := hy1
      have H2 : Hid (InPg wr d0 (T k)) := hy2
      have HLk : Hid (SmPg (T k)) := HL.out k hlt
      clear hc hc' hy1 hy2
      generalize T k = t at *
      go_wp2_with fail
      have hb0 : Below wr.heap.size wr wr.drew := (Below.refl _ _).drew
      go_region_held3 (fun w' => Below wr.heap.size wr w' ∧ w'.cell? ⟨b, off + k * 3, none⟩ = some (.int .i64 t.id) ∧ w'.cell? ⟨b, off + k * 3 + 1, none⟩ = some (.int .i64 t.lsn) ∧ w'.cell? ⟨b, off + k * 3 + 2, none⟩ = some (.slice a0 t.cn c0) ∧ w'.cell? ⟨b', off' + k * 3, none⟩ = some (.int .i64 t.id) ∧ w'.cell? ⟨b', off' + k * 3 + 1, none⟩ = some (.int .i64 t.lsn) ∧ w'.cell? ⟨b', off' + k * 3 + 2, none⟩ = some (.slice d0 t.cn e0)) (go_keep)
        (first | (go_at_call 103; refine (eqPage_rec t a0 c0 d0 e0 _ HLk.out (H1.out.below (by simp [*])) (H2.out.below (by simp [*]))).mono ?_; rintro e w1 ⟨rfl, hbq⟩; have hU := below_then (w := wr) (by simp [*]) hbq; have u0 := cell_below (B := b) (o := off + k * 3) (v := .int .i64 t.id) (by simp [*]) hbq; have u1 := cell_below (B := b) (o := off + k * 3 + 1) (v := .int .i64 t.lsn) (by simp [*]) hbq; have u2 := cell_below (B := b) (o := off + k * 3 + 2) (v := .slice a0 t.cn c0) (by simp [*]) hbq; have u3 := cell_below (B := b') (o := off' + k * 3) (v := .int .i64 t.id) (by simp [*]) hbq; have u4 := cell_below (B := b') (o := off' + k * 3 + 1) (v := .int .i64 t.lsn) (by simp [*]) hbq; have u5 := cell_below (B := b') (o := off' + k * 3 + 2) (v := .slice d0 t.cn e0) (by simp [*]) hbq))
      go_wp2_with fail
      go_roundw
      case rel => exact ⟨k + 1, hlt, by go_num, below_then HB.out (by assumption)⟩
      case measure => simp [intOf]; omega
    · have hkn : k = n := by omega
      have hnl : ¬ ((k : Int) < (n : Int)) := by omega
      go_wp2_with fail
      go_ret
      exact ⟨rfl, HB.out⟩
/-! ### opened -/
theorem cellsPg : Tryz.prog.cellsOf 130 = 3 := by kernel_rfl
theorem cellsPg0 : Tryz.prog.cellsOf 128 = 1 := by kernel_rfl
theorem openPgs {H : Type} {enc : TypeId × Value → H} {W : World} {fuel : Nat} {cs : List Value} {x : DataW H × List MemPlace}
    (h : DataW.trod enc Tryz.prog W 0 (fun _ => true) true fuel 22 cs = some x) :
    ∃ (a : Option Addr) (n cap : Nat) (T : Nat → Pg), cs = [.slice a n cap] ∧ n ≤ 9223372036854775807 ∧ (∀ i, i < n → BigPg (T i)) ∧ PgsAt W a n T := by
  rcases open_slice Tryz.underlying22 h with ⟨rfl, _⟩ | ⟨a, l, c, m, nn, D, Pl, rfl, _, hl, hm, hmm, _, hx⟩
  · exact ⟨none, 0, 0, fun _ => zPg, rfl, by omega, fun i hi => by omega, .inl rfl⟩
  · have hmc : m = c := by simpa using hmm
    unfold maxLen at hm
    rw [cellsPg] at hx
    have each : ∀ i, i < l → ∃ q : Pg × (Option Addr × Nat), W.cell? (a.add (i * 3)) = some (.int .i64 q.1.id) ∧ W.cell? (a.add (i * 3 + 1)) = some (.int .i64 q.1.lsn) ∧ W.cell? (a.add (i * 3 + 2)) = some (.slice q.2.1 q.1.cn q.2.2) ∧ BigPg q.1 ∧ InPg W q.2.1 q.1 ∧ q.1.cn ≤ q.2.2 := fun i hi => by
      obtain ⟨cs', h1, h2⟩ := hx i (by omega)
      obtain ⟨_, hlen, hcell⟩ := World.cells?_some h1
      obtain ⟨xs, k, hk, hxy, _, hxl, hf⟩ := DataW.trod_struct Tryz.underlying130 h2
      match xs, hxl, cs', hlen with
      | [y0, y1, y2], _, [v0, v1, v2], _ =>
        have g0 := hf 0 _ rfl
        have g1 := hf 1 _ rfl
        have g2 := hf 2 _ rfl
        simp [cellsI1, cellsPg0] at g0 g1 g2
        have e0 := hcell 0 (by omega)
        have e1 := hcell 1 (by omega)
        have e2 := hcell 2 (by omega)
        rw [add_add] at e0 e1 e2
        obtain ⟨z0, f0, _, _⟩ := DataW.trod_int Tryz.underlying2 g0
        obtain ⟨z1, f1, _, _⟩ := DataW.trod_int Tryz.underlying2 g1
        obtain ⟨p0, n0, r0, K0, V0, f2, k0, l0, m0⟩ := openCellS g2
        simp at f0 f1 f2
        subst f0 f1 f2
        exact ⟨(⟨z0, z1, n0, K0, V0⟩, (p0, r0)), by simpa using e0, by simpa using e1, by simpa using e2, ⟨l0, trivial⟩, ⟨m0, trivial⟩, k0⟩
    have nonE : Inhabited Pg := ⟨zPg⟩
    obtain ⟨q, hq⟩ := choose_lt each
    refine ⟨some a, l, c, fun i => (q i).1, rfl, by omega, fun i hi => (hq i hi).2.2.2.1, ?_⟩
    by_cases hz0 : l = 0
    · exact .inl hz0
    · obtain ⟨b, off, spot⟩ := a
      have hc0 := (hq 0 (by omega)).1
      have hspot : spot = none := by simpa [Addr.add] using World.cell?_spot hc0
      subst hspot
      refine .inr ⟨b, off, rfl, Go.block_lt_of_cell hc0, fun i hi => ?_⟩
      obtain ⟨k0, k1, k2, _, kb, kc⟩ := hq i hi
      rw [add_plain] at k0 k1 k2
      exact ⟨(q i).2.1, (q i).2.2, ⟨k0, by rw [Nat.add_assoc]; exact k1, by rw [Nat.add_assoc]; exact k2⟩, kb, kc⟩
theorem ownH_of_row {w : World} {b n : Nat} {K V : Nat → Int} (h : w.rowIs b 126 (n * 2) (cv K V)) : Own w b (b + 1) (some ⟨b, 0, none⟩) n K V :=
  ⟨h.lt, .inr ⟨b, 0, rfl, Nat.le_refl _, by omega, fun i hi => by have := h.cell (i := i * 2) (by omega); rw [cv_key] at this; simpa using this, fun i hi => by have := h.cell (i := i * 2 + 1) (by omega); rw [cv_val] at this; simpa using this,
    fun i _ => h.frozen _, fun i _ => h.frozen _⟩⟩
theorem infoHeld : (Tryz.prog.info? 126).map (fun i => (i.zero, i.size, i.bytes)) = some (some (.agg #[.int .i64 0, .int .i64 0]), 2, 16) := by kernel_rfl
/-- 'make([]impl.Cell, n)'. -/
theorem run_make_helds (n : Nat) (hn : n ≤ 8796093022208) (w : World) :
    (Instr.makeSlice 40 (.int .i64 (n : Int)) (.int .i64 (n : Int))).run Tryz.prog w = .ok (.slice (some ⟨w.heap.size, 0, none⟩) n n) (w.alloc (.cells (madeCells #[.int .i64 0, .int .i64 0] (n * 2)) 126)) := by
  obtain ⟨i, hi, hzz⟩ := Option.map_eq_some_iff.1 infoHeld
  simp only [Prod.mk.injEq] at hzz
  obtain ⟨hz, hs, hb⟩ := hzz
  have hr := run_make (P := Tryz.prog) w 40 126 i _ Tryz.underlying40 hi hz .i64 .i64 n n (by omega) (Int.le_refl _) (by rw [hb]; omega) (by omega)
  simp only [Int.toNat_natCast, hs] at hr
  exact hr
theorem made_helds (w : World) (n : Nat) : (w.alloc (.cells (madeCells #[.int .i64 0, .int .i64 0] (n * 2)) 126)).rowIs w.heap.size 126 (n * 2) (cv (fun _ => 0) (fun _ => 0)) :=
  ⟨_, blk_alloc_new _ _, size_madeCells _ _, fun i hi => by
    have h : i % 2 = 0 ∨ i % 2 = 1 := by omega
    rcases h with h | h <;> simp [madeCells, hi, cv, h]⟩
/-- laws.eqCell of one cell with itself. -/
theorem eqHeld_same (k v : Int) (w : World) : Calls Tryz.prog 107 #[.agg #[.int .i64 k, .int .i64 v], .agg #[.int .i64 k, .int .i64 v]] w fun e w' =>
    e = .returned (.bool true) ∧ ∃ c1 c2 : Array Value, w' = (w.alloc (.cells c1 126)).alloc (.cells c2 126) := by
  go_enter Tryz.func107, Tryz.ntmps107
  go_wp2
  go_ret
  exact ⟨rfl, _, _, rfl⟩
theorem toHeld_any (k v : Int) (w : World) : Calls Tryz.prog 95 #[.agg #[.int .i64 k, .int .i64 v]] w fun e w' =>
    e = .returned (.agg #[.int .i64 k, .int .i64 v]) ∧ Below w.heap.size w w' := by
  go_enter Tryz.func95, Tryz.ntmps95
  go_wp2
  exact bodyPost_ret (v := .agg #[.int .i64 k, .int .i64 v]) (by simp [results, Tryz.results95, go_sem]) rfl ⟨rfl, (((Below.refl _ _).alloc (Nat.le_refl _) _).alloc (by simp) _).alloc (by simp; omega) _⟩
set_option maxHeartbeats 400000 in
theorem eqHeldS_some (n : Nat) (K V : Nat → Int) (b off cap b' off' cap' : Nat) (w : World) (hn : n ≤ 140737488355328) (hbl : b < w.heap.size) (hbl' : b' < w.heap.size)
    (hk : ∀ i, i < n → w.cell? ⟨b, off + i * 2, none⟩ = some (.int .i64 (K i))) (hv : ∀ i, i < n → w.cell? ⟨b, off + i * 2 + 1, none⟩ = some (.int .i64 (V i)))
    (hk' : ∀ i, i < n → w.cell? ⟨b', off' + i * 2, none⟩ = some (.int .i64 (K i))) (hv' : ∀ i, i < n → w.cell? ⟨b', off' + i * 2 + 1, none⟩ = some (.int .i64 (V i))) :
    Calls Tryz.prog 44 #[.slice (some ⟨b, off, none⟩) n cap, .slice (some ⟨b', off', none⟩) n cap'] w fun e w' => e = .returned (.bool true) ∧ Below w.heap.size w w' := by
  go_enter Tryz.func44, Tryz.ntmps44
  go_wp2
  go_loopw [5] (fun i wr => ∃ k : Nat, k ≤ n ∧ i = .int .i64 k ∧ Below w.heap.size w wr) (fun i _ => n - (intOf i).toNat)
  case atStart => exact ⟨0, Nat.zero_le _, rfl, Below.refl _ _⟩
  case round =>
    obtain ⟨k, hk0, rfl, hb⟩ := hrel
    by_cases hlt : k < n
    · have h1 : wr.cell? ⟨b, off + k * 2, none⟩ = some (.int .i64 (K k)) := (hb.cell (p := ⟨b, _, none⟩) hbl).trans (hk k hlt)
      have h2 : wr.cell? ⟨b, off + k * 2 + 1, none⟩ = some (.int .i64 (V k)) := (hb.cell (p := ⟨b, _, none⟩) hbl).trans (hv k hlt)
      have h3 : wr.cell? ⟨b', off' + k * 2, none⟩ = some (.int .i64 (K k)) := (hb.cell (p := ⟨b', _, none⟩) hbl').trans (hk' k hlt)
      have h4 : wr.cell? ⟨b', off' + k * 2 + 1, none⟩ = some (.int .i64 (V k)) := (hb.cell (p := ⟨b', _, none⟩) hbl').trans (hv' k hlt)
      have hlt' : (k : Int) < (n : Int) := by omega
      clear hk hk' hv hv'
      go_wp2
      go_region_held3 (fun w' => w'.cell? ⟨b, off + k * 2, none⟩ = some (.int .i64 (K k)) ∧ w'.cell? ⟨b, off + k * 2 + 1, none⟩ = some (.int .i64 (V k)) ∧ w'.cell? ⟨b', off' + k * 2, none⟩ = some (.int .i64 (K k)) ∧ w'.cell? ⟨b', off' + k * 2 + 1, none⟩ = some (.int .i64 (V k))) (go_keep)
        (first | (go_at_call 107; refine (eqHeld_same (K k) (V k) _).mono ?_; rintro e w' ⟨rfl, o1, o2, rfl⟩))
      have HB : Hid (Below w.heap.size w wr) := hb
      clear hb
      go_wp2
      go_roundw
      case rel => exact ⟨k + 1, hlt, by go_num, by have hs := HB.out.size; repeat (first | exact HB.out | apply Below.drew | refine Below.alloc ?_ (by first | omega | (simp; omega)) _)⟩
      case measure => simp [intOf]; omega
    · have hkn : k = n := by omega
      clear hk hk' hv hv'
      go_wp2
      go_ret
      exact ⟨rfl, hb⟩
theorem eqHeldS_zero (a a' : Option Addr) (cap cap' : Nat) (w : World) :
    Calls Tryz.prog 44 #[.slice a 0 cap, .slice a' 0 cap'] w fun e w' => e = .returned (.bool true) ∧ Below w.heap.size w w' := by
  go_enter Tryz.func44, Tryz.ntmps44
  go_wp2
  go_loop [5] (fun i => i = .int .i64 0) (fun _ => 0)
  case atStart => exact rfl
  case round =>
    obtain rfl := hrel
    go_wp2
    go_ret
    exact ⟨rfl, Below.refl _ _⟩
theorem eqHeldS_any (n : Nat) (K V : Nat → Int) (a a' : Option Addr) (cap cap' : Nat) (w : World) (hn : n ≤ 140737488355328) (h : CellsAt w a n K V) (h' : CellsAt w a' n K V) :
    Calls Tryz.prog 44 #[.slice a n cap, .slice a' n cap'] w fun e w' => e = .returned (.bool true) ∧ Below w.heap.size w w' := by
  rcases h with rfl | ⟨b, off, rfl, hl, hk, hv⟩
  · exact eqHeldS_zero a a' cap cap' w
  · rcases h' with rfl | ⟨b', off', rfl, hl', hk', hv'⟩
    · exact eqHeldS_zero _ a' cap cap' w
    · exact eqHeldS_some n K V b off cap b' off' cap' w hn hl hl' hk hv hk' hv'
theorem cvH_step {K V : Nat → Int} {w : World} {b n k : Nat} (h : w.rowIs b 126 (n * 2) (cv (fun i => if i < k then K i else 0) (fun i => if i < k then V i else 0))) :
    ((w.setCell ⟨b, k * 2, none⟩ (.int .i64 (K k))).setCell ⟨b, k * 2 + 1, none⟩ (.int .i64 (V k))).rowIs b 126 (n * 2) (cv (fun i => if i < k + 1 then K i else 0) (fun i => if i < k + 1 then V i else 0)) := by
  refine ((h.set (k * 2) _).set (k * 2 + 1) _).congr fun j _ => ?_
  by_cases e1 : j = k * 2 + 1
  · subst e1; rw [if_pos rfl, cv_val]; simp
  · rw [if_neg e1]
    by_cases e2 : j = k * 2
    · subst e2; rw [if_pos rfl, cv_key]; simp
    · rw [if_neg e2]
      have : (j / 2 < k) ↔ (j / 2 < k + 1) := by omega
      unfold cv; simp only [this]
set_option maxHeartbeats 400000 in
theorem toHeldS_some (n : Nat) (K V : Nat → Int) (b off cap : Nat) (w : World) (hn : n ≤ 8796093022208) (hbl : b < w.heap.size)
    (hk : ∀ i, i < n → w.cell? ⟨b, off + i * 2, none⟩ = some (.int .i64 (K i))) (hv : ∀ i, i < n → w.cell? ⟨b, off + i * 2 + 1, none⟩ = some (.int .i64 (V i))) :
    Calls Tryz.prog 35 #[.slice (some ⟨b, off, none⟩) n cap] w fun e w' =>
      e = .returned (.slice (some ⟨w.heap.size, 0, none⟩) n n) ∧ Below w.heap.size w w' ∧ w'.rowIs w.heap.size 126 (n * 2) (cv K V) := by
  have hmk := run_make_helds n hn
  go_enter Tryz.func35, Tryz.ntmps35
  go_wp2
  go_loopw [4] (fun i wr => ∃ k : Nat, k ≤ n ∧ i = .int .i64 k ∧ Below w.heap.size w wr ∧ wr.rowIs w.heap.size 126 (n * 2) (cv (fun i => if i < k then K i else 0) (fun i => if i < k then V i else 0))) (fun i _ => n - (intOf i).toNat)
  case atStart => exact ⟨0, Nat.zero_le _, rfl, (Below.refl _ _).alloc (Nat.le_refl _) _, (made_helds w n).congr (fun i _ => by simp)⟩
  case round =>
    obtain ⟨k, hk0, rfl, hb, hrow⟩ := hrel
    by_cases hlt : k < n
    · have h1 : wr.cell? ⟨b, off + k * 2, none⟩ = some (.int .i64 (K k)) := (hb.cell (p := ⟨b, _, none⟩) hbl).trans (hk k hlt)
      have h2 : wr.cell? ⟨b, off + k * 2 + 1, none⟩ = some (.int .i64 (V k)) := (hb.cell (p := ⟨b, _, none⟩) hbl).trans (hv k hlt)
      obtain ⟨v3, hv3⟩ : ∃ v, wr.cell? ⟨w.heap.size, k * 2, none⟩ = some v := ⟨_, hrow.cell (by omega)⟩
      obtain ⟨v4, hv4⟩ : ∃ v, wr.cell? ⟨w.heap.size, k * 2 + 1, none⟩ = some v := ⟨_, hrow.cell (by omega)⟩
      have hf3 := hrow.frozen (k * 2)
      have hf4 := hrow.frozen (k * 2 + 1)
      have hsz := hrow.lt
      have HR : Hid (wr.rowIs w.heap.size 126 (n * 2) (cv (fun i => if i < k then K i else 0) (fun i => if i < k then V i else 0))) := hrow
      have HB : Hid (Below w.heap.size w wr) := hb
      clear hk hv hmk hrow hb
      go_wp2_with fail
      refine (toHeld_any (K k) (V k) wr).mono ?_
      rintro e w1 ⟨rfl, hb1⟩
      have g3 : w1.cell? ⟨w.heap.size, k * 2, none⟩ = some v3 := (hb1.cell (p := ⟨_, _, none⟩) hsz).trans hv3
      have g4 : w1.cell? ⟨w.heap.size, k * 2 + 1, none⟩ = some v4 := (hb1.cell (p := ⟨_, _, none⟩) hsz).trans hv4
      have f3 : w1.frozen? ⟨w.heap.size, k * 2, none⟩ = false := (hb1.frozen (p := ⟨_, _, none⟩) hsz).trans hf3
      have f4 : w1.frozen? ⟨w.heap.size, k * 2 + 1, none⟩ = false := (hb1.frozen (p := ⟨_, _, none⟩) hsz).trans hf4
      have HB1 : Hid (Below wr.heap.size wr w1) := hb1
      clear hb1 h1 h2 hv3 hv4 hf3 hf4
      go_wp2_with fail
      go_roundw
      case rel => exact ⟨k + 1, hlt, by go_num, ((HB.out.trans (HB1.out.mono HB.out.size)).setCell (Nat.le_refl _) _).setCell (Nat.le_refl _) _, cvH_step (HR.out.of_block (HB1.out.block _ hsz))⟩
      case measure => simp [intOf]; omega
    · have hkn : k = n := by omega
      have HR : Hid (wr.rowIs w.heap.size 126 (n * 2) (cv K V)) := hrow.congr (fun i hi => by
        have : i / 2 < k := by omega
        simp [cv, this])
      clear hk hv hmk hrow
      go_wp2
      go_ret
      exact ⟨rfl, hb, HR.out⟩
theorem toHeldS_zero (K V : Nat → Int) (a : Option Addr) (cap : Nat) (w : World) :
    Calls Tryz.prog 35 #[.slice a 0 cap] w fun e w' =>
      e = .returned (.slice (some ⟨w.heap.size, 0, none⟩) 0 0) ∧ Below w.heap.size w w' ∧ w'.rowIs w.heap.size 126 (0 * 2) (cv K V) := by
  have hmk : ∀ w, (Instr.makeSlice 40 (.int .i64 0) (.int .i64 0)).run Tryz.prog w = .ok (.slice (some ⟨w.heap.size, 0, none⟩) 0 0) (w.alloc (.cells #[] 126)) := fun w => by
    have h := run_make_helds 0 (by omega) w
    rw [made_none] at h
    exact h
  go_enter Tryz.func35, Tryz.ntmps35
  go_wp2
  go_loop [4] (fun i => i = .int .i64 0) (fun _ => 0)
  case atStart => exact rfl
  case round =>
    obtain rfl := hrel
    go_wp2
    go_ret
    exact ⟨rfl, (Below.refl _ _).alloc (Nat.le_refl _) _, World.rowIs_alloc w #[] 126 _ (fun i hi => by simp at hi)⟩
theorem toHeldS_any (n : Nat) (K V : Nat → Int) (a : Option Addr) (cap : Nat) (w : World) (hn : n ≤ 8796093022208) (h : CellsAt w a n K V) :
    Calls Tryz.prog 35 #[.slice a n cap] w fun e w' =>
      e = .returned (.slice (some ⟨w.heap.size, 0, none⟩) n n) ∧ Below w.heap.size w w' ∧ w'.rowIs w.heap.size 126 (n * 2) (cv K V) := by
  rcases h with rfl | ⟨b, off, rfl, hbl, hk, hv⟩
  · exact toHeldS_zero K V a cap w
  · exact toHeldS_some n K V b off cap w hn hbl hk hv
set_option maxHeartbeats 400000 in
theorem markHeldS_some (n : Nat) (K V : Nat → Int) (b off cap lo hi : Nat) (m : Int) (w : World) (hn : n ≤ 8796093022208) (hm1 : 0 ≤ m) (hm2 : m ≤ 8796093022208) (hlo : lo ≤ b) (hhi : b < hi) (hr : Row2 w b off n K V) :
    Calls Tryz.prog 49 #[.slice (some ⟨b, off, none⟩) n cap, .int .i64 m] w fun e w' =>
      e = .returned (.int .i64 (m + n * 2)) ∧ Writes lo hi w w' ∧ Row2 w' b off n (mk m K n) (mk (m + 1) V n) := by
  go_enter Tryz.func49, Tryz.ntmps49
  go_wp2
  go_loopw [1, 5] (fun q i wr => ∃ k : Nat, k ≤ n ∧ i = .int .i64 k ∧ q = .int .i64 (m + k * 2) ∧ Writes lo hi w wr ∧ Row2 wr b off n (mk m K k) (mk (m + 1) V k)) (fun _ i _ => n - (intOf i).toNat)
  case atStart => exact ⟨0, Nat.zero_le _, rfl, by go_num, Writes.refl _ _ _, ⟨fun i h => by rw [hr.1 i h]; simp [mk], fun i h => by rw [hr.2.1 i h]; simp [mk], hr.2.2.1, hr.2.2.2⟩⟩
  case round =>
    obtain ⟨k, hk0, rfl, rfl, hb, hrow⟩ := hrel
    by_cases hlt : k < n
    · have h1 := hrow.1 k hlt
      have h2 := hrow.2.1 k hlt
      have h3 := hrow.2.2.1 k hlt
      have h4 := hrow.2.2.2 k hlt
      generalize mk m K k k = x1 at h1
      generalize mk (m + 1) V k k = x2 at h2
      have HR : Hid (Row2 wr b off n (mk m K k) (mk (m + 1) V k)) := hrow
      have HB : Hid (Writes lo hi w wr) := hb
      clear hr hrow hb
      go_wp2
      go_roundw
      case rel => exact ⟨k + 1, hlt, by go_num, by go_num, (HB.out.setCell (p := ⟨b, _, none⟩) hlo hhi _).setCell (p := ⟨b, _, none⟩) hlo hhi _, row2_step hlt HR.out⟩
      case measure => simp [intOf]; omega
    · have hkn : k = n := by omega
      have HR : Hid (Row2 wr b off n (mk m K n) (mk (m + 1) V n)) := by have h := hrow; rw [hkn] at h; exact h
      clear hr hrow
      go_wp2
      go_ret
      exact ⟨ret_int (by rw [hkn]), hb, HR.out⟩
theorem markHeldS_zero (a : Option Addr) (cap lo hi : Nat) (m : Int) (w : World) (hm1 : 0 ≤ m) (hm2 : m ≤ 8796093022208) :
    Calls Tryz.prog 49 #[.slice a 0 cap, .int .i64 m] w fun e w' => e = .returned (.int .i64 m) ∧ w' = w := by
  go_enter Tryz.func49, Tryz.ntmps49
  go_wp2
  go_loop [1, 5] (fun q i => q = .int .i64 m ∧ i = .int .i64 0) (fun _ _ => 0)
  case atStart => exact ⟨rfl, rfl⟩
  case round =>
    obtain ⟨rfl, rfl⟩ := hrel
    go_wp2
    go_ret
    exact ⟨rfl, rfl⟩
theorem markHeldS_any (n : Nat) (K V : Nat → Int) (a : Option Addr) (cap lo hi : Nat) (m : Int) (w : World) (hn : n ≤ 8796093022208) (hm1 : 0 ≤ m) (hm2 : m ≤ 8796093022208) (h : Own w lo hi a n K V) :
    Calls Tryz.prog 49 #[.slice a n cap, .int .i64 m] w fun e w' =>
      e = .returned (.int .i64 (m + n * 2)) ∧ Writes lo hi w w' ∧ Own w' lo hi a n (mK m) (mK (m + 1)) := by
  obtain ⟨h0, rfl | ⟨b, off, rfl, hlo, hhi, hr⟩⟩ := h
  · refine (markHeldS_zero a cap lo hi m w hm1 hm2).mono ?_
    rintro e w' ⟨rfl, rfl⟩
    exact ⟨ret_int (by omega), Writes.refl _ _ _, h0, .inl rfl⟩
  · refine (markHeldS_some n K V b off cap lo hi m w hn hm1 hm2 hlo hhi hr).mono ?_
    rintro e w' ⟨rfl, hw, h1, h2, h3⟩
    exact ⟨rfl, hw, Nat.le_trans h0 hw.size, .inr ⟨b, off, rfl, hlo, hhi, fun i hi => by rw [h1 i hi, mk_lt hi]; rfl, fun i hi => by rw [h2 i hi, mk_lt hi]; rfl, h3⟩⟩
set_option maxHeartbeats 400000 in
theorem heldHeldS_some (n b off cap : Nat) (m : Int) (w : World) (hn : n ≤ 8796093022208) (hm1 : 0 ≤ m) (hm2 : m ≤ 8796093022208)
    (hk : ∀ i, i < n → w.cell? ⟨b, off + i * 2, none⟩ = some (.int .i64 (mK m i))) (hv : ∀ i, i < n → w.cell? ⟨b, off + i * 2 + 1, none⟩ = some (.int .i64 (mK (m + 1) i))) :
    Calls Tryz.prog 115 #[.slice (some ⟨b, off, none⟩) n cap, .int .i64 m] w fun e w' => e = .returned (.int .i64 (m + n * 2)) ∧ w' = w := by
  go_enter Tryz.func115, Tryz.ntmps115
  go_wp2
  go_loop [1, 5] (fun q i => ∃ k : Nat, k ≤ n ∧ i = .int .i64 k ∧ q = .int .i64 (m + k * 2)) (fun _ i => n - (intOf i).toNat)
  case atStart => exact ⟨0, Nat.zero_le _, rfl, by go_num⟩
  case round =>
    obtain ⟨k, hk0, rfl, rfl⟩ := hrel
    by_cases hlt : k < n
    · have h1 : w.cell? ⟨b, off + k * 2, none⟩ = some (.int .i64 (m + k * 2)) := hk k hlt
      have h2 : w.cell? ⟨b, off + k * 2 + 1, none⟩ = some (.int .i64 (m + k * 2 + 1)) := by rw [hv k hlt]; unfold mK; congr 2; omega
      clear hk hv
      go_wp2
      go_round
      case rel => exact ⟨k + 1, hlt, by go_num, by go_num⟩
      case measure => simp [intOf]; omega
    · have hkn : k = n := by omega
      clear hk hv
      go_wp2
      go_ret
      exact ⟨rfl, rfl⟩
theorem heldHeldS_zero (a : Option Addr) (cap : Nat) (m : Int) (w : World) (hm1 : 0 ≤ m) (hm2 : m ≤ 8796093022208) :
    Calls Tryz.prog 115 #[.slice a 0 cap, .int .i64 m] w fun e w' => e = .returned (.int .i64 m) ∧ w' = w := by
  go_enter Tryz.func115, Tryz.ntmps115
  go_wp2
  go_loop [1, 5] (fun q i => q = .int .i64 m ∧ i = .int .i64 0) (fun _ _ => 0)
  case atStart => exact ⟨rfl, rfl⟩
  case round =>
    obtain ⟨rfl, rfl⟩ := hrel
    go_wp2
    go_ret
    exact ⟨rfl, rfl⟩
theorem heldHeldS_any (n : Nat) (a : Option Addr) (cap : Nat) (m : Int) (w : World) (hn : n ≤ 8796093022208) (hm1 : 0 ≤ m) (hm2 : m ≤ 8796093022208) (h : CellsAt w a n (mK m) (mK (m + 1))) :
    Calls Tryz.prog 115 #[.slice a n cap, .int .i64 m] w fun e w' => e = .returned (.int .i64 (m + n * 2)) ∧ w' = w := by
  rcases h with rfl | ⟨b, off, rfl, _, hk, hv⟩
  · refine (heldHeldS_zero a cap m w hm1 hm2).mono ?_
    rintro e w' ⟨rfl, rfl⟩
    exact ⟨ret_int (by omega), rfl⟩
  · exact heldHeldS_some n b off cap m w hn hm1 hm2 hk hv
theorem szHeldS_x (n : Nat) (a : Option Addr) (cap : Nat) (x : Int) (w : World) (hn : n ≤ 9223372036854775807) (h0 : 0 ≤ x) (h1 : x ≤ 1048576) :
    Calls Tryz.prog 22 #[.slice a n cap, .int .i64 x] w fun e w' => e = .returned (.int .i64 (if x - n < 0 then -1 else x - n)) ∧ w' = w := by
  by_cases h : x - (n : Int) < 0
  · go_enter Tryz.func22, Tryz.ntmps22
    go_wp2
    go_ret
    exact ⟨rfl, rfl⟩
  · go_enter Tryz.func22, Tryz.ntmps22
    go_wp2
    go_ret
    exact ⟨rfl, rfl⟩
theorem szHeldS_r (n : Nat) (a : Option Addr) (cap : Nat) (x : Int) (w : World) (hn : n ≤ 9223372036854775807) (h0 : 0 ≤ x) (h1 : x ≤ 1048576) :
    Calls Tryz.prog 22 #[.slice a n cap, .int .i64 x] w fun e w' => Below w.heap.size w w' ∧ ∃ r : Int, e = .returned (.int .i64 r) ∧ (r = -1 ∨ (0 ≤ r ∧ r = x - n)) := by
  refine (szHeldS_x n a cap x w hn h0 h1).mono ?_
  rintro e w' ⟨rfl, rfl⟩
  refine ⟨Below.refl _ _, _, rfl, ?_⟩
  by_cases h : x - (n : Int) < 0
  · exact .inl (if_pos h)
  · exact .inr (by rw [if_neg h]; omega)
theorem toHeldS_own (n : Nat) (K V : Nat → Int) (a : Option Addr) (cap : Nat) (w : World) (hn : n ≤ 1048576) (h : CellsAt w a n K V) :
    Calls Tryz.prog 35 #[.slice a n cap] w fun e w' => ∃ b, e = .returned (.slice (some ⟨b, 0, none⟩) n n) ∧ Below w.heap.size w w' ∧ Own w' w.heap.size w'.heap.size (some ⟨b, 0, none⟩) n K V := by
  refine (toHeldS_any n K V a cap w (by omega) h).mono ?_
  rintro e w' ⟨rfl, hb, hr⟩
  exact ⟨_, rfl, hb, (ownH_of_row hr).wide (Nat.le_refl _) hr.lt (Nat.le_refl _)⟩
theorem cellsHeld : Tryz.prog.cellsOf 148 = 2 := by kernel_rfl
theorem openHeldS {H : Type} {enc : TypeId × Value → H} {W : World} {fuel : Nat} {cs : List Value} {x : DataW H × List MemPlace}
    (h : DataW.trod enc Tryz.prog W 0 (fun _ => true) true fuel 30 cs = some x) :
    ∃ (a : Option Addr) (n cap : Nat) (K V : Nat → Int), cs = [.slice a n cap] ∧ n ≤ cap ∧ n ≤ 9223372036854775807 ∧ CellsAt W a n K V := by
  rcases open_slice Tryz.underlying30 h with ⟨rfl, _⟩ | ⟨a, l, c, m, nn, D, Pl, rfl, _, hl, hm, hmm, _, hx⟩
  · exact ⟨none, 0, 0, fun _ => 0, fun _ => 0, rfl, Nat.le_refl _, by omega, .inl rfl⟩
  · have hmc : m = c := by simpa using hmm
    unfold maxLen at hm
    rw [cellsHeld] at hx
    have each : ∀ i, i < l → ∃ q : Int × Int, W.cell? (a.add (i * 2)) = some (.int .i64 q.1) ∧ W.cell? (a.add (i * 2 + 1)) = some (.int .i64 q.2) := fun i hi => by
      obtain ⟨cs', h1, h2⟩ := hx i (by omega)
      obtain ⟨_, hlen, hcell⟩ := World.cells?_some h1
      obtain ⟨xs, k, hk, hxy, _, hxl, hf⟩ := DataW.trod_struct Tryz.underlying148 h2
      match xs, hxl, cs', hlen with
      | [y0, y1], _, [v0, v1], _ =>
        have g0 := hf 0 _ rfl
        have g1 := hf 1 _ rfl
        simp [cellsI1] at g0 g1
        have e0 := hcell 0 (by omega)
        have e1 := hcell 1 (by omega)
        rw [add_add] at e0 e1
        obtain ⟨z0, f0, _, _⟩ := DataW.trod_int Tryz.underlying2 g0
        obtain ⟨z1, f1, _, _⟩ := DataW.trod_int Tryz.underlying2 g1
        simp at f0 f1
        subst f0 f1
        exact ⟨(z0, z1), by simpa using e0, by simpa using e1⟩
    obtain ⟨q, hq⟩ := choose_lt each
    refine ⟨some a, l, c, fun i => (q i).1, fun i => (q i).2, rfl, by omega, by omega, ?_⟩
    by_cases hz0 : l = 0
    · exact .inl hz0
    · obtain ⟨b, off, spot⟩ := a
      have hc0 := (hq 0 (by omega)).1
      have hspot : spot = none := by simpa [Addr.add] using World.cell?_spot hc0
      subst hspot
      refine .inr ⟨b, off, rfl, Go.block_lt_of_cell hc0, fun i hi => ?_, fun i hi => ?_⟩
      · have k0 := (hq i hi).1
        rw [add_plain] at k0
        exact k0
      · have k1 := (hq i hi).2
        rw [add_plain] at k1
        rw [Nat.add_assoc]; exact k1
end Go.Proofs.YtaokclhcmgbgnaaGreat
