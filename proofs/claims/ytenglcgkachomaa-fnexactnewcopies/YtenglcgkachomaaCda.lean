/- Copies of one in memory: what they hold, sizes, copies, equal, opened. -/
import Derived.Test.YtenglcgkachomaaRb
namespace Go.Proofs.Ytenglcgkachomaa
open Go.ChangeShapes Go.WideShapes Go.ChangeAt Go.RowKit Go.Deep Go.Joins
set_option linter.unusedVariables false
set_option maxRecDepth 20000

structure Cd where
  id : Int
  am : Int
  st : Int
  sn : Nat
  sK : Nat → Int
  sV : Nat → Int
  wn : Nat
  wK : Nat → Int
  wV : Nat → Int
  rn : Nat
  rF : Nat → Int
def zCd : Cd := ⟨0, 0, 0, 0, fun _ => 0, fun _ => 0, 0, fun _ => 0, fun _ => 0, 0, fun _ => 0⟩
def BigCd (t : Cd) : Prop := (t.sn ≤ 9223372036854775807) ∧ (t.wn ≤ 9223372036854775807) ∧ (t.rn ≤ 9223372036854775807)
def SmCd (t : Cd) : Prop := (t.sn ≤ 1048576) ∧ (t.wn ≤ 1048576) ∧ (t.rn ≤ 1048576)
/-- How many elements its slices have. -/
def szCd (t : Cd) : Nat := t.sn + t.wn + t.rn
/-- What its slices hold. -/
def InCd (w : World) (a0 a1 a2 : Option Addr) (t : Cd) : Prop := CellsAt w a0 t.sn t.sK t.sV ∧ CellsAt w a1 t.wn t.wK t.wV ∧ IntsAt w a2 t.rn t.rF
theorem InCd.below {w w' : World} {a0 a1 a2 : Option Addr} {t : Cd} (h : InCd w a0 a1 a2 t) (hb : Below w.heap.size w w') : InCd w' a0 a1 a2 t := by
  obtain ⟨h0, h1, h2⟩ := h
  exact ⟨h0.below hb, h1.below hb, h2.below hb⟩
/-- The cells of one. -/
def CCd (w : World) (b o : Nat) (t : Cd) (a0 : Option Addr) (c0 : Nat) (a1 : Option Addr) (c1 : Nat) (a2 : Option Addr) (c2 : Nat) : Prop :=
  w.cell? ⟨b, o, none⟩ = some (.int .i64 t.id) ∧ w.cell? ⟨b, o + 1, none⟩ = some (.int .i64 t.am) ∧ w.cell? ⟨b, o + 2, none⟩ = some (.int .i64 t.st) ∧ w.cell? ⟨b, o + 3, none⟩ = some (.slice a0 t.sn c0) ∧ w.cell? ⟨b, o + 4, none⟩ = some (.slice a1 t.wn c1) ∧ w.cell? ⟨b, o + 5, none⟩ = some (.slice a2 t.rn c2)
theorem CCd.block {w w' : World} {b o : Nat} {t : Cd} {a0 a1 a2 : Option Addr} {c0 c1 c2 : Nat} (h : CCd w b o t a0 c0 a1 c1 a2 c2) (e : w'.heap[b]? = w.heap[b]?) : CCd w' b o t a0 c0 a1 c1 a2 c2 := by
  have g : ∀ i, w'.cell? ⟨b, i, none⟩ = w.cell? ⟨b, i, none⟩ := fun i => World.cell?_of_block (w := w) (a := ⟨b, i, none⟩) e
  obtain ⟨h0, h1, h2, h3, h4, h5⟩ := h
  exact ⟨(g _).trans h0, (g _).trans h1, (g _).trans h2, (g _).trans h3, (g _).trans h4, (g _).trans h5⟩
/-- In blocks of their own, one behind the other, from l on, below h. -/
def OwnInCd (w : World) (l h : Nat) (a0 a1 a2 : Option Addr) (t : Cd) : Prop := ∃ m0 m1 m2 m3, l ≤ m0 ∧ m0 ≤ m1 ∧ m1 ≤ m2 ∧ m2 ≤ m3 ∧ m3 ≤ h ∧ h ≤ w.heap.size ∧ Own w m0 m1 a0 t.sn t.sK t.sV ∧ Own w m1 m2 a1 t.wn t.wK t.wV ∧ OwnI w m2 m3 a2 t.rn t.rF
theorem OwnInCd.writes {w w' : World} {l h lo' hi' : Nat} {a0 a1 a2 : Option Addr} {t : Cd} (k : OwnInCd w l h a0 a1 a2 t) (hw : Writes lo' hi' w w') (hd : h ≤ lo' ∨ hi' ≤ l) : OwnInCd w' l h a0 a1 a2 t := by
  obtain ⟨m0, m1, m2, m3, g0, g1, g2, g3, g4, gz, k0, k1, k2⟩ := k
  exact ⟨m0, m1, m2, m3, g0, g1, g2, g3, g4, Nat.le_trans gz hw.size, k0.writes hw (by omega), k1.writes hw (by omega), k2.writes hw (by omega)⟩
theorem OwnInCd.lt {w : World} {l h : Nat} {a0 a1 a2 : Option Addr} {t : Cd} (k : OwnInCd w l h a0 a1 a2 t) : l ≤ h ∧ h ≤ w.heap.size := by
  obtain ⟨m0, m1, m2, m3, g0, g1, g2, g3, g4, gz, k0, k1, k2⟩ := k
  exact ⟨by omega, gz⟩
theorem OwnInCd.at {w : World} {l h : Nat} {a0 a1 a2 : Option Addr} {t : Cd} (k : OwnInCd w l h a0 a1 a2 t) : InCd w a0 a1 a2 t := by
  obtain ⟨m0, m1, m2, m3, g0, g1, g2, g3, g4, gz, k0, k1, k2⟩ := k
  exact ⟨k0.at, k1.at, k2.at⟩
theorem OwnInCd.below {w w' : World} {l h : Nat} {a0 a1 a2 : Option Addr} {t : Cd} (k : OwnInCd w l h a0 a1 a2 t) (hb : Below w.heap.size w w') : OwnInCd w' l h a0 a1 a2 t :=
  k.writes (Writes.of_below (lo := h) (hi := h) hb) (.inl (Nat.le_refl _))
theorem OwnInCd.wide {w : World} {l h l' h' : Nat} {a0 a1 a2 : Option Addr} {t : Cd} (k : OwnInCd w l h a0 a1 a2 t) (h1 : l' ≤ l) (h2 : h ≤ h') (h3 : h' ≤ w.heap.size) : OwnInCd w l' h' a0 a1 a2 t := by
  obtain ⟨m0, m1, m2, m3, g0, g1, g2, g3, g4, gz, k0, k1, k2⟩ := k
  exact ⟨m0, m1, m2, m3, by omega, by omega, by omega, by omega, by omega, h3, k0, k1, k2⟩
/-- The slice at 'a' has the n copies of one T. -/
def CdsAt (w : World) (a : Option Addr) (n : Nat) (T : Nat → Cd) : Prop :=
  n = 0 ∨ ∃ b off, a = some ⟨b, off, none⟩ ∧ b < w.heap.size ∧ ∀ i, i < n → ∃ a0 c0 a1 c1 a2 c2, CCd w b (off + i * 6) (T i) a0 c0 a1 c1 a2 c2 ∧ InCd w a0 a1 a2 (T i) ∧ (T i).sn ≤ c0 ∧ (T i).wn ≤ c1 ∧ (T i).rn ≤ c2
theorem CdsAt.below {w w' : World} {a : Option Addr} {n : Nat} {T : Nat → Cd} (h : CdsAt w a n T) (hb : Below w.heap.size w w') : CdsAt w' a n T := by
  rcases h with h | ⟨b, off, ha, hl, hc⟩
  · exact .inl h
  · refine .inr ⟨b, off, ha, Nat.lt_of_lt_of_le hl hb.size, fun i hi => ?_⟩
    obtain ⟨a0, c0, a1, c1, a2, c2, h1, h2, h3⟩ := hc i hi
    exact ⟨a0, c0, a1, c1, a2, c2, h1.block (hb.block _ hl), h2.below hb, h3⟩
/-- The same in blocks of their own, from lo on, below hi. -/
def OwnCd (w : World) (lo hi : Nat) (a : Option Addr) (n : Nat) (T : Nat → Cd) : Prop :=
  hi ≤ w.heap.size ∧ (n = 0 ∨ ∃ b off, a = some ⟨b, off, none⟩ ∧ lo ≤ b ∧ b < hi ∧ (∀ i, w.frozen? ⟨b, i, none⟩ = false) ∧ ∃ l h : Nat → Nat, (∀ i j, i < n → j < n → i ≠ j → h i ≤ l j ∨ h j ≤ l i) ∧
    ∀ i, i < n → (b < l i ∨ h i ≤ b) ∧ (h i = 0 ∨ lo ≤ l i ∧ h i ≤ hi) ∧ ∃ a0 c0 a1 c1 a2 c2, CCd w b (off + i * 6) (T i) a0 c0 a1 c1 a2 c2 ∧ ((T i).sn ≤ c0 ∧ (T i).wn ≤ c1 ∧ (T i).rn ≤ c2) ∧ OwnInCd w (l i) (h i) a0 a1 a2 (T i))
theorem OwnCd.at {w : World} {lo hi : Nat} {a : Option Addr} {n : Nat} {T : Nat → Cd} (h : OwnCd w lo hi a n T) : CdsAt w a n T := by
  obtain ⟨h0, h1 | ⟨b, off, ha, _, hl, _, l, h, _, hc⟩⟩ := h
  · exact .inl h1
  · refine .inr ⟨b, off, ha, by omega, fun i hi => ?_⟩
    obtain ⟨_, _, a0, c0, a1, c1, a2, c2, k1, k2, k3⟩ := hc i hi
    exact ⟨a0, c0, a1, c1, a2, c2, k1, k3.at, k2⟩
theorem OwnCd.writes {w w' : World} {lo hi lo' hi' : Nat} {a : Option Addr} {n : Nat} {T : Nat → Cd} (h : OwnCd w lo hi a n T) (hw : Writes lo' hi' w w') (hd : hi ≤ lo' ∨ hi' ≤ lo) : OwnCd w' lo hi a n T := by
  obtain ⟨h0, h1 | ⟨b, off, ha, hlo, hl, hf, l, h, hj, hc⟩⟩ := h
  · exact ⟨Nat.le_trans h0 hw.size, .inl h1⟩
  · have e := hw.block b (by omega) (by omega)
    refine ⟨Nat.le_trans h0 hw.size, .inr ⟨b, off, ha, hlo, hl, fun i => (World.frozen?_of_block (w := w) (a := ⟨b, i, none⟩) e).trans (hf i), l, h, hj, fun i hi => ?_⟩⟩
    obtain ⟨k0, k1, a0, c0, a1, c1, a2, c2, k2, k3, k4⟩ := hc i hi
    have := k4.lt
    exact ⟨k0, k1, a0, c0, a1, c1, a2, c2, k2.block e, k3, k4.writes hw (by omega)⟩
theorem OwnCd.below {w w' : World} {lo hi : Nat} {a : Option Addr} {n : Nat} {T : Nat → Cd} (h : OwnCd w lo hi a n T) (hb : Below w.heap.size w w') : OwnCd w' lo hi a n T :=
  h.writes (Writes.of_below (lo := hi) (hi := hi) hb) (.inl (Nat.le_refl _))
theorem OwnCd.wide {w : World} {lo hi lo' hi' : Nat} {a : Option Addr} {n : Nat} {T : Nat → Cd} (h : OwnCd w lo hi a n T) (h1 : lo' ≤ lo) (h2 : hi ≤ hi') (h3 : hi' ≤ w.heap.size) : OwnCd w lo' hi' a n T := by
  obtain ⟨h0, h4 | ⟨b, off, ha, hlo, hl, hf, l, h, hj, hc⟩⟩ := h
  · exact ⟨h3, .inl h4⟩
  · refine ⟨h3, .inr ⟨b, off, ha, by omega, by omega, hf, l, h, hj, fun i hi => ?_⟩⟩
    obtain ⟨k0, k1, r⟩ := hc i hi
    exact ⟨k0, by omega, r⟩
theorem OwnCd.congr {w : World} {lo hi : Nat} {a : Option Addr} {n : Nat} {T T' : Nat → Cd} (h : OwnCd w lo hi a n T) (e : ∀ i, i < n → T i = T' i) : OwnCd w lo hi a n T' := by
  obtain ⟨h0, h1 | ⟨b, off, ha, hlo, hl, hf, l, h, hj, hc⟩⟩ := h
  · exact ⟨h0, .inl h1⟩
  · exact ⟨h0, .inr ⟨b, off, ha, hlo, hl, hf, l, h, hj, fun i hi => by rw [← e i hi]; exact hc i hi⟩⟩
/-! ### one is stored -/
def setCd (w : World) (b o : Nat) (t : Cd) (a0 : Option Addr) (c0 : Nat) (a1 : Option Addr) (c1 : Nat) (a2 : Option Addr) (c2 : Nat) : World := (((((w.setCell ⟨b, o, none⟩ (.int .i64 t.id)).setCell ⟨b, o + 1, none⟩ (.int .i64 t.am)).setCell ⟨b, o + 2, none⟩ (.int .i64 t.st)).setCell ⟨b, o + 3, none⟩ (.slice a0 t.sn c0)).setCell ⟨b, o + 4, none⟩ (.slice a1 t.wn c1)).setCell ⟨b, o + 5, none⟩ (.slice a2 t.rn c2)
theorem setCd_size {w : World} {b o : Nat} {t : Cd} {a0 a1 a2 : Option Addr} {c0 c1 c2 : Nat} : (setCd w b o t a0 c0 a1 c1 a2 c2).heap.size = w.heap.size := by simp [setCd, World.setCell]
theorem setCd_far {w : World} {b o o' : Nat} {t : Cd} {a0 a1 a2 : Option Addr} {c0 c1 c2 : Nat} (h : o' < o ∨ o + 5 < o') : (setCd w b o t a0 c0 a1 c1 a2 c2).cell? ⟨b, o', none⟩ = w.cell? ⟨b, o', none⟩ := by
  unfold setCd
  rw [setO (by omega), setO (by omega), setO (by omega), setO (by omega), setO (by omega), setO (by omega)]
theorem setCd_frozen {w : World} {b o : Nat} {t : Cd} {a0 a1 a2 : Option Addr} {c0 c1 c2 : Nat} {p : Addr} : (setCd w b o t a0 c0 a1 c1 a2 c2).frozen? p = w.frozen? p := by
  unfold setCd
  rw [World.frozen?_setCell, World.frozen?_setCell, World.frozen?_setCell, World.frozen?_setCell, World.frozen?_setCell, World.frozen?_setCell]
theorem setCd_same {w : World} {b o : Nat} {t t0 : Cd} {a0 a1 a2 : Option Addr} {c0 c1 c2 : Nat} {x0 x1 x2 : Option Addr} {y0 y1 y2 : Nat} (h : CCd w b o t0 x0 y0 x1 y1 x2 y2) : CCd (setCd w b o t a0 c0 a1 c1 a2 c2) b o t a0 c0 a1 c1 a2 c2 := by
  obtain ⟨h0, h1, h2, h3, h4, h5⟩ := h
  refine ⟨?_, ?_, ?_, ?_, ?_, ?_⟩
  · unfold setCd; rw [setO (by omega), setO (by omega), setO (by omega), setO (by omega), setO (by omega)]; exact setS h0
  · unfold setCd; rw [setO (by omega), setO (by omega), setO (by omega), setO (by omega)]; exact setS (by rw [setO (by omega)]; exact h1)
  · unfold setCd; rw [setO (by omega), setO (by omega), setO (by omega)]; exact setS (by rw [setO (by omega), setO (by omega)]; exact h2)
  · unfold setCd; rw [setO (by omega), setO (by omega)]; exact setS (by rw [setO (by omega), setO (by omega), setO (by omega)]; exact h3)
  · unfold setCd; rw [setO (by omega)]; exact setS (by rw [setO (by omega), setO (by omega), setO (by omega), setO (by omega)]; exact h4)
  · unfold setCd; exact setS (by rw [setO (by omega), setO (by omega), setO (by omega), setO (by omega), setO (by omega)]; exact h5)
theorem setCd_below {m : Nat} {w wr : World} {b o : Nat} {t : Cd} {a0 a1 a2 : Option Addr} {c0 c1 c2 : Nat} (h : Below m w wr) (h1 : m ≤ b) : Below m w (setCd wr b o t a0 c0 a1 c1 a2 c2) :=
  (((((h.setCell (p := ⟨b, _, none⟩) h1 _).setCell (p := ⟨b, _, none⟩) h1 _).setCell (p := ⟨b, _, none⟩) h1 _).setCell (p := ⟨b, _, none⟩) h1 _).setCell (p := ⟨b, _, none⟩) h1 _).setCell (p := ⟨b, _, none⟩) h1 _
theorem setCd_writes {lo hi : Nat} {w wr : World} {b o : Nat} {t : Cd} {a0 a1 a2 : Option Addr} {c0 c1 c2 : Nat} (h : Writes lo hi w wr) (h1 : lo ≤ b) (h2 : b < hi) : Writes lo hi w (setCd wr b o t a0 c0 a1 c1 a2 c2) :=
  (((((h.setCell (p := ⟨b, _, none⟩) h1 h2 _).setCell (p := ⟨b, _, none⟩) h1 h2 _).setCell (p := ⟨b, _, none⟩) h1 h2 _).setCell (p := ⟨b, _, none⟩) h1 h2 _).setCell (p := ⟨b, _, none⟩) h1 h2 _).setCell (p := ⟨b, _, none⟩) h1 h2 _
theorem OwnCd.store {w : World} {lo hi hi' l' h' b off n j : Nat} {T : Nat → Cd} {t : Cd} {a0 a1 a2 : Option Addr} {c0 c1 c2 : Nat} (h : OwnCd w lo hi (some ⟨b, off, none⟩) n T) (hj : j < n) (e1 : hi ≤ l') (e2 : h' ≤ hi') (e3 : hi ≤ hi') (e4 : hi' ≤ w.heap.size) (hn : t.sn ≤ c0 ∧ t.wn ≤ c1 ∧ t.rn ≤ c2) (hu : OwnInCd w l' h' a0 a1 a2 t) :
    OwnCd (setCd w b (off + j * 6) t a0 c0 a1 c1 a2 c2) lo hi' (some ⟨b, off, none⟩) n (upf9 T j t) := by
  obtain ⟨h0, h1 | ⟨b1, off1, ha, hlo, hl, hf, l, h, hd, hc⟩⟩ := h
  · omega
  simp only [Option.some.injEq, Addr.mk.injEq, and_true] at ha
  obtain ⟨rfl, rfl⟩ := ha
  refine ⟨by rw [setCd_size]; exact e4, .inr ⟨b, off, rfl, hlo, by omega, fun i => by rw [setCd_frozen]; exact hf i, fun i => if i = j then l' else l i, fun i => if i = j then h' else h i, fun i q hi hq hne => ?_, fun i hi => ?_⟩⟩
  · by_cases c1 : i = j <;> by_cases c2 : q = j <;> simp only [c1, c2, if_true, if_false]
    · omega
    · have := (hc q hq).2.1; omega
    · have := (hc i hi).2.1; omega
    · exact hd i q hi hq hne
  · obtain ⟨k0, k1, x0, y0, x1, y1, x2, y2, k2, k3, k4⟩ := hc i hi
    have k6 := k4.lt
    have k7 := hu.lt
    by_cases e : i = j
    · subst e
      simp only [if_true, upf9_eq]
      exact ⟨by omega, by omega, a0, c0, a1, c1, a2, c2, setCd_same k2, hn, hu.writes (lo' := b) (hi' := b + 1) (setCd_writes (Writes.refl _ _ _) (Nat.le_refl _) (Nat.lt_succ_self _)) (by omega)⟩
    · simp only [if_neg e]
      rw [upf9_ne _ _ e]
      refine ⟨k0, by omega, x0, y0, x1, y1, x2, y2, ?_, k3, k4.writes (lo' := b) (hi' := b + 1) (setCd_writes (Writes.refl _ _ _) (Nat.le_refl _) (Nat.lt_succ_self _)) (by omega)⟩
      have g : ∀ q, q < 6 → (setCd w b (off + j * 6) t a0 c0 a1 c1 a2 c2).cell? ⟨b, off + i * 6 + q, none⟩ = w.cell? ⟨b, off + i * 6 + q, none⟩ := fun q hq => setCd_far (by omega)
      obtain ⟨h0, h1, h2, h3, h4, h5⟩ := k2
      exact ⟨(g 0 (by omega)).trans h0, (g 1 (by omega)).trans h1, (g 2 (by omega)).trans h2, (g 3 (by omega)).trans h3, (g 4 (by omega)).trans h4, (g 5 (by omega)).trans h5⟩
theorem infoCd : (Try.prog.info? 107).map (fun i => (i.zero, i.size, i.bytes)) = some (some (.agg #[.int .i64 0, .int .i64 0, .int .i64 0, .slice none 0 0, .slice none 0 0, .slice none 0 0]), 6, 96) := by kernel_rfl
theorem run_make_Cd (n : Nat) (hn : n ≤ 1048576) (w : World) :
    (Instr.makeSlice 48 (.int .i64 (n : Int)) (.int .i64 (n : Int))).run Try.prog w = .ok (.slice (some ⟨w.heap.size, 0, none⟩) n n) (w.alloc (.cells (madeCells #[.int .i64 0, .int .i64 0, .int .i64 0, .slice none 0 0, .slice none 0 0, .slice none 0 0] (n * 6)) 107)) := by
  obtain ⟨i, hi, hzz⟩ := Option.map_eq_some_iff.1 infoCd
  simp only [Prod.mk.injEq] at hzz
  obtain ⟨hz, hs, hb⟩ := hzz
  have hr := run_make (P := Try.prog) w 48 107 i _ Try.underlying48 hi hz .i64 .i64 n n (by omega) (Int.le_refl _) (by rw [hb]; omega) (by omega)
  simp only [Int.toNat_natCast, hs] at hr
  exact hr
theorem made_Cd (w : World) (n : Nat) : OwnCd (w.alloc (.cells (madeCells #[.int .i64 0, .int .i64 0, .int .i64 0, .slice none 0 0, .slice none 0 0, .slice none 0 0] (n * 6)) 107)) w.heap.size (w.heap.size + 1) (some ⟨w.heap.size, 0, none⟩) n (fun _ => zCd) := by
  refine ⟨by simp, .inr ⟨_, _, rfl, Nat.le_refl _, Nat.lt_succ_self _, fun i => by simp [go_sem], fun _ => 0, fun _ => 0, fun i j _ _ _ => .inl (Nat.le_refl _), fun i hi => ⟨.inr (Nat.zero_le _), .inl rfl, none, 0, none, 0, none, 0, ?_, ?_, ?_⟩⟩⟩
  · have c : ∀ j, j < 6 → (w.alloc (.cells (madeCells #[.int .i64 0, .int .i64 0, .int .i64 0, .slice none 0 0, .slice none 0 0, .slice none 0 0] (n * 6)) 107)).cell? ⟨w.heap.size, 0 + i * 6 + j, none⟩ = (#[Value.int .i64 0, .int .i64 0, .int .i64 0, .slice none 0 0, .slice none 0 0, .slice none 0 0])[j]? := fun j hj => by
      have l : i * 6 + j < n * 6 := by omega
      have : j = 0 ∨ j = 1 ∨ j = 2 ∨ j = 3 ∨ j = 4 ∨ j = 5 := by omega
      rcases this with rfl | rfl | rfl | rfl | rfl | rfl <;> simp [go_sem, madeCells] <;> exact ⟨_, by rw [Array.getElem?_range, if_pos (by omega)], by simp [Nat.add_mod]⟩
    exact ⟨c 0 (by omega), c 1 (by omega), c 2 (by omega), c 3 (by omega), c 4 (by omega), c 5 (by omega)⟩
  · exact ⟨Nat.le_refl _, Nat.le_refl _, Nat.le_refl _⟩
  · exact ⟨0, 0, 0, 0, Nat.le_refl _, Nat.le_refl _, Nat.le_refl _, Nat.le_refl _, Nat.le_refl _, Nat.zero_le _, ⟨Nat.zero_le _, .inl rfl⟩, ⟨Nat.zero_le _, .inl rfl⟩, ⟨Nat.zero_le _, .inl rfl⟩⟩
/-! ### sizes -/
set_option maxHeartbeats 1000000 in
theorem szCopied_any (t : Cd) (a0 : Option Addr) (c0 : Nat) (a1 : Option Addr) (c1 : Nat) (a2 : Option Addr) (c2 : Nat) (x : Int) (w : World) (hB : BigCd t) (h0 : 0 ≤ x) (h1 : x ≤ 1048576) (h : InCd w a0 a1 a2 t) :
    Calls Try.prog 73 #[.agg #[.int .i64 t.id, .int .i64 t.am, .int .i64 t.st, .slice a0 t.sn c0, .slice a1 t.wn c1, .slice a2 t.rn c2], .int .i64 x] w fun e w' => Below w.heap.size w w' ∧ ∃ r : Int, e = .returned (.int .i64 r) ∧ (r = -1 ∨ (0 ≤ r ∧ r = x - szCd t)) := by
  obtain ⟨hB0, hB1, hB2⟩ := hB
  have HA : Hid (InCd w a0 a1 a2 t) := h
  have HZ : Hid (szCd t = t.sn + t.wn + t.rn) := rfl
  clear h
  go_enter Try.func73, Try.ntmps73
  go_wp2_with fail
  refine (szCellS_r t.sn a0 c0 x _ hB0 (by omega) (by omega)).mono ?_
  rintro e w1 ⟨hb, r0, rfl, hr⟩
  have HB1 : Hid (Below w.heap.size w w1) := below_then (below_new _ _) hb
  have q1 : w1.cell? ⟨w.heap.size, 4, none⟩ = some (.slice a1 t.wn c1) := by rw [(bcell29 hb).1 _ _ (by simp)]; simp [go_sem]
  have q2 : w1.cell? ⟨w.heap.size, 5, none⟩ = some (.slice a2 t.rn c2) := by rw [(bcell29 hb).1 _ _ (by simp)]; simp [go_sem]
  clear hb
  rcases hr with rfl | ⟨hr0, hr1⟩
  · go_wp2_with fail
    go_ret
    exact ⟨HB1.out, _, rfl, .inl rfl⟩
  have hng0 : ¬ r0 < 0 := by omega
  have HR0 : Hid (r0 = x - t.sn) := hr1
  have hle0 : r0 ≤ 1048576 := by omega
  clear hr1
  go_wp2_with fail
  refine (szCellS_r t.wn a1 c1 r0 _ hB1 (by omega) (by omega)).mono ?_
  rintro e w2 ⟨hb, r1, rfl, hr⟩
  have HB2 : Hid (Below w.heap.size w w2) := below_then HB1.out hb
  replace q2 := cell_below q2 hb
  clear hb
  rcases hr with rfl | ⟨hr0, hr1⟩
  · go_wp2_with fail
    go_ret
    exact ⟨HB2.out, _, rfl, .inl rfl⟩
  have hng1 : ¬ r1 < 0 := by omega
  have HR1 : Hid (r1 = r0 - t.wn) := hr1
  have hle1 : r1 ≤ 1048576 := by omega
  clear hr1
  go_wp2_with fail
  refine (szInt64S_r t.rn a2 c2 r1 _ hB2 (by omega) (by omega)).mono ?_
  rintro e w3 ⟨hb, r2, rfl, hr⟩
  have HB3 : Hid (Below w.heap.size w w3) := below_then HB2.out hb
  clear hb
  rcases hr with rfl | ⟨hr0, hr1⟩
  · go_wp2_with fail
    go_ret
    exact ⟨HB3.out, _, rfl, .inl rfl⟩
  have hng2 : ¬ r2 < 0 := by omega
  have HR2 : Hid (r2 = r1 - t.rn) := hr1
  have hle2 : r2 ≤ 1048576 := by omega
  clear hr1
  go_wp2_with fail
  go_ret
  exact ⟨HB3.out, _, rfl, .inr ⟨hr0, by have e0 := HR0.out; have e1 := HR1.out; have e2 := HR2.out; have ez := HZ.out; omega⟩⟩
def smCd (T : Nat → Cd) (k : Nat) : Nat := smf9 (fun i => szCd (T i)) k
set_option maxHeartbeats 1000000 in
theorem szCopiedS_any (n : Nat) (T : Nat → Cd) (a : Option Addr) (cap : Nat) (x : Int) (w : World) (hn : n ≤ 9223372036854775807) (hL : ∀ i, i < n → BigCd (T i)) (h0 : 0 ≤ x) (h1 : x ≤ 1048576) (h : CdsAt w a n T) :
    Calls Try.prog 43 #[.slice a n cap, .int .i64 x] w fun e w' => Below w.heap.size w w' ∧ ∃ r : Int, e = .returned (.int .i64 r) ∧ (r = -1 ∨ (0 ≤ r ∧ r = x - n - smCd T n)) := by
  by_cases hx : x - (n : Int) < 0
  · clear hL h
    go_enter Try.func43, Try.ntmps43
    go_wp2
    go_ret
    exact ⟨Below.refl _ _, _, rfl, .inl rfl⟩
  · go_enter Try.func43, Try.ntmps43
    have HL : Hid (∀ i, i < n → BigCd (T i)) := hL
    have HA : Hid (CdsAt w a n T) := h
    clear hL h
    go_wp2
    go_loopw [1, 5] (fun q i wr => ∃ k : Nat, k ≤ n ∧ i = .int .i64 k ∧ q = .int .i64 (x - n - smCd T k) ∧ 0 ≤ x - n - smCd T k ∧ Below w.heap.size w wr) (fun _ i _ => n - (intOf i).toNat)
    case atStart => exact ⟨0, Nat.zero_le _, rfl, by simp [smCd, smf9], by simp [smCd, smf9]; omega, Below.refl _ _⟩
    case round =>
      obtain ⟨k, hk, rfl, rfl, hnn, hb⟩ := hrel
      by_cases hlt : k < n
      · rcases HA.out.below hb with h | ⟨b, off, rfl, hl, hc⟩
        · omega
        obtain ⟨a0, c0, a1, c1, a2, c2, hC, hI, -⟩ := hc k hlt
        obtain ⟨q0, q1, q2, q3, q4, q5⟩ := hC
        have HI : Hid (InCd wr a0 a1 a2 (T k)) := hI
        have hs : (smCd T (k + 1) : Int) = smCd T k + szCd (T k) := by simp [smCd, smf9]
        generalize hS : (smCd T k : Int) = S at *
        have HB : Hid (Below w.heap.size w wr) := hb
        clear hc hb hI
        go_wp2_with fail
        refine (szCopied_any (T k) a0 c0 a1 c1 a2 c2 (x - n - S) wr (HL.out k hlt) hnn (by omega) HI.out).mono ?_
        rintro e w' ⟨hb', r, rfl, hr⟩
        have HB' : Hid (Below w.heap.size w w') := below_then HB.out hb'
        clear hb' q0 q1 q2 q3 q4 q5
        rcases hr with rfl | ⟨hr0, hr1⟩
        · go_wp2_with fail
          go_ret
          exact ⟨HB'.out, _, rfl, .inl rfl⟩
        · have hng : ¬ r < 0 := by omega
          have HR : Hid (r = x - n - S - szCd (T k)) := hr1
          clear hr1
          go_wp2_with fail
          go_roundw
          case rel => exact ⟨k + 1, hlt, by go_num, by rw [hs, HR.out]; congr 1; omega, by rw [hs]; have := HR.out; omega, HB'.out⟩
          case measure => simp [intOf]; omega
      · have hkn : k = n := by omega
        go_wp2
        go_ret
        exact ⟨hb, _, rfl, .inr ⟨by first | exact hnn | (rw [hkn] at hnn; exact hnn), by first | rfl | rw [hkn]⟩⟩
/-! ### one copied -/
set_option maxHeartbeats 4000000 in
theorem toCopied_any (t : Cd) (a0 : Option Addr) (c0 : Nat) (a1 : Option Addr) (c1 : Nat) (a2 : Option Addr) (c2 : Nat) (w : World) (hS : SmCd t) (h : InCd w a0 a1 a2 t) :
    Calls Try.prog 74 #[.agg #[.int .i64 t.id, .int .i64 t.am, .int .i64 t.st, .slice a0 t.sn c0, .slice a1 t.wn c1, .slice a2 t.rn c2]] w fun e w' =>
      ∃ B0 B1 B2, e = .returned (.agg #[.int .i64 t.id, .int .i64 t.am, .int .i64 t.st, .slice (some ⟨B0, 0, none⟩) t.sn t.sn, .slice (some ⟨B1, 0, none⟩) t.wn t.wn, .slice (some ⟨B2, 0, none⟩) t.rn t.rn]) ∧ Below w.heap.size w w' ∧ OwnInCd w' w.heap.size w'.heap.size (some ⟨B0, 0, none⟩) (some ⟨B1, 0, none⟩) (some ⟨B2, 0, none⟩) t := by
  obtain ⟨hS0, hS1, hS2⟩ := hS
  have HA : Hid (InCd w a0 a1 a2 t) := h
  clear h
  go_enter Try.func74, Try.ntmps74
  go_wp2_with fail
  have hb0 : ∀ o1 o2 o3, Below w.heap.size w (((w.alloc o1).alloc o2).alloc o3) := fun o1 o2 o3 => (((Below.refl _ _).alloc (Nat.le_refl _) _).alloc (by simp) _).alloc (by simp; omega) _
  refine (toCellS_own t.sn t.sK t.sV a0 c0 _ hS0 ((HA.out.1).below (hb0 _ _ _))).mono ?_
  rintro e w1 ⟨B0, rfl, hb, hr⟩
  obtain ⟨hc, hf⟩ := bcell29 hb
  have hz : w.heap.size + 3 ≤ w1.heap.size := by have := hb.size; simp at this; omega
  have e3 : ∀ o1 o2 o3 : Obj, (((w.alloc o1).alloc o2).alloc o3).heap.size = w.heap.size + 3 := fun _ _ _ => by simp
  rw [e3] at hr
  have HR0 : Hid (Own w1 (w.heap.size + 3) w1.heap.size (some ⟨B0, 0, none⟩) t.sn t.sK t.sV) := hr
  have HB1 : Hid (Below w.heap.size w w1) := below_then (hb0 _ _ _) hb
  have r1 : w1.cell? ⟨w.heap.size, 4, none⟩ = some (.slice a1 t.wn c1) := by rw [hc _ _ (by simp <;> omega)]; simp [go_sem]
  have r2 : w1.cell? ⟨w.heap.size, 5, none⟩ = some (.slice a2 t.rn c2) := by rw [hc _ _ (by simp <;> omega)]; simp [go_sem]
  have s0 : w1.cell? ⟨w.heap.size + 1, 0, none⟩ = some (.int .i64 0) := by rw [hc _ _ (by simp <;> omega)]; simp [go_sem]
  have s1 : w1.cell? ⟨w.heap.size + 1, 1, none⟩ = some (.int .i64 0) := by rw [hc _ _ (by simp <;> omega)]; simp [go_sem]
  have s2 : w1.cell? ⟨w.heap.size + 1, 2, none⟩ = some (.int .i64 0) := by rw [hc _ _ (by simp <;> omega)]; simp [go_sem]
  have s3 : w1.cell? ⟨w.heap.size + 1, 3, none⟩ = some (.slice none 0 0) := by rw [hc _ _ (by simp <;> omega)]; simp [go_sem]
  have s4 : w1.cell? ⟨w.heap.size + 1, 4, none⟩ = some (.slice none 0 0) := by rw [hc _ _ (by simp <;> omega)]; simp [go_sem]
  have s5 : w1.cell? ⟨w.heap.size + 1, 5, none⟩ = some (.slice none 0 0) := by rw [hc _ _ (by simp <;> omega)]; simp [go_sem]
  have x0 : w1.cell? ⟨w.heap.size + 2, 0, none⟩ = some (.int .i64 t.id) := by rw [hc _ _ (by simp <;> omega)]; simp [go_sem]
  have x1 : w1.cell? ⟨w.heap.size + 2, 1, none⟩ = some (.int .i64 t.am) := by rw [hc _ _ (by simp <;> omega)]; simp [go_sem]
  have x2 : w1.cell? ⟨w.heap.size + 2, 2, none⟩ = some (.int .i64 t.st) := by rw [hc _ _ (by simp <;> omega)]; simp [go_sem]
  have x3 : w1.cell? ⟨w.heap.size + 2, 3, none⟩ = some (.slice none 0 0) := by rw [hc _ _ (by simp <;> omega)]; simp [go_sem]
  have x4 : w1.cell? ⟨w.heap.size + 2, 4, none⟩ = some (.slice none 0 0) := by rw [hc _ _ (by simp <;> omega)]; simp [go_sem]
  have x5 : w1.cell? ⟨w.heap.size + 2, 5, none⟩ = some (.slice none 0 0) := by rw [hc _ _ (by simp <;> omega)]; simp [go_sem]
  have f1 : ∀ i, w1.frozen? ⟨w.heap.size + 1, i, none⟩ = false := fun i => by rw [hf _ _ (by simp <;> omega)]; simp [go_sem]
  have f2 : ∀ i, w1.frozen? ⟨w.heap.size + 2, i, none⟩ = false := fun i => by rw [hf _ _ (by simp <;> omega)]; simp [go_sem]
  clear hc hf hb hr e3 hb0
  go_upto_region 6 with fail
  obtain ⟨W1, hW⟩ : ∃ y, y = w1.setCell ⟨w.heap.size + 2, 3, none⟩ (.slice (some ⟨B0, 0, none⟩) t.sn t.sn) := ⟨_, rfl⟩
  replace x0 : W1.cell? ⟨w.heap.size + 2, 0, none⟩ = some (.int .i64 t.id) := by rw [hW, setO (by omega)]; exact x0
  replace x1 : W1.cell? ⟨w.heap.size + 2, 1, none⟩ = some (.int .i64 t.am) := by rw [hW, setO (by omega)]; exact x1
  replace x2 : W1.cell? ⟨w.heap.size + 2, 2, none⟩ = some (.int .i64 t.st) := by rw [hW, setO (by omega)]; exact x2
  replace x3 : W1.cell? ⟨w.heap.size + 2, 3, none⟩ = some (.slice (some ⟨B0, 0, none⟩) t.sn t.sn) := by rw [hW]; exact setS x3
  replace x4 : W1.cell? ⟨w.heap.size + 2, 4, none⟩ = some (.slice none 0 0) := by rw [hW, setO (by omega)]; exact x4
  replace x5 : W1.cell? ⟨w.heap.size + 2, 5, none⟩ = some (.slice none 0 0) := by rw [hW, setO (by omega)]; exact x5
  have far : ∀ b i, b ≠ w.heap.size + 2 → W1.cell? ⟨b, i, none⟩ = w1.cell? ⟨b, i, none⟩ := fun b i hne => by rw [hW]; exact World.cell?_setCell_far _ _ _ _ (Ne.symm hne)
  replace r1 := (far _ _ (by omega)).trans r1
  replace r2 := (far _ _ (by omega)).trans r2
  replace s0 := (far _ _ (by omega)).trans s0
  replace s1 := (far _ _ (by omega)).trans s1
  replace s2 := (far _ _ (by omega)).trans s2
  replace s3 := (far _ _ (by omega)).trans s3
  replace s4 := (far _ _ (by omega)).trans s4
  replace s5 := (far _ _ (by omega)).trans s5
  replace f1 : ∀ i, W1.frozen? ⟨w.heap.size + 1, i, none⟩ = false := fun i => by rw [hW, World.frozen?_setCell]; exact f1 i
  replace f2 : ∀ i, W1.frozen? ⟨w.heap.size + 2, i, none⟩ = false := fun i => by rw [hW, World.frozen?_setCell]; exact f2 i
  have hsz1 : W1.heap.size = w1.heap.size := by rw [hW]; simp [World.setCell]
  have HW : Hid (Writes (w.heap.size) (w.heap.size + 3) w1 W1) := by rw [hW]; exact (Writes.refl _ _ _).setCell (by simp) (by simp) _
  rw [← hW]
  clear hW far
  replace HB1 : Hid (Below w.heap.size w W1) := HW.out.below HB1.out (Nat.le_refl _)
  replace HR0 : Hid (Own W1 (w.heap.size + 3) w1.heap.size (some ⟨B0, 0, none⟩) t.sn t.sK t.sV) := HR0.out.writes HW.out (.inr (by omega))
  clear HW
  go_wp2_with fail
  refine (toCellS_own t.wn t.wK t.wV a1 c1 _ hS1 ((HA.out.2.1).below HB1.out)).mono ?_
  rintro e w2 ⟨B1, rfl, hb, hr⟩
  have HB2 : Hid (Below w.heap.size w w2) := below_then HB1.out hb
  rw [hsz1] at hr
  have HR1 : Hid (Own w2 w1.heap.size w2.heap.size (some ⟨B1, 0, none⟩) t.wn t.wK t.wV) := hr
  replace HR0 : Hid (Own w2 (w.heap.size + 3) w1.heap.size (some ⟨B0, 0, none⟩) t.sn t.sK t.sV) := HR0.out.below hb
  have hz1 : w1.heap.size ≤ w2.heap.size := by have := hb.size; omega
  replace x0 := cell_below x0 hb
  replace x1 := cell_below x1 hb
  replace x2 := cell_below x2 hb
  replace x3 := cell_below x3 hb
  replace x4 := cell_below x4 hb
  replace x5 := cell_below x5 hb
  replace s0 := cell_below s0 hb
  replace s1 := cell_below s1 hb
  replace s2 := cell_below s2 hb
  replace s3 := cell_below s3 hb
  replace s4 := cell_below s4 hb
  replace s5 := cell_below s5 hb
  replace r2 := cell_below r2 hb
  replace f1 : ∀ i, w2.frozen? ⟨w.heap.size + 1, i, none⟩ = false := fun i => (hb.frozen (p := ⟨_, i, none⟩) (by show w.heap.size + 1 < W1.heap.size; omega)).trans (f1 i)
  replace f2 : ∀ i, w2.frozen? ⟨w.heap.size + 2, i, none⟩ = false := fun i => (hb.frozen (p := ⟨_, i, none⟩) (by show w.heap.size + 2 < W1.heap.size; omega)).trans (f2 i)
  clear hb hr hsz1 HB1
  go_upto_region 7 with fail
  obtain ⟨W2, hW⟩ : ∃ y, y = w2.setCell ⟨w.heap.size + 2, 4, none⟩ (.slice (some ⟨B1, 0, none⟩) t.wn t.wn) := ⟨_, rfl⟩
  replace x0 : W2.cell? ⟨w.heap.size + 2, 0, none⟩ = some (.int .i64 t.id) := by rw [hW, setO (by omega)]; exact x0
  replace x1 : W2.cell? ⟨w.heap.size + 2, 1, none⟩ = some (.int .i64 t.am) := by rw [hW, setO (by omega)]; exact x1
  replace x2 : W2.cell? ⟨w.heap.size + 2, 2, none⟩ = some (.int .i64 t.st) := by rw [hW, setO (by omega)]; exact x2
  replace x3 : W2.cell? ⟨w.heap.size + 2, 3, none⟩ = some (.slice (some ⟨B0, 0, none⟩) t.sn t.sn) := by rw [hW, setO (by omega)]; exact x3
  replace x4 : W2.cell? ⟨w.heap.size + 2, 4, none⟩ = some (.slice (some ⟨B1, 0, none⟩) t.wn t.wn) := by rw [hW]; exact setS x4
  replace x5 : W2.cell? ⟨w.heap.size + 2, 5, none⟩ = some (.slice none 0 0) := by rw [hW, setO (by omega)]; exact x5
  have far : ∀ b i, b ≠ w.heap.size + 2 → W2.cell? ⟨b, i, none⟩ = w2.cell? ⟨b, i, none⟩ := fun b i hne => by rw [hW]; exact World.cell?_setCell_far _ _ _ _ (Ne.symm hne)
  replace r2 := (far _ _ (by omega)).trans r2
  replace s0 := (far _ _ (by omega)).trans s0
  replace s1 := (far _ _ (by omega)).trans s1
  replace s2 := (far _ _ (by omega)).trans s2
  replace s3 := (far _ _ (by omega)).trans s3
  replace s4 := (far _ _ (by omega)).trans s4
  replace s5 := (far _ _ (by omega)).trans s5
  replace f1 : ∀ i, W2.frozen? ⟨w.heap.size + 1, i, none⟩ = false := fun i => by rw [hW, World.frozen?_setCell]; exact f1 i
  replace f2 : ∀ i, W2.frozen? ⟨w.heap.size + 2, i, none⟩ = false := fun i => by rw [hW, World.frozen?_setCell]; exact f2 i
  have hsz2 : W2.heap.size = w2.heap.size := by rw [hW]; simp [World.setCell]
  have HW : Hid (Writes (w.heap.size) (w.heap.size + 3) w2 W2) := by rw [hW]; exact (Writes.refl _ _ _).setCell (by simp) (by simp) _
  rw [← hW]
  clear hW far
  replace HB2 : Hid (Below w.heap.size w W2) := HW.out.below HB2.out (Nat.le_refl _)
  replace HR0 : Hid (Own W2 (w.heap.size + 3) w1.heap.size (some ⟨B0, 0, none⟩) t.sn t.sK t.sV) := HR0.out.writes HW.out (.inr (by omega))
  replace HR1 : Hid (Own W2 w1.heap.size w2.heap.size (some ⟨B1, 0, none⟩) t.wn t.wK t.wV) := HR1.out.writes HW.out (.inr (by omega))
  clear HW
  go_wp2_with fail
  refine (toInt64S_own t.rn t.rF a2 c2 _ hS2 ((HA.out.2.2).below HB2.out)).mono ?_
  rintro e w3 ⟨B2, rfl, hb, hr⟩
  have HB3 : Hid (Below w.heap.size w w3) := below_then HB2.out hb
  rw [hsz2] at hr
  have HR2 : Hid (OwnI w3 w2.heap.size w3.heap.size (some ⟨B2, 0, none⟩) t.rn t.rF) := hr
  replace HR0 : Hid (Own w3 (w.heap.size + 3) w1.heap.size (some ⟨B0, 0, none⟩) t.sn t.sK t.sV) := HR0.out.below hb
  replace HR1 : Hid (Own w3 w1.heap.size w2.heap.size (some ⟨B1, 0, none⟩) t.wn t.wK t.wV) := HR1.out.below hb
  have hz2 : w2.heap.size ≤ w3.heap.size := by have := hb.size; omega
  replace x0 := cell_below x0 hb
  replace x1 := cell_below x1 hb
  replace x2 := cell_below x2 hb
  replace x3 := cell_below x3 hb
  replace x4 := cell_below x4 hb
  replace x5 := cell_below x5 hb
  replace s0 := cell_below s0 hb
  replace s1 := cell_below s1 hb
  replace s2 := cell_below s2 hb
  replace s3 := cell_below s3 hb
  replace s4 := cell_below s4 hb
  replace s5 := cell_below s5 hb
  replace f1 : ∀ i, w3.frozen? ⟨w.heap.size + 1, i, none⟩ = false := fun i => (hb.frozen (p := ⟨_, i, none⟩) (by show w.heap.size + 1 < W2.heap.size; omega)).trans (f1 i)
  replace f2 : ∀ i, w3.frozen? ⟨w.heap.size + 2, i, none⟩ = false := fun i => (hb.frozen (p := ⟨_, i, none⟩) (by show w.heap.size + 2 < W2.heap.size; omega)).trans (f2 i)
  clear hb hr hsz2 HB2
  have HWW : Hid (∀ w', Writes w.heap.size (w.heap.size + 3) w3 w' → w'.heap.size = w3.heap.size → Below w.heap.size w w' ∧ OwnInCd w' w.heap.size w'.heap.size (some ⟨B0, 0, none⟩) (some ⟨B1, 0, none⟩) (some ⟨B2, 0, none⟩) t) := fun w' h e =>
    ⟨h.below HB3.out (Nat.le_refl _), w.heap.size + 3, w1.heap.size, w2.heap.size, w3.heap.size, by omega, by omega, by omega, by omega, by omega, Nat.le_refl _, HR0.out.writes h (.inr (by omega)), HR1.out.writes h (.inr (by omega)), HR2.out.writes h (.inr (by omega))⟩
  clear HR0 HR1 HR2
  go_wp2_with fail
  refine bodyPost_ret (v := .agg #[.int .i64 t.id, .int .i64 t.am, .int .i64 t.st, .slice (some ⟨B0, 0, none⟩) t.sn t.sn, .slice (some ⟨B1, 0, none⟩) t.wn t.wn, .slice (some ⟨B2, 0, none⟩) t.rn t.rn]) (by simp [results, Try.results74, go_sem, s0, s1, s2, s3, s4, s5]) rfl ⟨_, _, _, rfl, ?_⟩
  refine HWW.out _ ?_ (by simp [World.setCell])
  repeat (first | with_reducible exact Writes.refl _ _ _ | with_reducible refine Writes.setCell ?_ (by first | omega | (simp <;> omega)) (by first | omega | (simp <;> omega)) _)
theorem pref9_zCd (T : Nat → Cd) (k : Nat) : pref9 T (fun _ => zCd) k k = zCd := pref9_at _ _ _
set_option maxHeartbeats 2000000 in
theorem toCopiedS_any (n : Nat) (T : Nat → Cd) (a : Option Addr) (cap : Nat) (w : World) (hn : n ≤ 1048576) (hL : ∀ i, i < n → SmCd (T i)) (h : CdsAt w a n T) :
    Calls Try.prog 49 #[.slice a n cap] w fun e w' =>
      e = .returned (.slice (some ⟨w.heap.size, 0, none⟩) n n) ∧ Below w.heap.size w w' ∧ OwnCd w' w.heap.size w'.heap.size (some ⟨w.heap.size, 0, none⟩) n T := by
  have hmk := run_make_Cd n (by omega)
  have HL : Hid (∀ i, i < n → SmCd (T i)) := hL
  have HA : Hid (CdsAt w a n T) := h
  clear hL h
  go_enter Try.func49, Try.ntmps49
  go_wp2
  clear hmk
  go_loopw [4] (fun i wr => ∃ k : Nat, k ≤ n ∧ i = .int .i64 k ∧ Hid (Below w.heap.size w wr) ∧ Hid (OwnCd wr w.heap.size wr.heap.size (some ⟨w.heap.size, 0, none⟩) n (pref9 T (fun _ => zCd) k))) (fun i _ => n - (intOf i).toNat)
  case atStart => exact ⟨0, Nat.zero_le _, rfl, (Below.refl _ _).alloc (Nat.le_refl _) _, by rw [pref9_zero]; exact (made_Cd w n).wide (Nat.le_refl _) (by simp) (Nat.le_refl _)⟩
  case round =>
    obtain ⟨k, hk, rfl, HB, HO⟩ := hrel
    by_cases hlt : k < n
    · rcases HA.out.below HB.out with h | ⟨b, off, rfl, hl, hc⟩
      · omega
      obtain ⟨a0, c0, a1, c1, a2, c2, hC, hI, -⟩ := hc k hlt
      obtain ⟨q0, q1, q2, q3, q4, q5⟩ := hC
      have HI : Hid (InCd wr a0 a1 a2 (T k)) := hI
      obtain ⟨h0, h1 | ⟨b1, off1, ha, hlo, hl1, hf, l, h, hd, hc1⟩⟩ := HO.out
      · omega
      simp only [Option.some.injEq, Addr.mk.injEq, and_true] at ha
      obtain ⟨rfl, rfl⟩ := ha
      obtain ⟨_, _, x0, y0, x1, y1, x2, y2, hC1, -⟩ := hc1 k hlt
      rw [pref9_zCd, Nat.zero_add] at hC1
      have hsz : w.heap.size < wr.heap.size := by omega
      have hlt' : (k : Int) < (n : Int) := by omega
      have hk0 : (0 : Int) ≤ (k : Int) := by omega
      clear hc hI hc1 hd
      go_wp2_with fail
      refine (toCopied_any (T k) a0 c0 a1 c1 a2 c2 wr (HL.out k hlt) HI.out).mono ?_
      rintro e w1 ⟨B0, B1, B2, rfl, hb1, hr1⟩
      have HB1 : Hid (Below wr.heap.size wr w1) := hb1
      have HR1 : Hid (OwnInCd w1 wr.heap.size w1.heap.size (some ⟨B0, 0, none⟩) (some ⟨B1, 0, none⟩) (some ⟨B2, 0, none⟩) (T k)) := hr1
      have hC2 := hC1.block (hb1.block _ hsz)
      obtain ⟨z0, z1, z2, z3, z4, z5⟩ := hC2
      replace hf : ∀ i, w1.frozen? ⟨w.heap.size, i, none⟩ = false := fun i => (hb1.frozen (p := ⟨_, _, none⟩) hsz).trans (hf i)
      clear hb1 hr1 hC1 q0 q1 q2 q3 q4 q5
      go_wp2_with fail
      go_roundw
      case rel =>
        have HS := (HO.out.below HB1.out).store (t := T k) (c0 := (T k).sn) (c1 := (T k).wn) (c2 := (T k).rn) hlt (Nat.le_refl _) (Nat.le_refl _) HB1.out.size (Nat.le_refl _) ⟨Nat.le_refl _, Nat.le_refl _, Nat.le_refl _⟩ HR1.out
        rw [pref9_upf, Nat.zero_add] at HS
        refine ⟨k + 1, hlt, by go_num, setCd_below (t := T k) (o := k * 6) (a0 := (some ⟨B0, 0, none⟩)) (c0 := (T k).sn) (a1 := (some ⟨B1, 0, none⟩)) (c1 := (T k).wn) (a2 := (some ⟨B2, 0, none⟩)) (c2 := (T k).rn) (below_then HB.out HB1.out) (Nat.le_refl _), ?_⟩
        have es : (setCd w1 w.heap.size (k * 6) (T k) (some ⟨B0, 0, none⟩) (T k).sn (some ⟨B1, 0, none⟩) (T k).wn (some ⟨B2, 0, none⟩) (T k).rn).heap.size = w1.heap.size := setCd_size
        rw [← es] at HS
        exact HS
      case measure => simp [intOf]; omega
    · have hkn : k = n := by omega
      have HT : Hid (OwnCd wr w.heap.size wr.heap.size (some ⟨w.heap.size, 0, none⟩) n T) := by
        refine HO.out.congr fun i hi => pref9_lt _ _ (by omega)
      have hnl : ¬ ((k : Int) < (n : Int)) := by omega
      go_wp2_with fail
      go_ret
      exact ⟨rfl, HB.out, HT.out⟩
/-! ### equal -/
set_option maxHeartbeats 1000000 in
theorem eqCopied_same (t : Cd) (a0 : Option Addr) (c0 : Nat) (a1 : Option Addr) (c1 : Nat) (a2 : Option Addr) (c2 : Nat) (d0 : Option Addr) (e0 : Nat) (d1 : Option Addr) (e1 : Nat) (d2 : Option Addr) (e2 : Nat) (w : World) (hS : SmCd t) (h : InCd w a0 a1 a2 t) (h' : InCd w d0 d1 d2 t) :
    Calls Try.prog 79 #[.agg #[.int .i64 t.id, .int .i64 t.am, .int .i64 t.st, .slice a0 t.sn c0, .slice a1 t.wn c1, .slice a2 t.rn c2], .agg #[.int .i64 t.id, .int .i64 t.am, .int .i64 t.st, .slice d0 t.sn e0, .slice d1 t.wn e1, .slice d2 t.rn e2]] w fun e w' => e = .returned (.bool true) ∧ Below w.heap.size w w' := by
  obtain ⟨hS0, hS1, hS2⟩ := hS
  have HA : Hid (InCd w a0 a1 a2 t) := h
  have HD : Hid (InCd w d0 d1 d2 t) := h'
  clear h h'
  have hne0 : (t.id != t.id) = false := by simp
  have hne1 : (t.am != t.am) = false := by simp
  have hne2 : (t.st != t.st) = false := by simp
  have hb0 : ∀ o1 o2, Below w.heap.size w ((w.alloc o1).alloc o2) := fun o1 o2 => (((Below.refl _ _).alloc (Nat.le_refl _) _).alloc (by simp) _)
  go_enter Try.func79, Try.ntmps79
  go_wp2_with fail
  refine (eqCellS_any t.sn t.sK t.sV a0 d0 c0 e0 _ (by omega) ((HA.out.1).below (hb0 _ _)) ((HD.out.1).below (hb0 _ _))).mono ?_
  rintro e w1 ⟨rfl, hb⟩
  have HB1 : Hid (Below w.heap.size w w1) := below_then (hb0 _ _) hb
  have q1 : w1.cell? ⟨w.heap.size, 4, none⟩ = some (.slice a1 t.wn c1) := by rw [(bcell29 hb).1 _ _ (by simp <;> omega)]; simp [go_sem]
  have y1 : w1.cell? ⟨w.heap.size + 1, 4, none⟩ = some (.slice d1 t.wn e1) := by rw [(bcell29 hb).1 _ _ (by simp <;> omega)]; simp [go_sem]
  have q2 : w1.cell? ⟨w.heap.size, 5, none⟩ = some (.slice a2 t.rn c2) := by rw [(bcell29 hb).1 _ _ (by simp <;> omega)]; simp [go_sem]
  have y2 : w1.cell? ⟨w.heap.size + 1, 5, none⟩ = some (.slice d2 t.rn e2) := by rw [(bcell29 hb).1 _ _ (by simp <;> omega)]; simp [go_sem]
  clear hb
  clear hb0
  go_wp2_with fail
  refine (eqCellS_any t.wn t.wK t.wV a1 d1 c1 e1 _ (by omega) ((HA.out.2.1).below HB1.out) ((HD.out.2.1).below HB1.out)).mono ?_
  rintro e w2 ⟨rfl, hb⟩
  have HB2 : Hid (Below w.heap.size w w2) := below_then HB1.out hb
  replace q2 := cell_below q2 hb
  replace y2 := cell_below y2 hb
  clear hb
  go_wp2_with fail
  refine (eqInt64S_any t.rn t.rF a2 d2 c2 e2 _ (by omega) ((HA.out.2.2).below HB2.out) ((HD.out.2.2).below HB2.out)).mono ?_
  rintro e w3 ⟨rfl, hb⟩
  have HB3 : Hid (Below w.heap.size w w3) := below_then HB2.out hb
  clear hb
  go_wp2_with fail
  go_ret
  exact ⟨rfl, HB3.out⟩
set_option maxHeartbeats 4000000 in
theorem eqCopiedS_any (n : Nat) (T : Nat → Cd) (a a' : Option Addr) (cap cap' : Nat) (w : World) (hn : n ≤ 1048576) (hL : ∀ i, i < n → SmCd (T i)) (h : CdsAt w a n T) (h' : CdsAt w a' n T) :
    Calls Try.prog 56 #[.slice a n cap, .slice a' n cap'] w fun e w' => e = .returned (.bool true) ∧ Below w.heap.size w w' := by
  have HL : Hid (∀ i, i < n → SmCd (T i)) := hL
  have HA : Hid (CdsAt w a n T) := h
  have HA' : Hid (CdsAt w a' n T) := h'
  have hne : ((n : Int) != (n : Int)) = false := by simp
  clear hL h h'
  go_enter Try.func56, Try.ntmps56
  go_wp2_with fail
  go_loopw [5] (fun i wr => ∃ k : Nat, k ≤ n ∧ i = .int .i64 k ∧ Hid (Below w.heap.size w wr)) (fun i _ => n - (intOf i).toNat)
  case atStart => exact ⟨0, Nat.zero_le _, rfl, Below.refl _ _⟩
  case round =>
    obtain ⟨k, hk, rfl, HB⟩ := hrel
    by_cases hlt : k < n
    · have hlt' : (k : Int) < (n : Int) := by omega
      have hk0 : (0 : Int) ≤ (k : Int) := by omega
      rcases HA.out.below HB.out with h | ⟨b, off, rfl, hl, hc⟩
      · omega
      rcases HA'.out.below HB.out with h | ⟨b', off', rfl, hl', hc'⟩
      · omega
      obtain ⟨a0, c0, a1, c1, a2, c2, hC, hy1, -⟩ := hc k hlt
      obtain ⟨d0, e0, d1, e1, d2, e2, hC', hy2, -⟩ := hc' k hlt
      obtain ⟨q0, q1, q2, q3, q4, q5⟩ := hC
      obtain ⟨y0, y1, y2, y3, y4, y5⟩ := hC'
      have H1 : Hid (InCd wr a0 a1 a2 (T k)) := hy1
      have H2 : Hid (InCd wr d0 d1 d2 (T k)) := hy2
      have HLk : Hid (SmCd (T k)) := HL.out k hlt
      clear hc hc' hy1 hy2
      generalize T k = t at *
      go_wp2_with fail
      have hb0 : Below wr.heap.size wr wr.drew := (Below.refl _ _).drew
      go_region_held3 (fun w' => Below wr.heap.size wr w' ∧ w'.cell? ⟨b, off + k * 6, none⟩ = some (.int .i64 t.id) ∧ w'.cell? ⟨b, off + k * 6 + 1, none⟩ = some (.int .i64 t.am) ∧ w'.cell? ⟨b, off + k * 6 + 2, none⟩ = some (.int .i64 t.st) ∧ w'.cell? ⟨b, off + k * 6 + 3, none⟩ = some (.slice a0 t.sn c0) ∧ w'.cell? ⟨b, off + k * 6 + 4, none⟩ = some (.slice a1 t.wn c1) ∧ w'.cell? ⟨b, off + k * 6 + 5, none⟩ = some (.slice a2 t.rn c2) ∧ w'.cell? ⟨b', off' + k * 6, none⟩ = some (.int .i64 t.id) ∧ w'.cell? ⟨b', off' + k * 6 + 1, none⟩ = some (.int .i64 t.am) ∧ w'.cell? ⟨b', off' + k * 6 + 2, none⟩ = some (.int .i64 t.st) ∧ w'.cell? ⟨b', off' + k * 6 + 3, none⟩ = some (.slice d0 t.sn e0) ∧ w'.cell? ⟨b', off' + k * 6 + 4, none⟩ = some (.slice d1 t.wn e1) ∧ w'.cell? ⟨b', off' + k * 6 + 5, none⟩ = some (.slice d2 t.rn e2)) (go_keep)
        (first | (go_at_call 79; refine (eqCopied_same t a0 c0 a1 c1 a2 c2 d0 e0 d1 e1 d2 e2 _ HLk.out (H1.out.below (by simp [*])) (H2.out.below (by simp [*]))).mono ?_; rintro e w1 ⟨rfl, hbq⟩; have hU := below_then (w := wr) (by simp [*]) hbq; have u0 := cell_below (B := b) (o := off + k * 6) (v := .int .i64 t.id) (by simp [*]) hbq; have u1 := cell_below (B := b) (o := off + k * 6 + 1) (v := .int .i64 t.am) (by simp [*]) hbq; have u2 := cell_below (B := b) (o := off + k * 6 + 2) (v := .int .i64 t.st) (by simp [*]) hbq; have u3 := cell_below (B := b) (o := off + k * 6 + 3) (v := .slice a0 t.sn c0) (by simp [*]) hbq; have u4 := cell_below (B := b) (o := off + k * 6 + 4) (v := .slice a1 t.wn c1) (by simp [*]) hbq; have u5 := cell_below (B := b) (o := off + k * 6 + 5) (v := .slice a2 t.rn c2) (by simp [*]) hbq; have u6 := cell_below (B := b') (o := off' + k * 6) (v := .int .i64 t.id) (by simp [*]) hbq; have u7 := cell_below (B := b') (o := off' + k * 6 + 1) (v := .int .i64 t.am) (by simp [*]) hbq; have u8 := cell_below (B := b') (o := off' + k * 6 + 2) (v := .int .i64 t.st) (by simp [*]) hbq; have u9 := cell_below (B := b') (o := off' + k * 6 + 3) (v := .slice d0 t.sn e0) (by simp [*]) hbq; have u10 := cell_below (B := b') (o := off' + k * 6 + 4) (v := .slice d1 t.wn e1) (by simp [*]) hbq; have u11 := cell_below (B := b') (o := off' + k * 6 + 5) (v := .slice d2 t.rn e2) (by simp [*]) hbq))
      go_wp2_with fail
      go_roundw
      case rel => exact ⟨k + 1, hlt, by go_num, below_then HB.out (by assumption)⟩
      case measure => simp [intOf]; omega
    · have hkn : k = n := by omega
      have hnl : ¬ ((k : Int) < (n : Int)) := by omega
      go_wp2_with fail
      go_ret
      exact ⟨rfl, HB.out⟩
/-! ### opened -/
theorem cellsCd : Try.prog.cellsOf 105 = 6 := by kernel_rfl
theorem cellsCd0 : Try.prog.cellsOf 22 = 1 := by kernel_rfl
theorem cellsCd2 : Try.prog.cellsOf 42 = 1 := by kernel_rfl
theorem openCds {H : Type} {enc : TypeId × Value → H} {W : World} {fuel : Nat} {cs : List Value} {x : DataW H × List MemPlace}
    (h : DataW.trod enc Try.prog W 0 (fun _ => true) true fuel 43 cs = some x) :
    ∃ (a : Option Addr) (n cap : Nat) (T : Nat → Cd), cs = [.slice a n cap] ∧ n ≤ 9223372036854775807 ∧ (∀ i, i < n → BigCd (T i)) ∧ CdsAt W a n T := by
  rcases open_slice Try.underlying43 h with ⟨rfl, _⟩ | ⟨a, l, c, m, nn, D, Pl, rfl, _, hl, hm, hmm, _, hx⟩
  · exact ⟨none, 0, 0, fun _ => zCd, rfl, by omega, fun i hi => by omega, .inl rfl⟩
  · have hmc : m = c := by simpa using hmm
    unfold maxLen at hm
    rw [cellsCd] at hx
    have each : ∀ i, i < l → ∃ q : Cd × (Option Addr × Nat) × (Option Addr × Nat) × (Option Addr × Nat), W.cell? (a.add (i * 6)) = some (.int .i64 q.1.id) ∧ W.cell? (a.add (i * 6 + 1)) = some (.int .i64 q.1.am) ∧ W.cell? (a.add (i * 6 + 2)) = some (.int .i64 q.1.st) ∧ W.cell? (a.add (i * 6 + 3)) = some (.slice q.2.1.1 q.1.sn q.2.1.2) ∧ W.cell? (a.add (i * 6 + 4)) = some (.slice q.2.2.1.1 q.1.wn q.2.2.1.2) ∧ W.cell? (a.add (i * 6 + 5)) = some (.slice q.2.2.2.1 q.1.rn q.2.2.2.2) ∧ BigCd q.1 ∧ InCd W q.2.1.1 q.2.2.1.1 q.2.2.2.1 q.1 ∧ q.1.sn ≤ q.2.1.2 ∧ q.1.wn ≤ q.2.2.1.2 ∧ q.1.rn ≤ q.2.2.2.2 := fun i hi => by
      obtain ⟨cs', h1, h2⟩ := hx i (by omega)
      obtain ⟨_, hlen, hcell⟩ := World.cells?_some h1
      obtain ⟨xs, k, hk, hxy, _, hxl, hf⟩ := DataW.trod_struct Try.underlying105 h2
      match xs, hxl, cs', hlen with
      | [y0, y1, y2, y3, y4, y5], _, [v0, v1, v2, v3, v4, v5], _ =>
        have g0 := hf 0 _ rfl
        have g1 := hf 1 _ rfl
        have g2 := hf 2 _ rfl
        have g3 := hf 3 _ rfl
        have g4 := hf 4 _ rfl
        have g5 := hf 5 _ rfl
        simp [cellsI1, cellsCd0, cellsCd2] at g0 g1 g2 g3 g4 g5
        have e0 := hcell 0 (by omega)
        have e1 := hcell 1 (by omega)
        have e2 := hcell 2 (by omega)
        have e3 := hcell 3 (by omega)
        have e4 := hcell 4 (by omega)
        have e5 := hcell 5 (by omega)
        rw [add_add] at e0 e1 e2 e3 e4 e5
        obtain ⟨z0, f0, _, _⟩ := DataW.trod_int Try.underlying2 g0
        obtain ⟨z1, f1, _, _⟩ := DataW.trod_int Try.underlying2 g1
        obtain ⟨z2, f2, _, _⟩ := DataW.trod_int Try.underlying2 g2
        obtain ⟨p0, n0, r0, K0, V0, f3, k0, l0, m0⟩ := openCellS g3
        obtain ⟨p1, n1, r1, K1, V1, f4, k1, l1, m1⟩ := openCellS g4
        obtain ⟨p2, n2, r2, Z2, f5, k2, l2, m2⟩ := openIntS g5
        simp at f0 f1 f2 f3 f4 f5
        subst f0 f1 f2 f3 f4 f5
        exact ⟨(⟨z0, z1, z2, n0, K0, V0, n1, K1, V1, n2, Z2⟩, (p0, r0), (p1, r1), (p2, r2)), by simpa using e0, by simpa using e1, by simpa using e2, by simpa using e3, by simpa using e4, by simpa using e5, ⟨l0, l1, l2⟩, ⟨m0, m1, m2⟩, k0, k1, k2⟩
    have nonE : Inhabited Cd := ⟨zCd⟩
    obtain ⟨q, hq⟩ := choose_lt each
    refine ⟨some a, l, c, fun i => (q i).1, rfl, by omega, fun i hi => (hq i hi).2.2.2.2.2.2.1, ?_⟩
    by_cases hz0 : l = 0
    · exact .inl hz0
    · obtain ⟨b, off, spot⟩ := a
      have hc0 := (hq 0 (by omega)).1
      have hspot : spot = none := by simpa [Addr.add] using World.cell?_spot hc0
      subst hspot
      refine .inr ⟨b, off, rfl, Go.block_lt_of_cell hc0, fun i hi => ?_⟩
      obtain ⟨k0, k1, k2, k3, k4, k5, _, kb, kc⟩ := hq i hi
      rw [add_plain] at k0 k1 k2 k3 k4 k5
      exact ⟨(q i).2.1.1, (q i).2.1.2, (q i).2.2.1.1, (q i).2.2.1.2, (q i).2.2.2.1, (q i).2.2.2.2, ⟨k0, by rw [Nat.add_assoc]; exact k1, by rw [Nat.add_assoc]; exact k2, by rw [Nat.add_assoc]; exact k3, by rw [Nat.add_assoc]; exact k4, by rw [Nat.add_assoc]; exact k5⟩, kb, kc⟩
end Go.Proofs.Ytenglcgkachomaa
