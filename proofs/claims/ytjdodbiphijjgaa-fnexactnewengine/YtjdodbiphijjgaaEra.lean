/- Rows in memory: what they hold, stores, sizes, copies. -/
import Derived.Test.YtjdodbiphijjgaaEta
namespace Go.Proofs.Ytjdodbiphijjgaa
open Go.ChangeShapes Go.WideShapes Go.ChangeAt Go.RowKit Go.Deep Go.Joins
set_option linter.unusedVariables false
set_option maxRecDepth 20000

structure Rw where
  key : Int
  n : Nat
  U : Nat → Vr
def zRw : Rw := ⟨0, 0, fun _ => zV⟩
/-- The cells of one of the rows. -/
def CRw (w : World) (b o : Nat) (t : Rw) (ai : Option Addr) (ci : Nat) : Prop :=
  w.cell? ⟨b, o, none⟩ = some (.int .i64 t.key) ∧ w.cell? ⟨b, o + 1, none⟩ = some (.slice ai t.n ci)
theorem CRw.block {w w' : World} {b o : Nat} {t : Rw} {ai : Option Addr} {ci : Nat} (h : CRw w b o t ai ci) (e : w'.heap[b]? = w.heap[b]?) : CRw w' b o t ai ci := by
  have g : ∀ i, w'.cell? ⟨b, i, none⟩ = w.cell? ⟨b, i, none⟩ := fun i => World.cell?_of_block (w := w) (a := ⟨b, i, none⟩) e
  obtain ⟨h0, h1⟩ := h
  exact ⟨(g _).trans h0, (g _).trans h1⟩
/-- The slice at 'a' has the n rows T. -/
def RwsAt (w : World) (a : Option Addr) (n : Nat) (T : Nat → Rw) : Prop :=
  n = 0 ∨ ∃ b off, a = some ⟨b, off, none⟩ ∧ b < w.heap.size ∧ ∀ i, i < n → ∃ ai ci, CRw w b (off + i * 2) (T i) ai ci ∧ VersAt w ai (T i).n (T i).U ∧ (T i).n ≤ ci
theorem RwsAt.below {w w' : World} {a : Option Addr} {n : Nat} {T : Nat → Rw} (h : RwsAt w a n T) (hb : Below w.heap.size w w') : RwsAt w' a n T := by
  rcases h with h | ⟨b, off, ha, hl, hc⟩
  · exact .inl h
  · refine .inr ⟨b, off, ha, Nat.lt_of_lt_of_le hl hb.size, fun i hi => ?_⟩
    obtain ⟨ai, ci, h1, h2, h3⟩ := hc i hi
    exact ⟨ai, ci, h1.block (hb.block _ hl), h2.below hb, h3⟩
/-- The same in blocks of their own, from lo on, below hi. -/
def OwnRw (w : World) (lo hi : Nat) (a : Option Addr) (n : Nat) (T : Nat → Rw) : Prop :=
  hi ≤ w.heap.size ∧ (n = 0 ∨ ∃ b off, a = some ⟨b, off, none⟩ ∧ lo ≤ b ∧ b < hi ∧ (∀ i, w.frozen? ⟨b, i, none⟩ = false) ∧ ∃ l h : Nat → Nat, (∀ i j, i < n → j < n → i ≠ j → h i ≤ l j ∨ h j ≤ l i) ∧
    ∀ i, i < n → (b < l i ∨ h i ≤ b) ∧ (h i = 0 ∨ lo ≤ l i ∧ h i ≤ hi) ∧ ∃ ai ci, CRw w b (off + i * 2) (T i) ai ci ∧ (T i).n ≤ ci ∧ Own4 w (l i) (h i) ai (T i).n (T i).U)
theorem OwnRw.at {w : World} {lo hi : Nat} {a : Option Addr} {n : Nat} {T : Nat → Rw} (h : OwnRw w lo hi a n T) : RwsAt w a n T := by
  obtain ⟨h0, h1 | ⟨b, off, ha, _, hl, _, l, h, _, hc⟩⟩ := h
  · exact .inl h1
  · refine .inr ⟨b, off, ha, by omega, fun i hi => ?_⟩
    obtain ⟨_, _, ai, ci, k1, k2, k3⟩ := hc i hi
    exact ⟨ai, ci, k1, k3.at, k2⟩
theorem OwnRw.writes {w w' : World} {lo hi lo' hi' : Nat} {a : Option Addr} {n : Nat} {T : Nat → Rw} (h : OwnRw w lo hi a n T) (hw : Writes lo' hi' w w') (hd : hi ≤ lo' ∨ hi' ≤ lo) : OwnRw w' lo hi a n T := by
  obtain ⟨h0, h1 | ⟨b, off, ha, hlo, hl, hf, l, h, hj, hc⟩⟩ := h
  · exact ⟨Nat.le_trans h0 hw.size, .inl h1⟩
  · have e := hw.block b (by omega) (by omega)
    refine ⟨Nat.le_trans h0 hw.size, .inr ⟨b, off, ha, hlo, hl, fun i => (World.frozen?_of_block (w := w) (a := ⟨b, i, none⟩) e).trans (hf i), l, h, hj, fun i hi => ?_⟩⟩
    obtain ⟨k0, k1, ai, ci, k2, k3, k4⟩ := hc i hi
    exact ⟨k0, k1, ai, ci, k2.block e, k3, k4.writes hw (by omega)⟩
theorem OwnRw.below {w w' : World} {lo hi : Nat} {a : Option Addr} {n : Nat} {T : Nat → Rw} (h : OwnRw w lo hi a n T) (hb : Below w.heap.size w w') : OwnRw w' lo hi a n T :=
  h.writes (Writes.of_below (lo := hi) (hi := hi) hb) (.inl (Nat.le_refl _))
theorem OwnRw.wide {w : World} {lo hi lo' hi' : Nat} {a : Option Addr} {n : Nat} {T : Nat → Rw} (h : OwnRw w lo hi a n T) (h1 : lo' ≤ lo) (h2 : hi ≤ hi') (h3 : hi' ≤ w.heap.size) : OwnRw w lo' hi' a n T := by
  obtain ⟨h0, h4 | ⟨b, off, ha, hlo, hl, hf, l, h, hj, hc⟩⟩ := h
  · exact ⟨h3, .inl h4⟩
  · refine ⟨h3, .inr ⟨b, off, ha, by omega, by omega, hf, l, h, hj, fun i hi => ?_⟩⟩
    obtain ⟨k0, k1, r⟩ := hc i hi
    exact ⟨k0, by omega, r⟩
/-- Two of the rows that hold the same. -/
def Rw.Same (t t' : Rw) : Prop := t.key = t'.key ∧ t.n = t'.n ∧ ∀ j, j < t.n → t.U j = t'.U j
theorem OwnRw.same {w : World} {lo hi : Nat} {a : Option Addr} {n : Nat} {T T' : Nat → Rw} (h : OwnRw w lo hi a n T) (e : ∀ i, i < n → (T i).Same (T' i)) : OwnRw w lo hi a n T' := by
  obtain ⟨h0, h1 | ⟨b, off, ha, hlo, hl, hf, l, h, hj, hc⟩⟩ := h
  · exact ⟨h0, .inl h1⟩
  · refine ⟨h0, .inr ⟨b, off, ha, hlo, hl, hf, l, h, hj, fun i hi => ?_⟩⟩
    obtain ⟨k0, k1, ai, ci, k2, k3, k4⟩ := hc i hi
    obtain ⟨e0, en, eu⟩ := e i hi
    unfold CRw at k2
    rw [e0, en] at k2
    rw [en] at k3
    refine ⟨k0, k1, ai, ci, k2, k3, ?_⟩
    have := k4.congr eu
    rw [en] at this
    exact this
theorem OwnRw.congr {w : World} {lo hi : Nat} {a : Option Addr} {n : Nat} {T T' : Nat → Rw} (h : OwnRw w lo hi a n T) (e : ∀ i, i < n → T i = T' i) : OwnRw w lo hi a n T' := by
  obtain ⟨h0, h1 | ⟨b, off, ha, hlo, hl, hf, l, h, hj, hc⟩⟩ := h
  · exact ⟨h0, .inl h1⟩
  · exact ⟨h0, .inr ⟨b, off, ha, hlo, hl, hf, l, h, hj, fun i hi => by rw [← e i hi]; exact hc i hi⟩⟩
/-! ### one is stored -/
def hdRw (w : World) (b o : Nat) (t : Rw) : World := w.setCell ⟨b, o, none⟩ (.int .i64 t.key)
def setRw (w : World) (b o : Nat) (t : Rw) (ai : Option Addr) (ci : Nat) : World := (hdRw w b o t).setCell ⟨b, o + 1, none⟩ (.slice ai t.n ci)
theorem hdRw_size {w : World} {b o : Nat} {t : Rw} : (hdRw w b o t).heap.size = w.heap.size := by simp [hdRw, World.setCell]
theorem setRw_size {w : World} {b o : Nat} {t : Rw} {ai : Option Addr} {ci : Nat} : (setRw w b o t ai ci).heap.size = w.heap.size := by simp [setRw, hdRw, World.setCell]
theorem hdRw_far {w : World} {b o o' : Nat} {t : Rw} (h : o' < o ∨ o + 0 < o') : (hdRw w b o t).cell? ⟨b, o', none⟩ = w.cell? ⟨b, o', none⟩ := by
  unfold hdRw
  rw [setO (by omega)]
theorem hdRw_frozen {w : World} {b o : Nat} {t : Rw} {p : Addr} : (hdRw w b o t).frozen? p = w.frozen? p := by
  unfold hdRw
  rw [World.frozen?_setCell]
theorem hdRw_block {w : World} {b b' o : Nat} {t : Rw} (h : b' ≠ b) : (hdRw w b o t).heap[b']? = w.heap[b']? := by
  unfold hdRw
  rw [blk_setCell_other _ _ _ _ (by show b' ≠ b; exact h)]
theorem hdRw_same {w : World} {b o : Nat} {t t0 : Rw} {ai : Option Addr} {ci : Nat} (h : CRw w b o t0 ai ci) (hn : t.n = t0.n) : CRw (hdRw w b o t) b o t ai ci := by
  obtain ⟨h0, h1⟩ := h
  refine ⟨?_, ?_⟩
  · unfold hdRw; exact setS h0
  · rw [hn, hdRw_far (by omega)]; exact h1
theorem setRw_same {w : World} {b o : Nat} {t t0 : Rw} {ai ai0 : Option Addr} {ci ci0 : Nat} (h : CRw w b o t0 ai0 ci0) : CRw (setRw w b o t ai ci) b o t ai ci := by
  have g : CRw (hdRw w b o {t with n := t0.n}) b o {t with n := t0.n} ai0 ci0 := hdRw_same h rfl
  obtain ⟨h0, h1⟩ := g
  refine ⟨?_, ?_⟩
  · unfold setRw; rw [setO (by omega)]; exact h0
  · unfold setRw; exact setS h1
theorem setRw_far {w : World} {b o o' : Nat} {t : Rw} {ai : Option Addr} {ci : Nat} (h : o' < o ∨ o + 1 < o') : (setRw w b o t ai ci).cell? ⟨b, o', none⟩ = w.cell? ⟨b, o', none⟩ := by
  unfold setRw
  rw [setO (by omega), hdRw_far (by omega)]
theorem setRw_frozen {w : World} {b o : Nat} {t : Rw} {ai : Option Addr} {ci : Nat} {p : Addr} : (setRw w b o t ai ci).frozen? p = w.frozen? p := by
  unfold setRw
  rw [World.frozen?_setCell, hdRw_frozen]
theorem setRw_block {w : World} {b b' o : Nat} {t : Rw} {ai : Option Addr} {ci : Nat} (h : b' ≠ b) : (setRw w b o t ai ci).heap[b']? = w.heap[b']? := by
  unfold setRw
  rw [blk_setCell_other _ _ _ _ (by show b' ≠ b; exact h), hdRw_block h]
theorem hdRw_below {m : Nat} {w wr : World} {b o : Nat} {t : Rw} (h : Below m w wr) (h1 : m ≤ b) : Below m w (hdRw wr b o t) := by
  unfold hdRw
  exact h.setCell (p := ⟨b, _, none⟩) h1 _
theorem setRw_below {m : Nat} {w wr : World} {b o : Nat} {t : Rw} {ai : Option Addr} {ci : Nat} (h : Below m w wr) (h1 : m ≤ b) : Below m w (setRw wr b o t ai ci) :=
  (hdRw_below h h1).setCell (p := ⟨b, _, none⟩) h1 _
theorem hdRw_writes {lo hi : Nat} {w wr : World} {b o : Nat} {t : Rw} (h : Writes lo hi w wr) (h1 : lo ≤ b) (h2 : b < hi) : Writes lo hi w (hdRw wr b o t) := by
  unfold hdRw
  exact h.setCell (p := ⟨b, _, none⟩) h1 h2 _
theorem setRw_writes {lo hi : Nat} {w wr : World} {b o : Nat} {t : Rw} {ai : Option Addr} {ci : Nat} (h : Writes lo hi w wr) (h1 : lo ≤ b) (h2 : b < hi) : Writes lo hi w (setRw wr b o t ai ci) :=
  (hdRw_writes h h1 h2).setCell (p := ⟨b, _, none⟩) h1 h2 _
/-- Of n in blocks of their own the j-th is stored, with a slice of its own from hi on. -/
theorem OwnRw.store {w : World} {lo hi hi' l' h' b off n j : Nat} {T : Nat → Rw} {t : Rw} {ai : Option Addr} {ci : Nat} (h : OwnRw w lo hi (some ⟨b, off, none⟩) n T) (hj : j < n) (e1 : hi ≤ l') (e2 : h' ≤ hi') (e3 : hi ≤ hi') (e4 : hi' ≤ w.heap.size) (hn : t.n ≤ ci) (hu : Own4 w l' h' ai t.n t.U) :
    OwnRw (setRw w b (off + j * 2) t ai ci) lo hi' (some ⟨b, off, none⟩) n (upf T j t) := by
  obtain ⟨h0, h1 | ⟨b1, off1, ha, hlo, hl, hf, l, h, hd, hc⟩⟩ := h
  · omega
  simp only [Option.some.injEq, Addr.mk.injEq, and_true] at ha
  obtain ⟨rfl, rfl⟩ := ha
  refine ⟨by rw [setRw_size]; exact e4, .inr ⟨b, off, rfl, hlo, by omega, fun i => by rw [setRw_frozen]; exact hf i, fun i => if i = j then l' else l i, fun i => if i = j then h' else h i, fun i q hi hq hne => ?_, fun i hi => ?_⟩⟩
  · by_cases c1 : i = j <;> by_cases c2 : q = j <;> simp only [c1, c2, if_true, if_false]
    · omega
    · have := (hc q hq).2.1; omega
    · have := (hc i hi).2.1; omega
    · exact hd i q hi hq hne
  · obtain ⟨k0, k1, ai', ci', k2, k3, k4⟩ := hc i hi
    by_cases e : i = j
    · subst e
      simp only [if_true, upf_eq]
      exact ⟨by omega, by omega, ai, ci, setRw_same k2, hn, hu.writes (lo' := b) (hi' := b + 1) (setRw_writes (Writes.refl _ _ _) (Nat.le_refl _) (Nat.lt_succ_self _)) (by omega)⟩
    · simp only [if_neg e]
      rw [upf_ne _ _ e]
      refine ⟨k0, by omega, ai', ci', ?_, k3, k4.writes (lo' := b) (hi' := b + 1) (setRw_writes (Writes.refl _ _ _) (Nat.le_refl _) (Nat.lt_succ_self _)) (by omega)⟩
      have g : ∀ q, q < 2 → (setRw w b (off + j * 2) t ai ci).cell? ⟨b, off + i * 2 + q, none⟩ = w.cell? ⟨b, off + i * 2 + q, none⟩ := fun q hq => setRw_far (by omega)
      obtain ⟨h0, h1⟩ := k2
      exact ⟨(g 0 (by omega)).trans h0, (g 1 (by omega)).trans h1⟩
/-- One of them, and what a change of its numbers and its slice's elements leaves. -/
theorem OwnRw.pick {w : World} {lo hi : Nat} {a : Option Addr} {n : Nat} {T : Nat → Rw} (h : OwnRw w lo hi a n T) {j : Nat} (hj : j < n) :
    ∃ b off ai ci l h, a = some ⟨b, off, none⟩ ∧ lo ≤ b ∧ b < hi ∧ (∀ i, w.frozen? ⟨b, i, none⟩ = false) ∧ CRw w b (off + j * 2) (T j) ai ci ∧ (T j).n ≤ ci ∧ (b < l ∨ h ≤ b) ∧ (h = 0 ∨ lo ≤ l ∧ h ≤ hi) ∧ Own4 w l h ai (T j).n (T j).U ∧
      ∀ t w1, t.n = (T j).n → Writes l h (hdRw w b (off + j * 2) t) w1 → Own4 w1 l h ai t.n t.U → OwnRw w1 lo hi a n (upf T j t) := by
  obtain ⟨h0, h1 | ⟨b, off, ha, hlo, hl, hf, l, h, hd, hc⟩⟩ := h
  · omega
  obtain ⟨k0, k1, ai, ci, k2, k3, k4⟩ := hc j hj
  refine ⟨b, off, ai, ci, l j, h j, ha, hlo, hl, hf, k2, k3, k0, k1, k4, fun t w1 hn hw hr => ?_⟩
  have hsz : w.heap.size ≤ w1.heap.size := by have := hw.size; rw [hdRw_size] at this; exact this
  have eb : w1.heap[b]? = (hdRw w b (off + j * 2) t).heap[b]? := hw.block b (by rw [hdRw_size]; omega) (by omega)
  have cb : ∀ q, w1.cell? ⟨b, q, none⟩ = (hdRw w b (off + j * 2) t).cell? ⟨b, q, none⟩ := fun q => World.cell?_of_block (w := hdRw w b (off + j * 2) t) (a := ⟨b, q, none⟩) eb
  refine ⟨Nat.le_trans h0 hsz, .inr ⟨b, off, ha, hlo, hl, fun i => ?_, l, h, hd, fun i hi => ?_⟩⟩
  · rw [World.frozen?_of_block (w := hdRw w b (off + j * 2) t) (a := ⟨b, i, none⟩) eb, hdRw_frozen]; exact hf i
  · obtain ⟨m0, m1, ai', ci', m2, m3, m4⟩ := hc i hi
    by_cases e : i = j
    · subst e
      rw [upf_eq]
      have es : ai' = ai ∧ ci' = ci := by
        have x1 := k2.2
        have x2 := m2.2
        rw [x1] at x2
        simp only [Option.some.injEq, Value.slice.injEq] at x2
        exact ⟨x2.1.symm, x2.2.2.symm⟩
      exact ⟨m0, m1, ai, ci, (hdRw_same k2 hn).block eb, by rw [hn]; exact k3, hr⟩
    · rw [upf_ne _ _ e]
      refine ⟨m0, m1, ai', ci', ?_, m3, ?_⟩
      · have g : ∀ q, q < 2 → w1.cell? ⟨b, off + i * 2 + q, none⟩ = w.cell? ⟨b, off + i * 2 + q, none⟩ := fun q hq => (cb _).trans (hdRw_far (by omega))
        obtain ⟨h0, h1⟩ := m2
        exact ⟨(g 0 (by omega)).trans h0, (g 1 (by omega)).trans h1⟩
      · have hdd := hd i j hi hj e
        have m5 := m4.writes (w' := hdRw w b (off + j * 2) t) (lo' := b) (hi' := b + 1) (hdRw_writes (Writes.refl _ _ _) (Nat.le_refl _) (Nat.lt_succ_self _)) (by omega)
        exact m5.writes hw (by omega)
/-! ### copies -/
theorem infoRw : (Try.prog.info? 46).map (fun i => (i.zero, i.size, i.bytes)) = some (some (.agg #[.int .i64 0, .slice none 0 0]), 2, 32) := by kernel_rfl
theorem run_make_Rw (n : Nat) (hn : n ≤ 1048576) (w : World) :
    (Instr.makeSlice 25 (.int .i64 (n : Int)) (.int .i64 (n : Int))).run Try.prog w = .ok (.slice (some ⟨w.heap.size, 0, none⟩) n n) (w.alloc (.cells (madeCells #[.int .i64 0, .slice none 0 0] (n * 2)) 46)) := by
  obtain ⟨i, hi, hzz⟩ := Option.map_eq_some_iff.1 infoRw
  simp only [Prod.mk.injEq] at hzz
  obtain ⟨hz, hs, hb⟩ := hzz
  have hr := run_make (P := Try.prog) w 25 46 i _ Try.underlying25 hi hz .i64 .i64 n n (by omega) (Int.le_refl _) (by rw [hb]; omega) (by omega)
  simp only [Int.toNat_natCast, hs] at hr
  exact hr
theorem made_Rw (w : World) (n : Nat) : OwnRw (w.alloc (.cells (madeCells #[.int .i64 0, .slice none 0 0] (n * 2)) 46)) w.heap.size (w.heap.size + 1) (some ⟨w.heap.size, 0, none⟩) n (fun _ => zRw) := by
  refine ⟨by simp, .inr ⟨_, _, rfl, Nat.le_refl _, Nat.lt_succ_self _, fun i => by simp [go_sem], fun _ => 0, fun _ => 0, fun i j _ _ _ => .inl (Nat.le_refl _), fun i hi => ⟨.inr (Nat.zero_le _), .inl rfl, none, 0, ?_, Nat.le_refl _, Nat.zero_le _, .inl rfl⟩⟩⟩
  have c : ∀ j, j < 2 → (w.alloc (.cells (madeCells #[.int .i64 0, .slice none 0 0] (n * 2)) 46)).cell? ⟨w.heap.size, 0 + i * 2 + j, none⟩ = (#[Value.int .i64 0, .slice none 0 0])[j]? := fun j hj => by
    have l : i * 2 + j < n * 2 := by omega
    have : j = 0 ∨ j = 1 := by omega
    rcases this with rfl | rfl <;> simp [go_sem, madeCells] <;> exact ⟨_, by rw [Array.getElem?_range, if_pos (by omega)], by simp [Nat.add_mod]⟩
  exact ⟨c 0 (by omega), c 1 (by omega)⟩
/-- How many elements the first k have. -/
def smRw (T : Nat → Rw) (k : Nat) : Nat := smf (fun i => (T i).n) k
theorem pref_zRw (T : Nat → Rw) (k : Nat) : pref T (fun _ => zRw) k k = zRw := pref_at _ _ _
end Go.Proofs.Ytjdodbiphijjgaa
