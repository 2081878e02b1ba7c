/- Transactions: equal, marked, held, opened. -/
import Derived.Test.YtjdodbiphijjgaaGreatQBase
namespace Go.Proofs.YtjdodbiphijjgaaGreat
open Go.ChangeShapes Go.WideShapes Go.ChangeAt Go.RowKit Go.Deep Go.Joins
set_option linter.unusedVariables false
set_option maxRecDepth 20000

/-- The sum of the first k. -/
def smf (f : Nat → Nat) : Nat → Nat
  | 0 => 0
  | k + 1 => smf f k + f k
theorem smf_ge (f : Nat → Nat) : ∀ n i, i < n → f i ≤ smf f n
  | 0, i, h => by omega
  | n + 1, i, h => by
    by_cases e : i = n
    · subst e; simp [smf]
    · have := smf_ge f n i (by omega); simp only [smf]; omega
theorem smf_le (f : Nat → Nat) {n : Nat} : ∀ {i}, i ≤ n → smf f i ≤ smf f n := by
  induction n with
  | zero => intro i h; have : i = 0 := by omega
            subst this; exact Nat.le_refl _
  | succ n ih =>
    intro i h
    by_cases e : i = n + 1
    · subst e; exact Nat.le_refl _
    · have := ih (i := i) (by omega); simp only [smf]; omega
theorem smf_add (f : Nat → Nat) (c d : Nat) : ∀ k, smf (fun i => f i * c + d) k = smf f k * c + k * d
  | 0 => by simp [smf]
  | k + 1 => by simp only [smf, smf_add f c d k, Nat.add_mul, Nat.one_mul]; omega
def upf {α : Type} (f : Nat → α) (j : Nat) (x : α) (i : Nat) : α := if i = j then x else f i
theorem upf_eq {α : Type} (f : Nat → α) (j : Nat) (x : α) : upf f j x j = x := by simp [upf]
theorem upf_ne {α : Type} (f : Nat → α) {j i : Nat} (x : α) (h : i ≠ j) : upf f j x i = f i := by simp [upf, h]
def pref {α : Type} (f g : Nat → α) (j i : Nat) : α := if i < j then f i else g i
theorem pref_upf {α : Type} (f g : Nat → α) (j : Nat) : upf (pref f g j) j (f j) = pref f g (j + 1) := by
  funext i
  by_cases e : i = j
  · subst e; simp [upf, pref]
  · by_cases h : i < j
    · have : i < j + 1 := by omega
      simp [upf, pref, e, h, this]
    · have : ¬ i < j + 1 := by omega
      simp [upf, pref, e, h, this]
theorem pref_at {α : Type} (f g : Nat → α) (j : Nat) : pref f g j j = g j := by simp [pref]
theorem pref_lt {α : Type} (f g : Nat → α) {j i : Nat} (h : i < j) : pref f g j i = f i := by simp [pref, h]
theorem pref_zero {α : Type} (f g : Nat → α) : pref f g 0 = g := by funext i; simp [pref]
/-- What is kept of cells by a call. -/
theorem bcell2 {w w' : World} (hb : Below w.heap.size w w') : (∀ b i, b < w.heap.size → w'.cell? ⟨b, i, none⟩ = w.cell? ⟨b, i, none⟩) ∧ (∀ b i, b < w.heap.size → w'.frozen? ⟨b, i, none⟩ = w.frozen? ⟨b, i, none⟩) :=
  ⟨fun b i h => hb.cell (p := ⟨b, i, none⟩) h, fun b i h => hb.frozen (p := ⟨b, i, none⟩) h⟩
structure Tx where
  id : Int
  am : Int
  st : Int
  dn : Int
  n : Nat
  U : Nat → Ud
def zTx : Tx := ⟨0, 0, 0, 0, 0, fun _ => zU⟩
/-- The cells of one of the transactions. -/
def CTx (w : World) (b o : Nat) (t : Tx) (ai : Option Addr) (ci : Nat) : Prop :=
  w.cell? ⟨b, o, none⟩ = some (.int .i64 t.id) ∧ w.cell? ⟨b, o + 1, none⟩ = some (.int .i64 t.am) ∧ w.cell? ⟨b, o + 2, none⟩ = some (.int .i64 t.st) ∧ w.cell? ⟨b, o + 3, none⟩ = some (.int .i64 t.dn) ∧ w.cell? ⟨b, o + 4, none⟩ = some (.slice ai t.n ci)
theorem CTx.block {w w' : World} {b o : Nat} {t : Tx} {ai : Option Addr} {ci : Nat} (h : CTx w b o t ai ci) (e : w'.heap[b]? = w.heap[b]?) : CTx w' b o t ai ci := by
  have g : ∀ i, w'.cell? ⟨b, i, none⟩ = w.cell? ⟨b, i, none⟩ := fun i => World.cell?_of_block (w := w) (a := ⟨b, i, none⟩) e
  obtain ⟨h0, h1, h2, h3, h4⟩ := h
  exact ⟨(g _).trans h0, (g _).trans h1, (g _).trans h2, (g _).trans h3, (g _).trans h4⟩
/-- The slice at 'a' has the n transactions T. -/
def TxsAt (w : World) (a : Option Addr) (n : Nat) (T : Nat → Tx) : Prop :=
  n = 0 ∨ ∃ b off, a = some ⟨b, off, none⟩ ∧ b < w.heap.size ∧ ∀ i, i < n → ∃ ai ci, CTx w b (off + i * 5) (T i) ai ci ∧ UndsAt w ai (T i).n (T i).U ∧ (T i).n ≤ ci
theorem TxsAt.below {w w' : World} {a : Option Addr} {n : Nat} {T : Nat → Tx} (h : TxsAt w a n T) (hb : Below w.heap.size w w') : TxsAt w' a n T := by
  rcases h with h | ⟨b, off, ha, hl, hc⟩
  · exact .inl h
  · refine .inr ⟨b, off, ha, Nat.lt_of_lt_of_le hl hb.size, fun i hi => ?_⟩
    obtain ⟨ai, ci, h1, h2, h3⟩ := hc i hi
    exact ⟨ai, ci, h1.block (hb.block _ hl), h2.below hb, h3⟩
/-- The same in blocks of their own, from lo on, below hi. -/
def OwnTx (w : World) (lo hi : Nat) (a : Option Addr) (n : Nat) (T : Nat → Tx) : Prop :=
  hi ≤ w.heap.size ∧ (n = 0 ∨ ∃ b off, a = some ⟨b, off, none⟩ ∧ lo ≤ b ∧ b < hi ∧ (∀ i, w.frozen? ⟨b, i, none⟩ = false) ∧ ∃ l h : Nat → Nat, (∀ i j, i < n → j < n → i ≠ j → h i ≤ l j ∨ h j ≤ l i) ∧
    ∀ i, i < n → (b < l i ∨ h i ≤ b) ∧ (h i = 0 ∨ lo ≤ l i ∧ h i ≤ hi) ∧ ∃ ai ci, CTx w b (off + i * 5) (T i) ai ci ∧ (T i).n ≤ ci ∧ OwnU w (l i) (h i) ai (T i).n (T i).U)
theorem OwnTx.at {w : World} {lo hi : Nat} {a : Option Addr} {n : Nat} {T : Nat → Tx} (h : OwnTx w lo hi a n T) : TxsAt w a n T := by
  obtain ⟨h0, h1 | ⟨b, off, ha, _, hl, _, l, h, _, hc⟩⟩ := h
  · exact .inl h1
  · refine .inr ⟨b, off, ha, by omega, fun i hi => ?_⟩
    obtain ⟨_, _, ai, ci, k1, k2, k3⟩ := hc i hi
    exact ⟨ai, ci, k1, k3.at, k2⟩
theorem OwnTx.writes {w w' : World} {lo hi lo' hi' : Nat} {a : Option Addr} {n : Nat} {T : Nat → Tx} (h : OwnTx w lo hi a n T) (hw : Writes lo' hi' w w') (hd : hi ≤ lo' ∨ hi' ≤ lo) : OwnTx w' lo hi a n T := by
  obtain ⟨h0, h1 | ⟨b, off, ha, hlo, hl, hf, l, h, hj, hc⟩⟩ := h
  · exact ⟨Nat.le_trans h0 hw.size, .inl h1⟩
  · have e := hw.block b (by omega) (by omega)
    refine ⟨Nat.le_trans h0 hw.size, .inr ⟨b, off, ha, hlo, hl, fun i => (World.frozen?_of_block (w := w) (a := ⟨b, i, none⟩) e).trans (hf i), l, h, hj, fun i hi => ?_⟩⟩
    obtain ⟨k0, k1, ai, ci, k2, k3, k4⟩ := hc i hi
    exact ⟨k0, k1, ai, ci, k2.block e, k3, k4.writes hw (by omega)⟩
theorem OwnTx.below {w w' : World} {lo hi : Nat} {a : Option Addr} {n : Nat} {T : Nat → Tx} (h : OwnTx w lo hi a n T) (hb : Below w.heap.size w w') : OwnTx w' lo hi a n T :=
  h.writes (Writes.of_below (lo := hi) (hi := hi) hb) (.inl (Nat.le_refl _))
theorem OwnTx.wide {w : World} {lo hi lo' hi' : Nat} {a : Option Addr} {n : Nat} {T : Nat → Tx} (h : OwnTx w lo hi a n T) (h1 : lo' ≤ lo) (h2 : hi ≤ hi') (h3 : hi' ≤ w.heap.size) : OwnTx w lo' hi' a n T := by
  obtain ⟨h0, h4 | ⟨b, off, ha, hlo, hl, hf, l, h, hj, hc⟩⟩ := h
  · exact ⟨h3, .inl h4⟩
  · refine ⟨h3, .inr ⟨b, off, ha, by omega, by omega, hf, l, h, hj, fun i hi => ?_⟩⟩
    obtain ⟨k0, k1, r⟩ := hc i hi
    exact ⟨k0, by omega, r⟩
theorem OwnTx.congr {w : World} {lo hi : Nat} {a : Option Addr} {n : Nat} {T T' : Nat → Tx} (h : OwnTx w lo hi a n T) (e : ∀ i, i < n → T i = T' i) : OwnTx w lo hi a n T' := by
  obtain ⟨h0, h1 | ⟨b, off, ha, hlo, hl, hf, l, h, hj, hc⟩⟩ := h
  · exact ⟨h0, .inl h1⟩
  · exact ⟨h0, .inr ⟨b, off, ha, hlo, hl, hf, l, h, hj, fun i hi => by rw [← e i hi]; exact hc i hi⟩⟩
/-! ### one is stored -/
def hdTx (w : World) (b o : Nat) (t : Tx) : World := (((w.setCell ⟨b, o, none⟩ (.int .i64 t.id)).setCell ⟨b, o + 1, none⟩ (.int .i64 t.am)).setCell ⟨b, o + 2, none⟩ (.int .i64 t.st)).setCell ⟨b, o + 3, none⟩ (.int .i64 t.dn)
def setTx (w : World) (b o : Nat) (t : Tx) (ai : Option Addr) (ci : Nat) : World := (hdTx w b o t).setCell ⟨b, o + 4, none⟩ (.slice ai t.n ci)
theorem hdTx_size {w : World} {b o : Nat} {t : Tx} : (hdTx w b o t).heap.size = w.heap.size := by simp [hdTx, World.setCell]
theorem setTx_size {w : World} {b o : Nat} {t : Tx} {ai : Option Addr} {ci : Nat} : (setTx w b o t ai ci).heap.size = w.heap.size := by simp [setTx, hdTx, World.setCell]
theorem hdTx_far {w : World} {b o o' : Nat} {t : Tx} (h : o' < o ∨ o + 3 < o') : (hdTx w b o t).cell? ⟨b, o', none⟩ = w.cell? ⟨b, o', none⟩ := by
  unfold hdTx
  rw [setO (by omega), setO (by omega), setO (by omega), setO (by omega)]
theorem hdTx_frozen {w : World} {b o : Nat} {t : Tx} {p : Addr} : (hdTx w b o t).frozen? p = w.frozen? p := by
  unfold hdTx
  rw [World.frozen?_setCell, World.frozen?_setCell, World.frozen?_setCell, World.frozen?_setCell]
theorem hdTx_same {w : World} {b o : Nat} {t t0 : Tx} {ai : Option Addr} {ci : Nat} (h : CTx w b o t0 ai ci) (hn : t.n = t0.n) : CTx (hdTx w b o t) b o t ai ci := by
  obtain ⟨h0, h1, h2, h3, h4⟩ := h
  refine ⟨?_, ?_, ?_, ?_, ?_⟩
  · unfold hdTx; rw [setO (by omega), setO (by omega), setO (by omega)]; exact setS h0
  · unfold hdTx; rw [setO (by omega), setO (by omega)]; exact setS (by rw [setO (by omega)]; exact h1)
  · unfold hdTx; rw [setO (by omega)]; exact setS (by rw [setO (by omega), setO (by omega)]; exact h2)
  · unfold hdTx; exact setS (by rw [setO (by omega), setO (by omega), setO (by omega)]; exact h3)
  · rw [hn, hdTx_far (by omega)]; exact h4
theorem setTx_same {w : World} {b o : Nat} {t t0 : Tx} {ai ai0 : Option Addr} {ci ci0 : Nat} (h : CTx w b o t0 ai0 ci0) : CTx (setTx w b o t ai ci) b o t ai ci := by
  have g : CTx (hdTx w b o {t with n := t0.n}) b o {t with n := t0.n} ai0 ci0 := hdTx_same h rfl
  obtain ⟨h0, h1, h2, h3, h4⟩ := g
  refine ⟨?_, ?_, ?_, ?_, ?_⟩
  · unfold setTx; rw [setO (by omega)]; exact h0
  · unfold setTx; rw [setO (by omega)]; exact h1
  · unfold setTx; rw [setO (by omega)]; exact h2
  · unfold setTx; rw [setO (by omega)]; exact h3
  · unfold setTx; exact setS h4
theorem setTx_far {w : World} {b o o' : Nat} {t : Tx} {ai : Option Addr} {ci : Nat} (h : o' < o ∨ o + 4 < o') : (setTx w b o t ai ci).cell? ⟨b, o', none⟩ = w.cell? ⟨b, o', none⟩ := by
  unfold setTx
  rw [setO (by omega), hdTx_far (by omega)]
theorem setTx_frozen {w : World} {b o : Nat} {t : Tx} {ai : Option Addr} {ci : Nat} {p : Addr} : (setTx w b o t ai ci).frozen? p = w.frozen? p := by
  unfold setTx
  rw [World.frozen?_setCell, hdTx_frozen]
theorem hdTx_below {m : Nat} {w wr : World} {b o : Nat} {t : Tx} (h : Below m w wr) (h1 : m ≤ b) : Below m w (hdTx wr b o t) := by
  unfold hdTx
  exact (((h.setCell (p := ⟨b, _, none⟩) h1 _).setCell (p := ⟨b, _, none⟩) h1 _).setCell (p := ⟨b, _, none⟩) h1 _).setCell (p := ⟨b, _, none⟩) h1 _
theorem setTx_below {m : Nat} {w wr : World} {b o : Nat} {t : Tx} {ai : Option Addr} {ci : Nat} (h : Below m w wr) (h1 : m ≤ b) : Below m w (setTx wr b o t ai ci) :=
  (hdTx_below h h1).setCell (p := ⟨b, _, none⟩) h1 _
theorem hdTx_writes {lo hi : Nat} {w wr : World} {b o : Nat} {t : Tx} (h : Writes lo hi w wr) (h1 : lo ≤ b) (h2 : b < hi) : Writes lo hi w (hdTx wr b o t) := by
  unfold hdTx
  exact (((h.setCell (p := ⟨b, _, none⟩) h1 h2 _).setCell (p := ⟨b, _, none⟩) h1 h2 _).setCell (p := ⟨b, _, none⟩) h1 h2 _).setCell (p := ⟨b, _, none⟩) h1 h2 _
theorem setTx_writes {lo hi : Nat} {w wr : World} {b o : Nat} {t : Tx} {ai : Option Addr} {ci : Nat} (h : Writes lo hi w wr) (h1 : lo ≤ b) (h2 : b < hi) : Writes lo hi w (setTx wr b o t ai ci) :=
  (hdTx_writes h h1 h2).setCell (p := ⟨b, _, none⟩) h1 h2 _
/-- Of n in blocks of their own the j-th is stored, with a slice of its own from hi on. -/
theorem OwnTx.store {w : World} {lo hi hi' l' h' b off n j : Nat} {T : Nat → Tx} {t : Tx} {ai : Option Addr} {ci : Nat} (h : OwnTx w lo hi (some ⟨b, off, none⟩) n T) (hj : j < n) (e1 : hi ≤ l') (e2 : h' ≤ hi') (e3 : hi ≤ hi') (e4 : hi' ≤ w.heap.size) (hn : t.n ≤ ci) (hu : OwnU w l' h' ai t.n t.U) :
    OwnTx (setTx w b (off + j * 5) t ai ci) lo hi' (some ⟨b, off, none⟩) n (upf T j t) := by
  obtain ⟨h0, h1 | ⟨b1, off1, ha, hlo, hl, hf, l, h, hd, hc⟩⟩ := h
  · omega
  simp only [Option.some.injEq, Addr.mk.injEq, and_true] at ha
  obtain ⟨rfl, rfl⟩ := ha
  refine ⟨by rw [setTx_size]; exact e4, .inr ⟨b, off, rfl, hlo, by omega, fun i => by rw [setTx_frozen]; exact hf i, fun i => if i = j then l' else l i, fun i => if i = j then h' else h i, fun i q hi hq hne => ?_, fun i hi => ?_⟩⟩
  · by_cases c1 : i = j <;> by_cases c2 : q = j <;> simp only [c1, c2, if_true, if_false]
    · omega
    · have := (hc q hq).2.1; omega
    · have := (hc i hi).2.1; omega
    · exact hd i q hi hq hne
  · obtain ⟨k0, k1, ai', ci', k2, k3, k4⟩ := hc i hi
    by_cases e : i = j
    · subst e
      simp only [if_true, upf_eq]
      exact ⟨by omega, by omega, ai, ci, setTx_same k2, hn, hu.writes (lo' := b) (hi' := b + 1) (setTx_writes (Writes.refl _ _ _) (Nat.le_refl _) (Nat.lt_succ_self _)) (by omega)⟩
    · simp only [if_neg e]
      rw [upf_ne _ _ e]
      refine ⟨k0, by omega, ai', ci', ?_, k3, k4.writes (lo' := b) (hi' := b + 1) (setTx_writes (Writes.refl _ _ _) (Nat.le_refl _) (Nat.lt_succ_self _)) (by omega)⟩
      have g : ∀ q, q < 5 → (setTx w b (off + j * 5) t ai ci).cell? ⟨b, off + i * 5 + q, none⟩ = w.cell? ⟨b, off + i * 5 + q, none⟩ := fun q hq => setTx_far (by omega)
      obtain ⟨h0, h1, h2, h3, h4⟩ := k2
      exact ⟨(g 0 (by omega)).trans h0, (g 1 (by omega)).trans h1, (g 2 (by omega)).trans h2, (g 3 (by omega)).trans h3, (g 4 (by omega)).trans h4⟩
/-- One of them, and what a change of its numbers and its slice's elements leaves. -/
theorem OwnTx.pick {w : World} {lo hi : Nat} {a : Option Addr} {n : Nat} {T : Nat → Tx} (h : OwnTx w lo hi a n T) {j : Nat} (hj : j < n) :
    ∃ b off ai ci l h, a = some ⟨b, off, none⟩ ∧ lo ≤ b ∧ b < hi ∧ (∀ i, w.frozen? ⟨b, i, none⟩ = false) ∧ CTx w b (off + j * 5) (T j) ai ci ∧ (T j).n ≤ ci ∧ (b < l ∨ h ≤ b) ∧ (h = 0 ∨ lo ≤ l ∧ h ≤ hi) ∧ OwnU w l h ai (T j).n (T j).U ∧
      ∀ t w1, t.n = (T j).n → Writes l h (hdTx w b (off + j * 5) t) w1 → OwnU w1 l h ai t.n t.U → OwnTx w1 lo hi a n (upf T j t) := by
  obtain ⟨h0, h1 | ⟨b, off, ha, hlo, hl, hf, l, h, hd, hc⟩⟩ := h
  · omega
  obtain ⟨k0, k1, ai, ci, k2, k3, k4⟩ := hc j hj
  refine ⟨b, off, ai, ci, l j, h j, ha, hlo, hl, hf, k2, k3, k0, k1, k4, fun t w1 hn hw hr => ?_⟩
  have hsz : w.heap.size ≤ w1.heap.size := by have := hw.size; rw [hdTx_size] at this; exact this
  have eb : w1.heap[b]? = (hdTx w b (off + j * 5) t).heap[b]? := hw.block b (by rw [hdTx_size]; omega) (by omega)
  have cb : ∀ q, w1.cell? ⟨b, q, none⟩ = (hdTx w b (off + j * 5) t).cell? ⟨b, q, none⟩ := fun q => World.cell?_of_block (w := hdTx w b (off + j * 5) t) (a := ⟨b, q, none⟩) eb
  refine ⟨Nat.le_trans h0 hsz, .inr ⟨b, off, ha, hlo, hl, fun i => ?_, l, h, hd, fun i hi => ?_⟩⟩
  · rw [World.frozen?_of_block (w := hdTx w b (off + j * 5) t) (a := ⟨b, i, none⟩) eb, hdTx_frozen]; exact hf i
  · obtain ⟨m0, m1, ai', ci', m2, m3, m4⟩ := hc i hi
    by_cases e : i = j
    · subst e
      rw [upf_eq]
      have es : ai' = ai ∧ ci' = ci := by
        have x1 := k2.2.2.2.2
        have x2 := m2.2.2.2.2
        rw [x1] at x2
        simp only [Option.some.injEq, Value.slice.injEq] at x2
        exact ⟨x2.1.symm, x2.2.2.symm⟩
      exact ⟨m0, m1, ai, ci, (hdTx_same k2 hn).block eb, by rw [hn]; exact k3, hr⟩
    · rw [upf_ne _ _ e]
      refine ⟨m0, m1, ai', ci', ?_, m3, ?_⟩
      · have g : ∀ q, q < 5 → w1.cell? ⟨b, off + i * 5 + q, none⟩ = w.cell? ⟨b, off + i * 5 + q, none⟩ := fun q hq => (cb _).trans (hdTx_far (by omega))
        obtain ⟨h0, h1, h2, h3, h4⟩ := m2
        exact ⟨(g 0 (by omega)).trans h0, (g 1 (by omega)).trans h1, (g 2 (by omega)).trans h2, (g 3 (by omega)).trans h3, (g 4 (by omega)).trans h4⟩
      · have hdd := hd i j hi hj e
        have m5 := m4.writes (w' := hdTx w b (off + j * 5) t) (lo' := b) (hi' := b + 1) (hdTx_writes (Writes.refl _ _ _) (Nat.le_refl _) (Nat.lt_succ_self _)) (by omega)
        exact m5.writes hw (by omega)
/-! ### copies -/
theorem infoTx : (Tryz.prog.info? 127).map (fun i => (i.zero, i.size, i.bytes)) = some (some (.agg #[.int .i64 0, .int .i64 0, .int .i64 0, .int .i64 0, .slice none 0 0]), 5, 56) := by kernel_rfl
theorem run_make_Tx (n : Nat) (hn : n ≤ 1048576) (w : World) :
    (Instr.makeSlice 27 (.int .i64 (n : Int)) (.int .i64 (n : Int))).run Tryz.prog w = .ok (.slice (some ⟨w.heap.size, 0, none⟩) n n) (w.alloc (.cells (madeCells #[.int .i64 0, .int .i64 0, .int .i64 0, .int .i64 0, .slice none 0 0] (n * 5)) 127)) := by
  obtain ⟨i, hi, hzz⟩ := Option.map_eq_some_iff.1 infoTx
  simp only [Prod.mk.injEq] at hzz
  obtain ⟨hz, hs, hb⟩ := hzz
  have hr := run_make (P := Tryz.prog) w 27 127 i _ Tryz.underlying27 hi hz .i64 .i64 n n (by omega) (Int.le_refl _) (by rw [hb]; omega) (by omega)
  simp only [Int.toNat_natCast, hs] at hr
  exact hr
theorem made_Tx (w : World) (n : Nat) : OwnTx (w.alloc (.cells (madeCells #[.int .i64 0, .int .i64 0, .int .i64 0, .int .i64 0, .slice none 0 0] (n * 5)) 127)) w.heap.size (w.heap.size + 1) (some ⟨w.heap.size, 0, none⟩) n (fun _ => zTx) := by
  refine ⟨by simp, .inr ⟨_, _, rfl, Nat.le_refl _, Nat.lt_succ_self _, fun i => by simp [go_sem], fun _ => 0, fun _ => 0, fun i j _ _ _ => .inl (Nat.le_refl _), fun i hi => ⟨.inr (Nat.zero_le _), .inl rfl, none, 0, ?_, Nat.le_refl _, Nat.zero_le _, .inl rfl⟩⟩⟩
  have c : ∀ j, j < 5 → (w.alloc (.cells (madeCells #[.int .i64 0, .int .i64 0, .int .i64 0, .int .i64 0, .slice none 0 0] (n * 5)) 127)).cell? ⟨w.heap.size, 0 + i * 5 + j, none⟩ = (#[Value.int .i64 0, .int .i64 0, .int .i64 0, .int .i64 0, .slice none 0 0])[j]? := fun j hj => by
    have l : i * 5 + j < n * 5 := by omega
    have : j = 0 ∨ j = 1 ∨ j = 2 ∨ j = 3 ∨ j = 4 := by omega
    rcases this with rfl | rfl | rfl | rfl | rfl <;> simp [go_sem, madeCells] <;> exact ⟨_, by rw [Array.getElem?_range, if_pos (by omega)], by simp [Nat.add_mod]⟩
  exact ⟨c 0 (by omega), c 1 (by omega), c 2 (by omega), c 3 (by omega), c 4 (by omega)⟩
theorem szUndoS_x (n : Nat) (a : Option Addr) (cap : Nat) (x : Int) (w : World) (hn : n ≤ 9223372036854775807) (h0 : 0 ≤ x) (h1 : x ≤ 1048576) :
    Calls Tryz.prog 175 #[.slice a n cap, .int .i64 x] w fun e w' => e = .returned (.int .i64 (if x - n < 0 then -1 else x - n)) ∧ w' = w := by
  by_cases h : x - (n : Int) < 0
  · go_enter Tryz.func175, Tryz.ntmps175
    go_wp2
    go_ret
    exact ⟨rfl, rfl⟩
  · go_enter Tryz.func175, Tryz.ntmps175
    go_wp2
    go_ret
    exact ⟨rfl, rfl⟩
theorem szTxn_any (id am st dn : Int) (n : Nat) (a : Option Addr) (cap : Nat) (x : Int) (w : World) (hn : n ≤ 9223372036854775807) (h0 : 0 ≤ x) (h1 : x ≤ 1048576) :
    Calls Tryz.prog 108 #[.agg #[.int .i64 id, .int .i64 am, .int .i64 st, .int .i64 dn, .slice a n cap], .int .i64 x] w fun e w' => e = .returned (.int .i64 (if x - n < 0 then -1 else x - n)) ∧ Below w.heap.size w w' := by
  by_cases h : x - (n : Int) < 0
  · go_enter Tryz.func108, Tryz.ntmps108
    go_wp2_with fail
    refine (szUndoS_x n a cap x _ hn h0 h1).mono ?_
    rintro e w' ⟨rfl, rfl⟩
    rw [if_pos (by omega)]
    go_wp2
    go_ret
    exact ⟨rfl, below_new _ _⟩
  · go_enter Tryz.func108, Tryz.ntmps108
    go_wp2_with fail
    refine (szUndoS_x n a cap x _ hn h0 h1).mono ?_
    rintro e w' ⟨rfl, rfl⟩
    rw [if_neg (by omega)]
    go_wp2
    go_ret
    exact ⟨rfl, below_new _ _⟩
/-- How many elements the first k have. -/
def smTx (T : Nat → Tx) (k : Nat) : Nat := smf (fun i => (T i).n) k
set_option maxHeartbeats 1000000 in
theorem szTxnS_any (n : Nat) (T : Nat → Tx) (a : Option Addr) (cap : Nat) (x : Int) (w : World) (hn : n ≤ 9223372036854775807) (hL : ∀ i, i < n → (T i).n ≤ 9223372036854775807) (h0 : 0 ≤ x) (h1 : x ≤ 1048576) (h : TxsAt w a n T) :
    Calls Tryz.prog 57 #[.slice a n cap, .int .i64 x] w fun e w' => Below w.heap.size w w' ∧ ∃ r : Int, e = .returned (.int .i64 r) ∧ (r = -1 ∨ (0 ≤ r ∧ r = x - n - smTx T n)) := by
  by_cases hx : x - (n : Int) < 0
  · clear hL h
    go_enter Tryz.func57, Tryz.ntmps57
    go_wp2
    go_ret
    exact ⟨Below.refl _ _, _, rfl, .inl rfl⟩
  · go_enter Tryz.func57, Tryz.ntmps57
    have HL : Hid (∀ i, i < n → (T i).n ≤ 9223372036854775807) := hL
    have HA : Hid (TxsAt w a n T) := h
    clear hL h
    go_wp2
    go_loopw [1, 5] (fun q i wr => ∃ k : Nat, k ≤ n ∧ i = .int .i64 k ∧ q = .int .i64 (x - n - smTx T k) ∧ 0 ≤ x - n - smTx T k ∧ Below w.heap.size w wr) (fun _ i _ => n - (intOf i).toNat)
    case atStart => exact ⟨0, Nat.zero_le _, rfl, by simp [smTx, smf], by simp [smTx, smf]; omega, Below.refl _ _⟩
    case round =>
      obtain ⟨k, hk, rfl, rfl, hnn, hb⟩ := hrel
      by_cases hlt : k < n
      · rcases HA.out.below hb with h | ⟨b, off, rfl, hl, hc⟩
        · omega
        obtain ⟨ai, ci, hC, -⟩ := hc k hlt
        obtain ⟨q0, q1, q2, q3, q4⟩ := hC
        have hLk := HL.out k hlt
        have hs : (smTx T (k + 1) : Int) = smTx T k + (T k).n := by simp [smTx, smf]
        generalize hS : (smTx T k : Int) = S at *
        have HB : Hid (Below w.heap.size w wr) := hb
        clear hc hb
        by_cases hneg : x - n - S - ((T k).n : Int) < 0
        · go_wp2_with fail
          refine (szTxn_any (T k).id (T k).am (T k).st (T k).dn (T k).n ai ci (x - n - S) wr hLk hnn (by omega)).mono ?_
          rintro e w' ⟨rfl, hb'⟩
          rw [if_pos (by omega)]
          go_wp2
          go_ret
          exact ⟨below_then HB.out hb', _, rfl, .inl rfl⟩
        · go_wp2_with fail
          refine (szTxn_any (T k).id (T k).am (T k).st (T k).dn (T k).n ai ci (x - n - S) wr hLk hnn (by omega)).mono ?_
          rintro e w' ⟨rfl, hb'⟩
          rw [if_neg (by omega)]
          go_wp2
          go_roundw
          case rel => exact ⟨k + 1, hlt, by go_num, by rw [hs]; go_num, by rw [hs]; omega, below_then HB.out hb'⟩
          case measure => simp [intOf]; omega
      · have hkn : k = n := by omega
        go_wp2
        go_ret
        exact ⟨hb, _, rfl, .inr ⟨by first | exact hnn | (rw [hkn] at hnn; exact hnn), by first | rfl | rw [hkn]⟩⟩
set_option maxHeartbeats 1000000 in
theorem toTxn_any (id am st dn : Int) (n : Nat) (R : Nat → Ud) (a : Option Addr) (cap : Nat) (w : World) (hn : n ≤ 1048576) (h : UndsAt w a n R) :
    Calls Tryz.prog 116 #[.agg #[.int .i64 id, .int .i64 am, .int .i64 st, .int .i64 dn, .slice a n cap]] w fun e w' =>
      ∃ B, e = .returned (.agg #[.int .i64 id, .int .i64 am, .int .i64 st, .int .i64 dn, .slice (some ⟨B, 0, none⟩) n n]) ∧ Below w.heap.size w w' ∧ OwnU w' w.heap.size w'.heap.size (some ⟨B, 0, none⟩) n R := by
  go_enter Tryz.func116, Tryz.ntmps116
  go_wp2_with fail
  have hb0 : ∀ o1 o2 o3, Below w.heap.size w (((w.alloc o1).alloc o2).alloc o3) := fun o1 o2 o3 => (((Below.refl _ _).alloc (Nat.le_refl _) _).alloc (by simp) _).alloc (by simp; omega) _
  refine (toUndoS_any n R a cap _ (by omega) (h.below (hb0 _ _ _))).mono ?_
  rintro e w1 ⟨B, rfl, hb1, hr1⟩
  obtain ⟨hc, hf⟩ := bcell2 hb1
  have hz : w.heap.size + 2 < w1.heap.size := by have := hb1.size; simp at this; omega
  have HBF : Hid (Below w.heap.size w w1) := below_then (hb0 _ _ _) hb1
  go_wp2_with fail
  refine bodyPost_ret (v := .agg #[.int .i64 id, .int .i64 am, .int .i64 st, .int .i64 dn, .slice (some ⟨B, 0, none⟩) n n]) (by simp [results, Tryz.results116, go_sem, hc]) rfl ⟨_, rfl, ?_, ?_⟩
  · repeat (first | with_reducible exact HBF.out | with_reducible refine Below.setCell ?_ (by first | omega | (simp <;> omega)) _)
  · have e3 : ∀ o1 o2 o3 : Obj, (((w.alloc o1).alloc o2).alloc o3).heap.size = w.heap.size + 3 := fun _ _ _ => by simp
    rw [e3] at hr1
    have hw : ∀ w3, Writes w.heap.size (w.heap.size + 3) w1 w3 → w3.heap.size = w1.heap.size → OwnU w3 w.heap.size w3.heap.size (some ⟨B, 0, none⟩) n R := fun w3 h e =>
      (hr1.writes h (.inr (Nat.le_refl _))).wide (by omega) (by omega) (Nat.le_refl _)
    refine hw _ ?_ (by simp [World.setCell])
    repeat (first | with_reducible exact Writes.refl _ _ _ | with_reducible refine Writes.setCell ?_ (by first | omega | (simp <;> omega)) (by first | omega | (simp <;> omega)) _)
theorem pref_zTx (T : Nat → Tx) (k : Nat) : pref T (fun _ => zTx) k k = zTx := pref_at _ _ _
set_option maxHeartbeats 2000000 in
theorem toTxnS_any (n : Nat) (T : Nat → Tx) (a : Option Addr) (cap : Nat) (w : World) (hn : n ≤ 1048576) (hL : ∀ i, i < n → (T i).n ≤ 1048576) (h : TxsAt w a n T) :
    Calls Tryz.prog 64 #[.slice a n cap] w fun e w' =>
      e = .returned (.slice (some ⟨w.heap.size, 0, none⟩) n n) ∧ Below w.heap.size w w' ∧ OwnTx w' w.heap.size w'.heap.size (some ⟨w.heap.size, 0, none⟩) n T := by
  have hmk := run_make_Tx n (by omega)
  have HL : Hid (∀ i, i < n → (T i).n ≤ 1048576) := hL
  have HA : Hid (TxsAt w a n T) := h
  clear hL h
  go_enter Tryz.func64, Tryz.ntmps64
  go_wp2
  clear hmk
  go_loopw [4] (fun i wr => ∃ k : Nat, k ≤ n ∧ i = .int .i64 k ∧ Hid (Below w.heap.size w wr) ∧ Hid (OwnTx wr w.heap.size wr.heap.size (some ⟨w.heap.size, 0, none⟩) n (pref T (fun _ => zTx) k))) (fun i _ => n - (intOf i).toNat)
  case atStart => exact ⟨0, Nat.zero_le _, rfl, (Below.refl _ _).alloc (Nat.le_refl _) _, by rw [pref_zero]; exact (made_Tx w n).wide (Nat.le_refl _) (by simp) (Nat.le_refl _)⟩
  case round =>
    obtain ⟨k, hk, rfl, HB, HO⟩ := hrel
    by_cases hlt : k < n
    · rcases HA.out.below HB.out with h | ⟨b, off, rfl, hl, hc⟩
      · omega
      obtain ⟨ai, ci, hC, hby, -⟩ := hc k hlt
      obtain ⟨q0, q1, q2, q3, q4⟩ := hC
      have HY : Hid (UndsAt wr ai (T k).n (T k).U) := hby
      obtain ⟨h0, h1 | ⟨b1, off1, ha, hlo, hl1, hf, l, h, hd, hc1⟩⟩ := HO.out
      · omega
      simp only [Option.some.injEq, Addr.mk.injEq, and_true] at ha
      obtain ⟨rfl, rfl⟩ := ha
      obtain ⟨_, _, ai', ci', hC1, -⟩ := hc1 k hlt
      rw [pref_zTx, Nat.zero_add] at hC1
      have hsz : w.heap.size < wr.heap.size := by omega
      have hlt' : (k : Int) < (n : Int) := by omega
      have hk0 : (0 : Int) ≤ (k : Int) := by omega
      clear hc hby hc1 hd
      go_wp2_with fail
      refine (toTxn_any (T k).id (T k).am (T k).st (T k).dn (T k).n (T k).U ai ci wr (HL.out k hlt) HY.out).mono ?_
      rintro e w1 ⟨B, rfl, hb1, hr1⟩
      have HB1 : Hid (Below wr.heap.size wr w1) := hb1
      have HR1 : Hid (OwnU w1 wr.heap.size w1.heap.size (some ⟨B, 0, none⟩) (T k).n (T k).U) := hr1
      have hC2 := hC1.block (hb1.block _ hsz)
      obtain ⟨y0, y1, y2, y3, y4⟩ := hC2
      replace hf : ∀ i, w1.frozen? ⟨w.heap.size, i, none⟩ = false := fun i => (hb1.frozen (p := ⟨_, _, none⟩) hsz).trans (hf i)
      clear hb1 hr1 hC1 q0 q1 q2 q3 q4
      go_wp2_with fail
      go_roundw
      case rel =>
        have HS := (HO.out.below HB1.out).store (t := T k) hlt (Nat.le_refl _) (Nat.le_refl _) HB1.out.size (Nat.le_refl _) (Nat.le_refl _) HR1.out
        rw [pref_upf, Nat.zero_add] at HS
        refine ⟨k + 1, hlt, by go_num, setTx_below (t := T k) (o := k * 5) (ai := some ⟨B, 0, none⟩) (ci := (T k).n) (below_then HB.out HB1.out) (Nat.le_refl _), ?_⟩
        have es : (setTx w1 w.heap.size (k * 5) (T k) (some ⟨B, 0, none⟩) (T k).n).heap.size = w1.heap.size := setTx_size
        rw [← es] at HS
        exact HS
      case measure => simp [intOf]; omega
    · have hkn : k = n := by omega
      have HT : Hid (OwnTx wr w.heap.size wr.heap.size (some ⟨w.heap.size, 0, none⟩) n T) := by
        refine HO.out.congr fun i hi => pref_lt _ _ (by omega)
      have hnl : ¬ ((k : Int) < (n : Int)) := by omega
      go_wp2_with fail
      go_ret
      exact ⟨rfl, HB.out, HT.out⟩
structure Rw where
  key : Int
  n : Nat
  U : Nat → Vr
def zRw : Rw := ⟨0, 0, fun _ => zV⟩
/-- The cells of one of the rows. -/
def CRw (w : World) (b o : Nat) (t : Rw) (ai : Option Addr) (ci : Nat) : Prop :=
  w.cell? ⟨b, o, none⟩ = some (.int .i64 t.key) ∧ w.cell? ⟨b, o + 1, none⟩ = some (.slice ai t.n ci)
theorem CRw.block {w w' : World} {b o : Nat} {t : Rw} {ai : Option Addr} {ci : Nat} (h : CRw w b o t ai ci) (e : w'.heap[b]? = w.heap[b]?) : CRw w' b o t ai ci := by
  have g : ∀ i, w'.cell? ⟨b, i, none⟩ = w.cell? ⟨b, i, none⟩ := fun i => World.cell?_of_block (w := w) (a := ⟨b, i, none⟩) e
  obtain ⟨h0, h1⟩ := h
  exact ⟨(g _).trans h0, (g _).trans h1⟩
/-- The slice at 'a' has the n rows T. -/
def RwsAt (w : World) (a : Option Addr) (n : Nat) (T : Nat → Rw) : Prop :=
  n = 0 ∨ ∃ b off, a = some ⟨b, off, none⟩ ∧ b < w.heap.size ∧ ∀ i, i < n → ∃ ai ci, CRw w b (off + i * 2) (T i) ai ci ∧ VersAt w ai (T i).n (T i).U ∧ (T i).n ≤ ci
theorem RwsAt.below {w w' : World} {a : Option Addr} {n : Nat} {T : Nat → Rw} (h : RwsAt w a n T) (hb : Below w.heap.size w w') : RwsAt w' a n T := by
  rcases h with h | ⟨b, off, ha, hl, hc⟩
  · exact .inl h
  · refine .inr ⟨b, off, ha, Nat.lt_of_lt_of_le hl hb.size, fun i hi => ?_⟩
    obtain ⟨ai, ci, h1, h2, h3⟩ := hc i hi
    exact ⟨ai, ci, h1.block (hb.block _ hl), h2.below hb, h3⟩
/-- The same in blocks of their own, from lo on, below hi. -/
def OwnRw (w : World) (lo hi : Nat) (a : Option Addr) (n : Nat) (T : Nat → Rw) : Prop :=
  hi ≤ w.heap.size ∧ (n = 0 ∨ ∃ b off, a = some ⟨b, off, none⟩ ∧ lo ≤ b ∧ b < hi ∧ (∀ i, w.frozen? ⟨b, i, none⟩ = false) ∧ ∃ l h : Nat → Nat, (∀ i j, i < n → j < n → i ≠ j → h i ≤ l j ∨ h j ≤ l i) ∧
    ∀ i, i < n → (b < l i ∨ h i ≤ b) ∧ (h i = 0 ∨ lo ≤ l i ∧ h i ≤ hi) ∧ ∃ ai ci, CRw w b (off + i * 2) (T i) ai ci ∧ (T i).n ≤ ci ∧ Own4 w (l i) (h i) ai (T i).n (T i).U)
theorem OwnRw.at {w : World} {lo hi : Nat} {a : Option Addr} {n : Nat} {T : Nat → Rw} (h : OwnRw w lo hi a n T) : RwsAt w a n T := by
  obtain ⟨h0, h1 | ⟨b, off, ha, _, hl, _, l, h, _, hc⟩⟩ := h
  · exact .inl h1
  · refine .inr ⟨b, off, ha, by omega, fun i hi => ?_⟩
    obtain ⟨_, _, ai, ci, k1, k2, k3⟩ := hc i hi
    exact ⟨ai, ci, k1, k3.at, k2⟩
theorem OwnRw.writes {w w' : World} {lo hi lo' hi' : Nat} {a : Option Addr} {n : Nat} {T : Nat → Rw} (h : OwnRw w lo hi a n T) (hw : Writes lo' hi' w w') (hd : hi ≤ lo' ∨ hi' ≤ lo) : OwnRw w' lo hi a n T := by
  obtain ⟨h0, h1 | ⟨b, off, ha, hlo, hl, hf, l, h, hj, hc⟩⟩ := h
  · exact ⟨Nat.le_trans h0 hw.size, .inl h1⟩
  · have e := hw.block b (by omega) (by omega)
    refine ⟨Nat.le_trans h0 hw.size, .inr ⟨b, off, ha, hlo, hl, fun i => (World.frozen?_of_block (w := w) (a := ⟨b, i, none⟩) e).trans (hf i), l, h, hj, fun i hi => ?_⟩⟩
    obtain ⟨k0, k1, ai, ci, k2, k3, k4⟩ := hc i hi
    exact ⟨k0, k1, ai, ci, k2.block e, k3, k4.writes hw (by omega)⟩
theorem OwnRw.below {w w' : World} {lo hi : Nat} {a : Option Addr} {n : Nat} {T : Nat → Rw} (h : OwnRw w lo hi a n T) (hb : Below w.heap.size w w') : OwnRw w' lo hi a n T :=
  h.writes (Writes.of_below (lo := hi) (hi := hi) hb) (.inl (Nat.le_refl _))
theorem OwnRw.wide {w : World} {lo hi lo' hi' : Nat} {a : Option Addr} {n : Nat} {T : Nat → Rw} (h : OwnRw w lo hi a n T) (h1 : lo' ≤ lo) (h2 : hi ≤ hi') (h3 : hi' ≤ w.heap.size) : OwnRw w lo' hi' a n T := by
  obtain ⟨h0, h4 | ⟨b, off, ha, hlo, hl, hf, l, h, hj, hc⟩⟩ := h
  · exact ⟨h3, .inl h4⟩
  · refine ⟨h3, .inr ⟨b, off, ha, by omega, by omega, hf, l, h, hj, fun i hi => ?_⟩⟩
    obtain ⟨k0, k1, r⟩ := hc i hi
    exact ⟨k0, by omega, r⟩
theorem OwnRw.congr {w : World} {lo hi : Nat} {a : Option Addr} {n : Nat} {T T' : Nat → Rw} (h : OwnRw w lo hi a n T) (e : ∀ i, i < n → T i = T' i) : OwnRw w lo hi a n T' := by
  obtain ⟨h0, h1 | ⟨b, off, ha, hlo, hl, hf, l, h, hj, hc⟩⟩ := h
  · exact ⟨h0, .inl h1⟩
  · exact ⟨h0, .inr ⟨b, off, ha, hlo, hl, hf, l, h, hj, fun i hi => by rw [← e i hi]; exact hc i hi⟩⟩
/-! ### one is stored -/
def hdRw (w : World) (b o : Nat) (t : Rw) : World := w.setCell ⟨b, o, none⟩ (.int .i64 t.key)
def setRw (w : World) (b o : Nat) (t : Rw) (ai : Option Addr) (ci : Nat) : World := (hdRw w b o t).setCell ⟨b, o + 1, none⟩ (.slice ai t.n ci)
theorem hdRw_size {w : World} {b o : Nat} {t : Rw} : (hdRw w b o t).heap.size = w.heap.size := by simp [hdRw, World.setCell]
theorem setRw_size {w : World} {b o : Nat} {t : Rw} {ai : Option Addr} {ci : Nat} : (setRw w b o t ai ci).heap.size = w.heap.size := by simp [setRw, hdRw, World.setCell]
theorem hdRw_far {w : World} {b o o' : Nat} {t : Rw} (h : o' < o ∨ o + 0 < o') : (hdRw w b o t).cell? ⟨b, o', none⟩ = w.cell? ⟨b, o', none⟩ := by
  unfold hdRw
  rw [setO (by omega)]
theorem hdRw_frozen {w : World} {b o : Nat} {t : Rw} {p : Addr} : (hdRw w b o t).frozen? p = w.frozen? p := by
  unfold hdRw
  rw [World.frozen?_setCell]
theorem hdRw_same {w : World} {b o : Nat} {t t0 : Rw} {ai : Option Addr} {ci : Nat} (h : CRw w b o t0 ai ci) (hn : t.n = t0.n) : CRw (hdRw w b o t) b o t ai ci := by
  obtain ⟨h0, h1⟩ := h
  refine ⟨?_, ?_⟩
  · unfold hdRw; exact setS h0
  · rw [hn, hdRw_far (by omega)]; exact h1
theorem setRw_same {w : World} {b o : Nat} {t t0 : Rw} {ai ai0 : Option Addr} {ci ci0 : Nat} (h : CRw w b o t0 ai0 ci0) : CRw (setRw w b o t ai ci) b o t ai ci := by
  have g : CRw (hdRw w b o {t with n := t0.n}) b o {t with n := t0.n} ai0 ci0 := hdRw_same h rfl
  obtain ⟨h0, h1⟩ := g
  refine ⟨?_, ?_⟩
  · unfold setRw; rw [setO (by omega)]; exact h0
  · unfold setRw; exact setS h1
theorem setRw_far {w : World} {b o o' : Nat} {t : Rw} {ai : Option Addr} {ci : Nat} (h : o' < o ∨ o + 1 < o') : (setRw w b o t ai ci).cell? ⟨b, o', none⟩ = w.cell? ⟨b, o', none⟩ := by
  unfold setRw
  rw [setO (by omega), hdRw_far (by omega)]
theorem setRw_frozen {w : World} {b o : Nat} {t : Rw} {ai : Option Addr} {ci : Nat} {p : Addr} : (setRw w b o t ai ci).frozen? p = w.frozen? p := by
  unfold setRw
  rw [World.frozen?_setCell, hdRw_frozen]
theorem hdRw_below {m : Nat} {w wr : World} {b o : Nat} {t : Rw} (h : Below m w wr) (h1 : m ≤ b) : Below m w (hdRw wr b o t) := by
  unfold hdRw
  exact h.setCell (p := ⟨b, _, none⟩) h1 _
theorem setRw_below {m : Nat} {w wr : World} {b o : Nat} {t : Rw} {ai : Option Addr} {ci : Nat} (h : Below m w wr) (h1 : m ≤ b) : Below m w (setRw wr b o t ai ci) :=
  (hdRw_below h h1).setCell (p := ⟨b, _, none⟩) h1 _
theorem hdRw_writes {lo hi : Nat} {w wr : World} {b o : Nat} {t : Rw} (h : Writes lo hi w wr) (h1 : lo ≤ b) (h2 : b < hi) : Writes lo hi w (hdRw wr b o t) := by
  unfold hdRw
  exact h.setCell (p := ⟨b, _, none⟩) h1 h2 _
theorem setRw_writes {lo hi : Nat} {w wr : World} {b o : Nat} {t : Rw} {ai : Option Addr} {ci : Nat} (h : Writes lo hi w wr) (h1 : lo ≤ b) (h2 : b < hi) : Writes lo hi w (setRw wr b o t ai ci) :=
  (hdRw_writes h h1 h2).setCell (p := ⟨b, _, none⟩) h1 h2 _
/-- Of n in blocks of their own the j-th is stored, with a slice of its own from hi on. -/
theorem OwnRw.store {w : World} {lo hi hi' l' h' b off n j : Nat} {T : Nat → Rw} {t : Rw} {ai : Option Addr} {ci : Nat} (h : OwnRw w lo hi (some ⟨b, off, none⟩) n T) (hj : j < n) (e1 : hi ≤ l') (e2 : h' ≤ hi') (e3 : hi ≤ hi') (e4 : hi' ≤ w.heap.size) (hn : t.n ≤ ci) (hu : Own4 w l' h' ai t.n t.U) :
    OwnRw (setRw w b (off + j * 2) t ai ci) lo hi' (some ⟨b, off, none⟩) n (upf T j t) := by
  obtain ⟨h0, h1 | ⟨b1, off1, ha, hlo, hl, hf, l, h, hd, hc⟩⟩ := h
  · omega
  simp only [Option.some.injEq, Addr.mk.injEq, and_true] at ha
  obtain ⟨rfl, rfl⟩ := ha
  refine ⟨by rw [setRw_size]; exact e4, .inr ⟨b, off, rfl, hlo, by omega, fun i => by rw [setRw_frozen]; exact hf i, fun i => if i = j then l' else l i, fun i => if i = j then h' else h i, fun i q hi hq hne => ?_, fun i hi => ?_⟩⟩
  · by_cases c1 : i = j <;> by_cases c2 : q = j <;> simp only [c1, c2, if_true, if_false]
    · omega
    · have := (hc q hq).2.1; omega
    · have := (hc i hi).2.1; omega
    · exact hd i q hi hq hne
  · obtain ⟨k0, k1, ai', ci', k2, k3, k4⟩ := hc i hi
    by_cases e : i = j
    · subst e
      simp only [if_true, upf_eq]
      exact ⟨by omega, by omega, ai, ci, setRw_same k2, hn, hu.writes (lo' := b) (hi' := b + 1) (setRw_writes (Writes.refl _ _ _) (Nat.le_refl _) (Nat.lt_succ_self _)) (by omega)⟩
    · simp only [if_neg e]
      rw [upf_ne _ _ e]
      refine ⟨k0, by omega, ai', ci', ?_, k3, k4.writes (lo' := b) (hi' := b + 1) (setRw_writes (Writes.refl _ _ _) (Nat.le_refl _) (Nat.lt_succ_self _)) (by omega)⟩
      have g : ∀ q, q < 2 → (setRw w b (off + j * 2) t ai ci).cell? ⟨b, off + i * 2 + q, none⟩ = w.cell? ⟨b, off + i * 2 + q, none⟩ := fun q hq => setRw_far (by omega)
      obtain ⟨h0, h1⟩ := k2
      exact ⟨(g 0 (by omega)).trans h0, (g 1 (by omega)).trans h1⟩
/-- One of them, and what a change of its numbers and its slice's elements leaves. -/
theorem OwnRw.pick {w : World} {lo hi : Nat} {a : Option Addr} {n : Nat} {T : Nat → Rw} (h : OwnRw w lo hi a n T) {j : Nat} (hj : j < n) :
    ∃ b off ai ci l h, a = some ⟨b, off, none⟩ ∧ lo ≤ b ∧ b < hi ∧ (∀ i, w.frozen? ⟨b, i, none⟩ = false) ∧ CRw w b (off + j * 2) (T j) ai ci ∧ (T j).n ≤ ci ∧ (b < l ∨ h ≤ b) ∧ (h = 0 ∨ lo ≤ l ∧ h ≤ hi) ∧ Own4 w l h ai (T j).n (T j).U ∧
      ∀ t w1, t.n = (T j).n → Writes l h (hdRw w b (off + j * 2) t) w1 → Own4 w1 l h ai t.n t.U → OwnRw w1 lo hi a n (upf T j t) := by
  obtain ⟨h0, h1 | ⟨b, off, ha, hlo, hl, hf, l, h, hd, hc⟩⟩ := h
  · omega
  obtain ⟨k0, k1, ai, ci, k2, k3, k4⟩ := hc j hj
  refine ⟨b, off, ai, ci, l j, h j, ha, hlo, hl, hf, k2, k3, k0, k1, k4, fun t w1 hn hw hr => ?_⟩
  have hsz : w.heap.size ≤ w1.heap.size := by have := hw.size; rw [hdRw_size] at this; exact this
  have eb : w1.heap[b]? = (hdRw w b (off + j * 2) t).heap[b]? := hw.block b (by rw [hdRw_size]; omega) (by omega)
  have cb : ∀ q, w1.cell? ⟨b, q, none⟩ = (hdRw w b (off + j * 2) t).cell? ⟨b, q, none⟩ := fun q => World.cell?_of_block (w := hdRw w b (off + j * 2) t) (a := ⟨b, q, none⟩) eb
  refine ⟨Nat.le_trans h0 hsz, .inr ⟨b, off, ha, hlo, hl, fun i => ?_, l, h, hd, fun i hi => ?_⟩⟩
  · rw [World.frozen?_of_block (w := hdRw w b (off + j * 2) t) (a := ⟨b, i, none⟩) eb, hdRw_frozen]; exact hf i
  · obtain ⟨m0, m1, ai', ci', m2, m3, m4⟩ := hc i hi
    by_cases e : i = j
    · subst e
      rw [upf_eq]
      have es : ai' = ai ∧ ci' = ci := by
        have x1 := k2.2
        have x2 := m2.2
        rw [x1] at x2
        simp only [Option.some.injEq, Value.slice.injEq] at x2
        exact ⟨x2.1.symm, x2.2.2.symm⟩
      exact ⟨m0, m1, ai, ci, (hdRw_same k2 hn).block eb, by rw [hn]; exact k3, hr⟩
    · rw [upf_ne _ _ e]
      refine ⟨m0, m1, ai', ci', ?_, m3, ?_⟩
      · have g : ∀ q, q < 2 → w1.cell? ⟨b, off + i * 2 + q, none⟩ = w.cell? ⟨b, off + i * 2 + q, none⟩ := fun q hq => (cb _).trans (hdRw_far (by omega))
        obtain ⟨h0, h1⟩ := m2
        exact ⟨(g 0 (by omega)).trans h0, (g 1 (by omega)).trans h1⟩
      · have hdd := hd i j hi hj e
        have m5 := m4.writes (w' := hdRw w b (off + j * 2) t) (lo' := b) (hi' := b + 1) (hdRw_writes (Writes.refl _ _ _) (Nat.le_refl _) (Nat.lt_succ_self _)) (by omega)
        exact m5.writes hw (by omega)
/-! ### copies -/
theorem infoRw : (Tryz.prog.info? 173).map (fun i => (i.zero, i.size, i.bytes)) = some (some (.agg #[.int .i64 0, .slice none 0 0]), 2, 32) := by kernel_rfl
theorem run_make_Rw (n : Nat) (hn : n ≤ 1048576) (w : World) :
    (Instr.makeSlice 28 (.int .i64 (n : Int)) (.int .i64 (n : Int))).run Tryz.prog w = .ok (.slice (some ⟨w.heap.size, 0, none⟩) n n) (w.alloc (.cells (madeCells #[.int .i64 0, .slice none 0 0] (n * 2)) 173)) := by
  obtain ⟨i, hi, hzz⟩ := Option.map_eq_some_iff.1 infoRw
  simp only [Prod.mk.injEq] at hzz
  obtain ⟨hz, hs, hb⟩ := hzz
  have hr := run_make (P := Tryz.prog) w 28 173 i _ Tryz.underlying28 hi hz .i64 .i64 n n (by omega) (Int.le_refl _) (by rw [hb]; omega) (by omega)
  simp only [Int.toNat_natCast, hs] at hr
  exact hr
theorem made_Rw (w : World) (n : Nat) : OwnRw (w.alloc (.cells (madeCells #[.int .i64 0, .slice none 0 0] (n * 2)) 173)) w.heap.size (w.heap.size + 1) (some ⟨w.heap.size, 0, none⟩) n (fun _ => zRw) := by
  refine ⟨by simp, .inr ⟨_, _, rfl, Nat.le_refl _, Nat.lt_succ_self _, fun i => by simp [go_sem], fun _ => 0, fun _ => 0, fun i j _ _ _ => .inl (Nat.le_refl _), fun i hi => ⟨.inr (Nat.zero_le _), .inl rfl, none, 0, ?_, Nat.le_refl _, Nat.zero_le _, .inl rfl⟩⟩⟩
  have c : ∀ j, j < 2 → (w.alloc (.cells (madeCells #[.int .i64 0, .slice none 0 0] (n * 2)) 173)).cell? ⟨w.heap.size, 0 + i * 2 + j, none⟩ = (#[Value.int .i64 0, .slice none 0 0])[j]? := fun j hj => by
    have l : i * 2 + j < n * 2 := by omega
    have : j = 0 ∨ j = 1 := by omega
    rcases this with rfl | rfl <;> simp [go_sem, madeCells] <;> exact ⟨_, by rw [Array.getElem?_range, if_pos (by omega)], by simp [Nat.add_mod]⟩
  exact ⟨c 0 (by omega), c 1 (by omega)⟩
theorem szVersionS_x (n : Nat) (a : Option Addr) (cap : Nat) (x : Int) (w : World) (hn : n ≤ 9223372036854775807) (h0 : 0 ≤ x) (h1 : x ≤ 1048576) :
    Calls Tryz.prog 176 #[.slice a n cap, .int .i64 x] w fun e w' => e = .returned (.int .i64 (if x - n < 0 then -1 else x - n)) ∧ w' = w := by
  by_cases h : x - (n : Int) < 0
  · go_enter Tryz.func176, Tryz.ntmps176
    go_wp2
    go_ret
    exact ⟨rfl, rfl⟩
  · go_enter Tryz.func176, Tryz.ntmps176
    go_wp2
    go_ret
    exact ⟨rfl, rfl⟩
theorem szRow_any (key : Int) (n : Nat) (a : Option Addr) (cap : Nat) (x : Int) (w : World) (hn : n ≤ 9223372036854775807) (h0 : 0 ≤ x) (h1 : x ≤ 1048576) :
    Calls Tryz.prog 109 #[.agg #[.int .i64 key, .slice a n cap], .int .i64 x] w fun e w' => e = .returned (.int .i64 (if x - n < 0 then -1 else x - n)) ∧ Below w.heap.size w w' := by
  by_cases h : x - (n : Int) < 0
  · go_enter Tryz.func109, Tryz.ntmps109
    go_wp2_with fail
    refine (szVersionS_x n a cap x _ hn h0 h1).mono ?_
    rintro e w' ⟨rfl, rfl⟩
    rw [if_pos (by omega)]
    go_wp2
    go_ret
    exact ⟨rfl, below_new _ _⟩
  · go_enter Tryz.func109, Tryz.ntmps109
    go_wp2_with fail
    refine (szVersionS_x n a cap x _ hn h0 h1).mono ?_
    rintro e w' ⟨rfl, rfl⟩
    rw [if_neg (by omega)]
    go_wp2
    go_ret
    exact ⟨rfl, below_new _ _⟩
/-- How many elements the first k have. -/
def smRw (T : Nat → Rw) (k : Nat) : Nat := smf (fun i => (T i).n) k
set_option maxHeartbeats 1000000 in
theorem szRowS_any (n : Nat) (T : Nat → Rw) (a : Option Addr) (cap : Nat) (x : Int) (w : World) (hn : n ≤ 9223372036854775807) (hL : ∀ i, i < n → (T i).n ≤ 9223372036854775807) (h0 : 0 ≤ x) (h1 : x ≤ 1048576) (h : RwsAt w a n T) :
    Calls Tryz.prog 58 #[.slice a n cap, .int .i64 x] w fun e w' => Below w.heap.size w w' ∧ ∃ r : Int, e = .returned (.int .i64 r) ∧ (r = -1 ∨ (0 ≤ r ∧ r = x - n - smRw T n)) := by
  by_cases hx : x - (n : Int) < 0
  · clear hL h
    go_enter Tryz.func58, Tryz.ntmps58
    go_wp2
    go_ret
    exact ⟨Below.refl _ _, _, rfl, .inl rfl⟩
  · go_enter Tryz.func58, Tryz.ntmps58
    have HL : Hid (∀ i, i < n → (T i).n ≤ 9223372036854775807) := hL
    have HA : Hid (RwsAt w a n T) := h
    clear hL h
    go_wp2
    go_loopw [1, 5] (fun q i wr => ∃ k : Nat, k ≤ n ∧ i = .int .i64 k ∧ q = .int .i64 (x - n - smRw T k) ∧ 0 ≤ x - n - smRw T k ∧ Below w.heap.size w wr) (fun _ i _ => n - (intOf i).toNat)
    case atStart => exact ⟨0, Nat.zero_le _, rfl, by simp [smRw, smf], by simp [smRw, smf]; omega, Below.refl _ _⟩
    case round =>
      obtain ⟨k, hk, rfl, rfl, hnn, hb⟩ := hrel
      by_cases hlt : k < n
      · rcases HA.out.below hb with h | ⟨b, off, rfl, hl, hc⟩
        · omega
        obtain ⟨ai, ci, hC, -⟩ := hc k hlt
        obtain ⟨q0, q1⟩ := hC
        have hLk := HL.out k hlt
        have hs : (smRw T (k + 1) : Int) = smRw T k + (T k).n := by simp [smRw, smf]
        generalize hS : (smRw T k : Int) = S at *
        have HB : Hid (Below w.heap.size w wr) := hb
        clear hc hb
        by_cases hneg : x - n - S - ((T k).n : Int) < 0
        · go_wp2_with fail
          refine (szRow_any (T k).key (T k).n ai ci (x - n - S) wr hLk hnn (by omega)).mono ?_
          rintro e w' ⟨rfl, hb'⟩
          rw [if_pos (by omega)]
          go_wp2
          go_ret
          exact ⟨below_then HB.out hb', _, rfl, .inl rfl⟩
        · go_wp2_with fail
          refine (szRow_any (T k).key (T k).n ai ci (x - n - S) wr hLk hnn (by omega)).mono ?_
          rintro e w' ⟨rfl, hb'⟩
          rw [if_neg (by omega)]
          go_wp2
          go_roundw
          case rel => exact ⟨k + 1, hlt, by go_num, by rw [hs]; go_num, by rw [hs]; omega, below_then HB.out hb'⟩
          case measure => simp [intOf]; omega
      · have hkn : k = n := by omega
        go_wp2
        go_ret
        exact ⟨hb, _, rfl, .inr ⟨by first | exact hnn | (rw [hkn] at hnn; exact hnn), by first | rfl | rw [hkn]⟩⟩
set_option maxHeartbeats 1000000 in
theorem toRow_any (key : Int) (n : Nat) (R : Nat → Vr) (a : Option Addr) (cap : Nat) (w : World) (hn : n ≤ 1048576) (h : VersAt w a n R) :
    Calls Tryz.prog 117 #[.agg #[.int .i64 key, .slice a n cap]] w fun e w' =>
      ∃ B, e = .returned (.agg #[.int .i64 key, .slice (some ⟨B, 0, none⟩) n n]) ∧ Below w.heap.size w w' ∧ Own4 w' w.heap.size w'.heap.size (some ⟨B, 0, none⟩) n R := by
  go_enter Tryz.func117, Tryz.ntmps117
  go_wp2_with fail
  have hb0 : ∀ o1 o2 o3, Below w.heap.size w (((w.alloc o1).alloc o2).alloc o3) := fun o1 o2 o3 => (((Below.refl _ _).alloc (Nat.le_refl _) _).alloc (by simp) _).alloc (by simp; omega) _
  refine (toVersionS_any n R a cap _ (by omega) (h.below (hb0 _ _ _))).mono ?_
  rintro e w1 ⟨B, rfl, hb1, hr1⟩
  obtain ⟨hc, hf⟩ := bcell2 hb1
  have hz : w.heap.size + 2 < w1.heap.size := by have := hb1.size; simp at this; omega
  have HBF : Hid (Below w.heap.size w w1) := below_then (hb0 _ _ _) hb1
  go_wp2_with fail
  refine bodyPost_ret (v := .agg #[.int .i64 key, .slice (some ⟨B, 0, none⟩) n n]) (by simp [results, Tryz.results117, go_sem, hc]) rfl ⟨_, rfl, ?_, ?_⟩
  · repeat (first | with_reducible exact HBF.out | with_reducible refine Below.setCell ?_ (by first | omega | (simp <;> omega)) _)
  · have e3 : ∀ o1 o2 o3 : Obj, (((w.alloc o1).alloc o2).alloc o3).heap.size = w.heap.size + 3 := fun _ _ _ => by simp
    rw [e3] at hr1
    have hw : ∀ w3, Writes w.heap.size (w.heap.size + 3) w1 w3 → w3.heap.size = w1.heap.size → Own4 w3 w.heap.size w3.heap.size (some ⟨B, 0, none⟩) n R := fun w3 h e =>
      (hr1.writes h (.inr (Nat.le_refl _))).wide (by omega) (by omega) (Nat.le_refl _)
    refine hw _ ?_ (by simp [World.setCell])
    repeat (first | with_reducible exact Writes.refl _ _ _ | with_reducible refine Writes.setCell ?_ (by first | omega | (simp <;> omega)) (by first | omega | (simp <;> omega)) _)
theorem pref_zRw (T : Nat → Rw) (k : Nat) : pref T (fun _ => zRw) k k = zRw := pref_at _ _ _
set_option maxHeartbeats 2000000 in
theorem toRowS_any (n : Nat) (T : Nat → Rw) (a : Option Addr) (cap : Nat) (w : World) (hn : n ≤ 1048576) (hL : ∀ i, i < n → (T i).n ≤ 1048576) (h : RwsAt w a n T) :
    Calls Tryz.prog 65 #[.slice a n cap] w fun e w' =>
      e = .returned (.slice (some ⟨w.heap.size, 0, none⟩) n n) ∧ Below w.heap.size w w' ∧ OwnRw w' w.heap.size w'.heap.size (some ⟨w.heap.size, 0, none⟩) n T := by
  have hmk := run_make_Rw n (by omega)
  have HL : Hid (∀ i, i < n → (T i).n ≤ 1048576) := hL
  have HA : Hid (RwsAt w a n T) := h
  clear hL h
  go_enter Tryz.func65, Tryz.ntmps65
  go_wp2
  clear hmk
  go_loopw [4] (fun i wr => ∃ k : Nat, k ≤ n ∧ i = .int .i64 k ∧ Hid (Below w.heap.size w wr) ∧ Hid (OwnRw wr w.heap.size wr.heap.size (some ⟨w.heap.size, 0, none⟩) n (pref T (fun _ => zRw) k))) (fun i _ => n - (intOf i).toNat)
  case atStart => exact ⟨0, Nat.zero_le _, rfl, (Below.refl _ _).alloc (Nat.le_refl _) _, by rw [pref_zero]; exact (made_Rw w n).wide (Nat.le_refl _) (by simp) (Nat.le_refl _)⟩
  case round =>
    obtain ⟨k, hk, rfl, HB, HO⟩ := hrel
    by_cases hlt : k < n
    · rcases HA.out.below HB.out with h | ⟨b, off, rfl, hl, hc⟩
      · omega
      obtain ⟨ai, ci, hC, hby, -⟩ := hc k hlt
      obtain ⟨q0, q1⟩ := hC
      have HY : Hid (VersAt wr ai (T k).n (T k).U) := hby
      obtain ⟨h0, h1 | ⟨b1, off1, ha, hlo, hl1, hf, l, h, hd, hc1⟩⟩ := HO.out
      · omega
      simp only [Option.some.injEq, Addr.mk.injEq, and_true] at ha
      obtain ⟨rfl, rfl⟩ := ha
      obtain ⟨_, _, ai', ci', hC1, -⟩ := hc1 k hlt
      rw [pref_zRw, Nat.zero_add] at hC1
      have hsz : w.heap.size < wr.heap.size := by omega
      have hlt' : (k : Int) < (n : Int) := by omega
      have hk0 : (0 : Int) ≤ (k : Int) := by omega
      clear hc hby hc1 hd
      go_wp2_with fail
      refine (toRow_any (T k).key (T k).n (T k).U ai ci wr (HL.out k hlt) HY.out).mono ?_
      rintro e w1 ⟨B, rfl, hb1, hr1⟩
      have HB1 : Hid (Below wr.heap.size wr w1) := hb1
      have HR1 : Hid (Own4 w1 wr.heap.size w1.heap.size (some ⟨B, 0, none⟩) (T k).n (T k).U) := hr1
      have hC2 := hC1.block (hb1.block _ hsz)
      obtain ⟨y0, y1⟩ := hC2
      replace hf : ∀ i, w1.frozen? ⟨w.heap.size, i, none⟩ = false := fun i => (hb1.frozen (p := ⟨_, _, none⟩) hsz).trans (hf i)
      clear hb1 hr1 hC1 q0 q1
      go_wp2_with fail
      go_roundw
      case rel =>
        have HS := (HO.out.below HB1.out).store (t := T k) hlt (Nat.le_refl _) (Nat.le_refl _) HB1.out.size (Nat.le_refl _) (Nat.le_refl _) HR1.out
        rw [pref_upf, Nat.zero_add] at HS
        refine ⟨k + 1, hlt, by go_num, setRw_below (t := T k) (o := k * 2) (ai := some ⟨B, 0, none⟩) (ci := (T k).n) (below_then HB.out HB1.out) (Nat.le_refl _), ?_⟩
        have es : (setRw w1 w.heap.size (k * 2) (T k) (some ⟨B, 0, none⟩) (T k).n).heap.size = w1.heap.size := setRw_size
        rw [← es] at HS
        exact HS
      case measure => simp [intOf]; omega
    · have hkn : k = n := by omega
      have HT : Hid (OwnRw wr w.heap.size wr.heap.size (some ⟨w.heap.size, 0, none⟩) n T) := by
        refine HO.out.congr fun i hi => pref_lt _ _ (by omega)
      have hnl : ¬ ((k : Int) < (n : Int)) := by omega
      go_wp2_with fail
      go_ret
      exact ⟨rfl, HB.out, HT.out⟩
theorem openVers_cap {H : Type} {enc : TypeId × Value → H} {W : World} {fuel : Nat} {cs : List Value} {x : DataW H × List MemPlace}
    (h : DataW.trod enc Tryz.prog W 0 (fun _ => true) true fuel 168 cs = some x) :
    ∃ (a : Option Addr) (n cap : Nat) (R : Nat → Vr), cs = [.slice a n cap] ∧ n ≤ 9223372036854775807 ∧ VersAt W a n R ∧ n ≤ cap := by
  rcases open_slice Tryz.underlying168 h with ⟨rfl, _⟩ | ⟨a, l, c, m, nn, D, Pl, rfl, _, hl, hm, hmm, _, hx⟩
  · exact ⟨none, 0, 0, fun _ => zV, rfl, by omega, .inl rfl, Nat.le_refl _⟩
  · have hmc : m = c := by simpa using hmm
    unfold maxLen at hm
    rw [cellsVer] at hx
    have each : ∀ i, i < l → ∃ q : (Int × Int) × (Bool × Int), W.cell? (a.add (i * 4)) = some (.int .i64 q.1.1) ∧ W.cell? (a.add (i * 4 + 1)) = some (.int .i64 q.1.2) ∧ W.cell? (a.add (i * 4 + 2)) = some (.bool q.2.1) ∧ W.cell? (a.add (i * 4 + 3)) = some (.int .i64 q.2.2) := fun i hi => by
      obtain ⟨cs', h1, h2⟩ := hx i (by omega)
      obtain ⟨_, hlen, hcell⟩ := World.cells?_some h1
      obtain ⟨xs, k, hk, hxy, _, hxl, hf⟩ := DataW.trod_struct Tryz.underlying265 h2
      match xs, hxl, cs', hlen with
      | [y0, y1, y2, y3], _, [v0, v1, v2, v3], _ =>
        have g0 := hf 0 _ rfl
        have g1 := hf 1 _ rfl
        have g2 := hf 2 _ rfl
        have g3 := hf 3 _ rfl
        simp [cellsI, cellsB] at g0 g1 g2 g3
        have e0 := hcell 0 (by omega)
        have e1 := hcell 1 (by omega)
        have e2 := hcell 2 (by omega)
        have e3 := hcell 3 (by omega)
        rw [add_add] at e0 e1 e2 e3
        obtain ⟨z0, f0, _, _⟩ := DataW.trod_int Tryz.underlying2 g0
        obtain ⟨z1, f1, _, _⟩ := DataW.trod_int Tryz.underlying2 g1
        obtain ⟨z2, f2, _⟩ := DataW.trod_bool Tryz.underlying4 g2
        obtain ⟨z3, f3, _, _⟩ := DataW.trod_int Tryz.underlying2 g3
        simp at f0 f1 f2 f3
        subst f0 f1 f2 f3
        exact ⟨((z0, z1), (z2, z3)), by simpa using e0, by simpa using e1, by simpa using e2, by simpa using e3⟩
    obtain ⟨q, hq⟩ := choose_lt each
    refine ⟨some a, l, c, fun i => ⟨(q i).1.1, (q i).1.2, (q i).2.1, (q i).2.2⟩, rfl, by omega, ?_, hl⟩
    by_cases hz0 : l = 0
    · exact .inl hz0
    · obtain ⟨b, off, spot⟩ := a
      have hc0 := (hq 0 (by omega)).1
      have hspot : spot = none := by simpa [Addr.add] using World.cell?_spot hc0
      subst hspot
      refine .inr ⟨b, off, rfl, Go.block_lt_of_cell hc0, fun i hi => ?_⟩
      obtain ⟨k0, k1, k2, k3⟩ := hq i hi
      rw [add_plain] at k0 k1 k2 k3
      exact ⟨k0, by rw [Nat.add_assoc]; exact k1, by rw [Nat.add_assoc]; exact k2, by rw [Nat.add_assoc]; exact k3⟩
/-! ### equal -/
theorem eqRow_same (key : Int) (n : Nat) (R : Nat → Vr) (a a' : Option Addr) (cap cap' : Nat) (w : World) (hn : n ≤ 1048576) (h : VersAt w a n R) (h' : VersAt w a' n R) :
    Calls Tryz.prog 124 #[.agg #[.int .i64 key, .slice a n cap], .agg #[.int .i64 key, .slice a' n cap']] w fun e w' => e = .returned (.bool true) ∧ Below w.heap.size w w' := by
  have HA : Hid (VersAt w a n R) := h
  have HA' : Hid (VersAt w a' n R) := h'
  clear h h'
  go_enter Tryz.func124, Tryz.ntmps124
  go_wp2_with fail
  have hb0 : ∀ o1 o2, Below w.heap.size w ((w.alloc o1).alloc o2) := fun o1 o2 => (((Below.refl _ _).alloc (Nat.le_refl _) _).alloc (by simp) _)
  refine (eqVersionS_any n R a a' cap cap' _ hn (HA.out.below (hb0 _ _)) (HA'.out.below (hb0 _ _))).mono ?_
  rintro e w' ⟨rfl, hb⟩
  have HB : Hid (Below w.heap.size w w') := below_then (hb0 _ _) hb
  clear hb hb0
  go_wp2_with fail
  go_ret
  exact ⟨rfl, HB.out⟩
set_option maxHeartbeats 2000000 in
theorem eqRowS_any (n : Nat) (T : Nat → Rw) (a a' : Option Addr) (cap cap' : Nat) (w : World) (hn : n ≤ 1048576) (hL : ∀ i, i < n → (T i).n ≤ 1048576) (h : RwsAt w a n T) (h' : RwsAt w a' n T) :
    Calls Tryz.prog 68 #[.slice a n cap, .slice a' n cap'] w fun e w' => e = .returned (.bool true) ∧ Below w.heap.size w w' := by
  have HL : Hid (∀ i, i < n → (T i).n ≤ 1048576) := hL
  have HA : Hid (RwsAt w a n T) := h
  have HA' : Hid (RwsAt w a' n T) := h'
  have hne : ((n : Int) != (n : Int)) = false := by simp
  clear hL h h'
  go_enter Tryz.func68, Tryz.ntmps68
  go_wp2_with fail
  go_loopw [5] (fun i wr => ∃ k : Nat, k ≤ n ∧ i = .int .i64 k ∧ Hid (Below w.heap.size w wr)) (fun i _ => n - (intOf i).toNat)
  case atStart => exact ⟨0, Nat.zero_le _, rfl, Below.refl _ _⟩
  case round =>
    obtain ⟨k, hk, rfl, HB⟩ := hrel
    by_cases hlt : k < n
    · have hlt' : (k : Int) < (n : Int) := by omega
      have hk0 : (0 : Int) ≤ (k : Int) := by omega
      rcases HA.out.below HB.out with h | ⟨b, off, rfl, hl, hc⟩
      · omega
      rcases HA'.out.below HB.out with h | ⟨b', off', rfl, hl', hc'⟩
      · omega
      obtain ⟨ai, ci, ⟨q0, q1⟩, hy, -⟩ := hc k hlt
      obtain ⟨ai', ci', ⟨y0, y1⟩, hy', -⟩ := hc' k hlt
      have HY : Hid (VersAt wr ai (T k).n (T k).U) := hy
      have HY' : Hid (VersAt wr ai' (T k).n (T k).U) := hy'
      have HN : Hid ((T k).n ≤ 1048576) := HL.out k hlt
      clear hc hc' hy hy'
      generalize T k = t at *
      go_wp2_with fail
      go_region_law (first | (go_simp; go_at_call 124; refine (eqRow_same t.key t.n t.U ai ai' ci ci' _ HN.out (HY.out.below ((Below.refl _ _).drew)) (HY'.out.below ((Below.refl _ _).drew))).mono ?_; rintro e w1 ⟨rfl, hb1⟩; have HB1 : Hid (Below w.heap.size w w1) := below_then HB.out (drewB6 hb1)))
      all_goals
        go_wp2_with fail
        go_roundw
        case rel => exact ⟨k + 1, hlt, by go_num, HB1⟩
        case measure => simp [intOf]; omega
    · have hnl : ¬ ((k : Int) < (n : Int)) := by omega
      go_wp2_with fail
      go_ret
      exact ⟨rfl, HB.out⟩
/-! ### marked, held -/
def sRw (T : Nat → Rw) (i : Nat) : Nat := smf (fun i => (T i).n * 4 + 1) i
theorem sRw_eq (T : Nat → Rw) (i : Nat) : sRw T i = smRw T i * 4 + i * 1 := smf_add _ _ _ _
def mRw (m : Int) (T : Nat → Rw) (i : Nat) : Rw := ⟨m + sRw T i, (T i).n, mV (m + sRw T i + 1)⟩
set_option maxHeartbeats 2000000 in
theorem markRowS_any (n : Nat) (T : Nat → Rw) (a : Option Addr) (cap lo hi : Nat) (m : Int) (w : World) (hn : n ≤ 1048576) (hs : smRw T n ≤ 1048576) (hm1 : 0 ≤ m) (hm2 : m ≤ 16777216) (h : OwnRw w lo hi a n T) :
    Calls Tryz.prog 70 #[.slice a n cap, .int .i64 m] w fun e w' => e = .returned (.int .i64 (m + sRw T n)) ∧ Writes lo hi w w' ∧ OwnRw w' lo hi a n (mRw m T) := by
  have HO : Hid (OwnRw w lo hi a n T) := h
  clear h
  go_enter Tryz.func70, Tryz.ntmps70
  go_wp2
  go_loopw [1, 5] (fun q i wr => ∃ k : Nat, k ≤ n ∧ i = .int .i64 k ∧ q = .int .i64 (m + sRw T k) ∧ Hid (Writes lo hi w wr) ∧ Hid (OwnRw wr lo hi a n (pref (mRw m T) T k))) (fun _ i _ => n - (intOf i).toNat)
  case atStart => exact ⟨0, Nat.zero_le _, rfl, by simp [sRw, smf], Writes.refl _ _ _, by rw [pref_zero]; exact HO⟩
  case round =>
    obtain ⟨k, hk0, rfl, rfl, HB, HP⟩ := hrel
    by_cases hlt : k < n
    · obtain ⟨b, off, ai, ci, l, h, rfl, hb1, hb2, hf, hC, hci, hbd, hr, hO, hU⟩ := HP.out.pick hlt
      rw [pref_at] at hC hci hO hU
      have hLk := smf_ge (fun i => (T i).n) n k hlt
      have hsk := smf_le (fun i => (T i).n) (n := n) (i := k) (by omega)
      have hstep : (sRw T (k + 1) : Int) = sRw T k + (T k).n * 4 + 1 := by simp [sRw, smf]; omega
      have hbS : sRw T k = smRw T k * 4 + k * 1 := sRw_eq T k
      have HM : Hid (mRw m T k = ⟨m + sRw T k, (T k).n, mV (m + sRw T k + 1)⟩) := rfl
      have hSb : (sRw T k : Int) ≤ 5242880 := by unfold smRw at *; omega
      have hS0 : 0 ≤ (sRw T k : Int) := by omega
      have hTk : (T k).n ≤ 1048576 := by unfold smRw at *; omega
      generalize hS : (sRw T k : Int) = S at *
      have HU : Hid (∀ t w1, t.n = (T k).n → Writes l h (hdRw wr b (off + k * 2) t) w1 → Own4 w1 l h ai t.n t.U → OwnRw w1 lo hi (some ⟨b, off, none⟩) n (upf (pref (mRw m T) T k) k t)) := hU
      have HO2 : Hid (Own4 (hdRw wr b (off + k * 2) ⟨m + S, (T k).n, mV (m + S + 1)⟩) l h ai (T k).n (T k).U) := hO.writes (hdRw_writes (Writes.refl _ _ _) (Nat.le_refl _) (Nat.lt_succ_self _)) (by omega)
      have HG : Hid (lo ≤ b ∧ b < hi ∧ (b < l ∨ h ≤ b) ∧ (h = 0 ∨ lo ≤ l ∧ h ≤ hi)) := ⟨hb1, hb2, hbd, hr⟩
      obtain ⟨q0, q1⟩ := hC
      have g1 : IntKind.i64.wrap (m + S + 1) = m + S + 1 := by rw [IntKind.wrap_i64]; omega
      clear HP hO hU hb1 hb2 hbd hr hbS hS hLk hsk
      go_wp2_with fail
      refine (markVersionS_any (T k).n (T k).U ai ci l h (m + S + 1) _ (by omega) (by omega) (by omega) HO2.out).mono ?_
      rintro e w1 ⟨rfl, hw, hr⟩
      have HW : Hid (Writes l h (hdRw wr b (off + k * 2) ⟨m + S, (T k).n, mV (m + S + 1)⟩) w1) := hw
      have HR1 : Hid (Own4 w1 l h ai (T k).n (mV (m + S + 1))) := hr
      clear hw hr
      go_wp2_with fail
      go_roundw
      case rel =>
        have H := HU.out ⟨m + S, (T k).n, mV (m + S + 1)⟩ w1 rfl HW.out HR1.out
        rw [← HM.out, pref_upf] at H
        obtain ⟨g1, g2, g3, g4⟩ := HG.out
        refine ⟨k + 1, hlt, by go_num, by rw [hstep]; go_num, HB.out.trans ((hdRw_writes (w := wr) (wr := wr) (b := b) (o := off + k * 2) (t := ⟨m + S, (T k).n, mV (m + S + 1)⟩) (Writes.refl _ _ _) g1 g2).trans ?_), H⟩
        exact ⟨HW.out.os, HW.out.tape, HW.out.output, HW.out.size, fun q hq hd => HW.out.block q hq (by omega)⟩
      case measure => simp [intOf]; omega
    · have hkn : k = n := by omega
      have HO2 : Hid (OwnRw wr lo hi a n (mRw m T)) := HP.out.congr fun i hi => pref_lt _ _ (by omega)
      have hnl : ¬ ((k : Int) < (n : Int)) := by omega
      go_wp2_with fail
      go_ret
      exact ⟨ret_int (by first | rfl | rw [hkn]), HB.out, HO2.out⟩
set_option maxHeartbeats 2000000 in
theorem heldRowS_any (n : Nat) (T : Nat → Rw) (a : Option Addr) (cap : Nat) (m : Int) (w : World) (hn : n ≤ 1048576) (hs : smRw T n ≤ 1048576) (hm1 : 0 ≤ m) (hm2 : m ≤ 16777216) (h : RwsAt w a n (mRw m T)) :
    Calls Tryz.prog 128 #[.slice a n cap, .int .i64 m] w fun e w' => e = .returned (.int .i64 (m + sRw T n)) ∧ w' = w := by
  have HA : Hid (RwsAt w a n (mRw m T)) := h
  clear h
  go_enter Tryz.func128, Tryz.ntmps128
  go_wp2
  go_loop [1, 5] (fun q i => ∃ k : Nat, k ≤ n ∧ i = .int .i64 k ∧ q = .int .i64 (m + sRw T k)) (fun _ i => n - (intOf i).toNat)
  case atStart => exact ⟨0, Nat.zero_le _, rfl, by simp [sRw, smf]⟩
  case round =>
    obtain ⟨k, hk0, rfl, rfl⟩ := hrel
    by_cases hlt : k < n
    · rcases HA.out with h | ⟨b, off, rfl, hl, hc⟩
      · omega
      obtain ⟨ai, ci, ⟨q0, q1⟩, hy, -⟩ := hc k hlt
      unfold mRw at q0 q1
      dsimp only at q0 q1
      have HY : Hid (VersAt w ai (T k).n (mV (m + sRw T k + 1))) := hy
      have hLk := smf_ge (fun i => (T i).n) n k hlt
      have hsk := smf_le (fun i => (T i).n) (n := n) (i := k) (by omega)
      have hstep : (sRw T (k + 1) : Int) = sRw T k + (T k).n * 4 + 1 := by simp [sRw, smf]; omega
      have hbS : sRw T k = smRw T k * 4 + k * 1 := sRw_eq T k
      have hSb : (sRw T k : Int) ≤ 5242880 := by unfold smRw at *; omega
      have hS0 : 0 ≤ (sRw T k : Int) := by omega
      have hTk : (T k).n ≤ 1048576 := by unfold smRw at *; omega
      generalize hS : (sRw T k : Int) = S at *
      have hneg : ¬ (m + S + 1 + ((T k).n : Int) * 4 < 0) := by omega
      have g1 : IntKind.i64.wrap (m + S + 1) = m + S + 1 := by rw [IntKind.wrap_i64]; omega
      clear hc hy hbS hS hLk hsk
      go_wp2_with fail
      refine (heldVersionS_any (T k).n ai ci (m + S + 1) _ (by omega) (by omega) (by omega) HY.out).mono ?_
      rintro e w' ⟨rfl, rfl⟩
      go_wp2_with fail
      go_round
      case rel => exact ⟨k + 1, hlt, by go_num, by rw [hstep]; go_num⟩
      case measure => simp [intOf]; omega
    · have hkn : k = n := by omega
      have hnl : ¬ ((k : Int) < (n : Int)) := by omega
      go_wp2_with fail
      go_ret
      exact ⟨ret_int (by first | rfl | rw [hkn]), rfl⟩
/-! ### opened -/
theorem cellsRw : Tryz.prog.cellsOf 170 = 2 := by kernel_rfl
theorem cellsInRw : Tryz.prog.cellsOf 168 = 1 := by kernel_rfl
theorem openRws {H : Type} {enc : TypeId × Value → H} {W : World} {fuel : Nat} {cs : List Value} {x : DataW H × List MemPlace}
    (h : DataW.trod enc Tryz.prog W 0 (fun _ => true) true fuel 23 cs = some x) :
    ∃ (a : Option Addr) (n cap : Nat) (T : Nat → Rw), cs = [.slice a n cap] ∧ n ≤ 9223372036854775807 ∧ (∀ i, i < n → (T i).n ≤ 9223372036854775807) ∧ RwsAt W a n T := by
  rcases open_slice Tryz.underlying23 h with ⟨rfl, _⟩ | ⟨a, l, c, m, nn, D, Pl, rfl, _, hl, hm, hmm, _, hx⟩
  · exact ⟨none, 0, 0, fun _ => zRw, rfl, by omega, fun i hi => by omega, .inl rfl⟩
  · have hmc : m = c := by simpa using hmm
    unfold maxLen at hm
    rw [cellsRw] at hx
    have each : ∀ i, i < l → ∃ q : (Int) × (Option Addr × Nat) × (Nat × (Nat → Vr)), W.cell? (a.add (i * 2)) = some (.int .i64 q.1) ∧ W.cell? (a.add (i * 2 + 1)) = some (.slice q.2.1.1 q.2.2.1 q.2.1.2) ∧ q.2.2.1 ≤ 9223372036854775807 ∧ VersAt W q.2.1.1 q.2.2.1 q.2.2.2 ∧ q.2.2.1 ≤ q.2.1.2 := fun i hi => by
      obtain ⟨cs', h1, h2⟩ := hx i (by omega)
      obtain ⟨_, hlen, hcell⟩ := World.cells?_some h1
      obtain ⟨xs, k, hk, hxy, _, hxl, hf⟩ := DataW.trod_struct Tryz.underlying170 h2
      match xs, hxl, cs', hlen with
      | [y0, y1], _, [v0, v1], _ =>
        have g0 := hf 0 _ rfl
        have g1 := hf 1 _ rfl
        simp [cellsI, cellsInRw] at g0 g1
        have e0 := hcell 0 (by omega)
        have e1 := hcell 1 (by omega)
        rw [add_add] at e0 e1
        obtain ⟨z0, f0, _, _⟩ := DataW.trod_int Tryz.underlying2 g0
        obtain ⟨a', n', c', z', f1, k1, k2, k4⟩ := openVers_cap g1
        simp at f0 f1
        subst f0 f1
        exact ⟨(z0, (a', c'), (n', z')), by simpa using e0, by simpa using e1, k1, k2, k4⟩
    have nonE : Inhabited Vr := ⟨zV⟩
    obtain ⟨q, hq⟩ := choose_lt each
    refine ⟨some a, l, c, fun i => ⟨(q i).1, (q i).2.2.1, (q i).2.2.2⟩, rfl, by omega, fun i hi => (hq i hi).2.2.1, ?_⟩
    by_cases hz0 : l = 0
    · exact .inl hz0
    · obtain ⟨b, off, spot⟩ := a
      have hc0 := (hq 0 (by omega)).1
      have hspot : spot = none := by simpa [Addr.add] using World.cell?_spot hc0
      subst hspot
      refine .inr ⟨b, off, rfl, Go.block_lt_of_cell hc0, fun i hi => ?_⟩
      obtain ⟨k0, k1, _, kb, kc⟩ := hq i hi
      rw [add_plain] at k0 k1
      exact ⟨(q i).2.1.1, (q i).2.1.2, ⟨k0, by rw [Nat.add_assoc]; exact k1⟩, kb, kc⟩
theorem openUnds_cap {H : Type} {enc : TypeId × Value → H} {W : World} {fuel : Nat} {cs : List Value} {x : DataW H × List MemPlace}
    (h : DataW.trod enc Tryz.prog W 0 (fun _ => true) true fuel 164 cs = some x) :
    ∃ (a : Option Addr) (n cap : Nat) (R : Nat → Ud), cs = [.slice a n cap] ∧ n ≤ 9223372036854775807 ∧ UndsAt W a n R ∧ n ≤ cap := by
  rcases open_slice Tryz.underlying164 h with ⟨rfl, _⟩ | ⟨a, l, c, m, nn, D, Pl, rfl, _, hl, hm, hmm, _, hx⟩
  · exact ⟨none, 0, 0, fun _ => zU, rfl, by omega, .inl rfl, Nat.le_refl _⟩
  · have hmc : m = c := by simpa using hmm
    unfold maxLen at hm
    rw [cellsUnd] at hx
    have each : ∀ i, i < l → ∃ q : (Int × Bool) × (Bool × Int), W.cell? (a.add (i * 4)) = some (.int .i64 q.1.1) ∧ W.cell? (a.add (i * 4 + 1)) = some (.bool q.1.2) ∧ W.cell? (a.add (i * 4 + 2)) = some (.bool q.2.1) ∧ W.cell? (a.add (i * 4 + 3)) = some (.int .i64 q.2.2) := fun i hi => by
      obtain ⟨cs', h1, h2⟩ := hx i (by omega)
      obtain ⟨_, hlen, hcell⟩ := World.cells?_some h1
      obtain ⟨xs, k, hk, hxy, _, hxl, hf⟩ := DataW.trod_struct Tryz.underlying263 h2
      match xs, hxl, cs', hlen with
      | [y0, y1, y2, y3], _, [v0, v1, v2, v3], _ =>
        have g0 := hf 0 _ rfl
        have g1 := hf 1 _ rfl
        have g2 := hf 2 _ rfl
        have g3 := hf 3 _ rfl
        simp [cellsI, cellsB] at g0 g1 g2 g3
        have e0 := hcell 0 (by omega)
        have e1 := hcell 1 (by omega)
        have e2 := hcell 2 (by omega)
        have e3 := hcell 3 (by omega)
        rw [add_add] at e0 e1 e2 e3
        obtain ⟨z0, f0, _, _⟩ := DataW.trod_int Tryz.underlying2 g0
        obtain ⟨z1, f1, _⟩ := DataW.trod_bool Tryz.underlying4 g1
        obtain ⟨z2, f2, _⟩ := DataW.trod_bool Tryz.underlying4 g2
        obtain ⟨z3, f3, _, _⟩ := DataW.trod_int Tryz.underlying2 g3
        simp at f0 f1 f2 f3
        subst f0 f1 f2 f3
        exact ⟨((z0, z1), (z2, z3)), by simpa using e0, by simpa using e1, by simpa using e2, by simpa using e3⟩
    obtain ⟨q, hq⟩ := choose_lt each
    refine ⟨some a, l, c, fun i => ⟨(q i).1.1, (q i).1.2, (q i).2.1, (q i).2.2⟩, rfl, by omega, ?_, hl⟩
    by_cases hz0 : l = 0
    · exact .inl hz0
    · obtain ⟨b, off, spot⟩ := a
      have hc0 := (hq 0 (by omega)).1
      have hspot : spot = none := by simpa [Addr.add] using World.cell?_spot hc0
      subst hspot
      refine .inr ⟨b, off, rfl, Go.block_lt_of_cell hc0, fun i hi => ?_⟩
      obtain ⟨k0, k1, k2, k3⟩ := hq i hi
      rw [add_plain] at k0 k1 k2 k3
      exact ⟨k0, by rw [Nat.add_assoc]; exact k1, by rw [Nat.add_assoc]; exact k2, by rw [Nat.add_assoc]; exact k3⟩
/-! ### equal -/
theorem eqTxn_same (id am st dn : Int) (n : Nat) (R : Nat → Ud) (a a' : Option Addr) (cap cap' : Nat) (w : World) (hn : n ≤ 1048576) (h : UndsAt w a n R) (h' : UndsAt w a' n R) :
    Calls Tryz.prog 123 #[.agg #[.int .i64 id, .int .i64 am, .int .i64 st, .int .i64 dn, .slice a n cap], .agg #[.int .i64 id, .int .i64 am, .int .i64 st, .int .i64 dn, .slice a' n cap']] w fun e w' => e = .returned (.bool true) ∧ Below w.heap.size w w' := by
  have HA : Hid (UndsAt w a n R) := h
  have HA' : Hid (UndsAt w a' n R) := h'
  clear h h'
  go_enter Tryz.func123, Tryz.ntmps123
  go_wp2_with fail
  have hb0 : ∀ o1 o2, Below w.heap.size w ((w.alloc o1).alloc o2) := fun o1 o2 => (((Below.refl _ _).alloc (Nat.le_refl _) _).alloc (by simp) _)
  refine (eqUndoS_any n R a a' cap cap' _ hn (HA.out.below (hb0 _ _)) (HA'.out.below (hb0 _ _))).mono ?_
  rintro e w' ⟨rfl, hb⟩
  have HB : Hid (Below w.heap.size w w') := below_then (hb0 _ _) hb
  clear hb hb0
  go_wp2_with fail
  go_ret
  exact ⟨rfl, HB.out⟩
set_option maxHeartbeats 2000000 in
theorem eqTxnS_any (n : Nat) (T : Nat → Tx) (a a' : Option Addr) (cap cap' : Nat) (w : World) (hn : n ≤ 1048576) (hL : ∀ i, i < n → (T i).n ≤ 1048576) (h : TxsAt w a n T) (h' : TxsAt w a' n T) :
    Calls Tryz.prog 67 #[.slice a n cap, .slice a' n cap'] w fun e w' => e = .returned (.bool true) ∧ Below w.heap.size w w' := by
  have HL : Hid (∀ i, i < n → (T i).n ≤ 1048576) := hL
  have HA : Hid (TxsAt w a n T) := h
  have HA' : Hid (TxsAt w a' n T) := h'
  have hne : ((n : Int) != (n : Int)) = false := by simp
  clear hL h h'
  go_enter Tryz.func67, Tryz.ntmps67
  go_wp2_with fail
  go_loopw [5] (fun i wr => ∃ k : Nat, k ≤ n ∧ i = .int .i64 k ∧ Hid (Below w.heap.size w wr)) (fun i _ => n - (intOf i).toNat)
  case atStart => exact ⟨0, Nat.zero_le _, rfl, Below.refl _ _⟩
  case round =>
    obtain ⟨k, hk, rfl, HB⟩ := hrel
    by_cases hlt : k < n
    · have hlt' : (k : Int) < (n : Int) := by omega
      have hk0 : (0 : Int) ≤ (k : Int) := by omega
      rcases HA.out.below HB.out with h | ⟨b, off, rfl, hl, hc⟩
      · omega
      rcases HA'.out.below HB.out with h | ⟨b', off', rfl, hl', hc'⟩
      · omega
      obtain ⟨ai, ci, ⟨q0, q1, q2, q3, q4⟩, hy, -⟩ := hc k hlt
      obtain ⟨ai', ci', ⟨y0, y1, y2, y3, y4⟩, hy', -⟩ := hc' k hlt
      have HY : Hid (UndsAt wr ai (T k).n (T k).U) := hy
      have HY' : Hid (UndsAt wr ai' (T k).n (T k).U) := hy'
      have HN : Hid ((T k).n ≤ 1048576) := HL.out k hlt
      clear hc hc' hy hy'
      generalize T k = t at *
      go_wp2_with fail
      go_region_law (first | (go_simp; go_at_call 123; refine (eqTxn_same t.id t.am t.st t.dn t.n t.U ai ai' ci ci' _ HN.out (HY.out.below ((Below.refl _ _).drew)) (HY'.out.below ((Below.refl _ _).drew))).mono ?_; rintro e w1 ⟨rfl, hb1⟩; have HB1 : Hid (Below w.heap.size w w1) := below_then HB.out (drewB6 hb1)))
      all_goals
        go_wp2_with fail
        go_roundw
        case rel => exact ⟨k + 1, hlt, by go_num, HB1⟩
        case measure => simp [intOf]; omega
    · have hnl : ¬ ((k : Int) < (n : Int)) := by omega
      go_wp2_with fail
      go_ret
      exact ⟨rfl, HB.out⟩
/-! ### marked, held -/
def sTx (T : Nat → Tx) (i : Nat) : Nat := smf (fun i => (T i).n * 4 + 4) i
theorem sTx_eq (T : Nat → Tx) (i : Nat) : sTx T i = smTx T i * 4 + i * 4 := smf_add _ _ _ _
def mTx (m : Int) (T : Nat → Tx) (i : Nat) : Tx := ⟨m + sTx T i, m + sTx T i + 1, m + sTx T i + 2, m + sTx T i + 3, (T i).n, mU (m + sTx T i + 4)⟩
set_option maxHeartbeats 2000000 in
theorem markTxnS_any (n : Nat) (T : Nat → Tx) (a : Option Addr) (cap lo hi : Nat) (m : Int) (w : World) (hn : n ≤ 1048576) (hs : smTx T n ≤ 1048576) (hm1 : 0 ≤ m) (hm2 : m ≤ 16777216) (h : OwnTx w lo hi a n T) :
    Calls Tryz.prog 69 #[.slice a n cap, .int .i64 m] w fun e w' => e = .returned (.int .i64 (m + sTx T n)) ∧ Writes lo hi w w' ∧ OwnTx w' lo hi a n (mTx m T) := by
  have HO : Hid (OwnTx w lo hi a n T) := h
  clear h
  go_enter Tryz.func69, Tryz.ntmps69
  go_wp2
  go_loopw [1, 5] (fun q i wr => ∃ k : Nat, k ≤ n ∧ i = .int .i64 k ∧ q = .int .i64 (m + sTx T k) ∧ Hid (Writes lo hi w wr) ∧ Hid (OwnTx wr lo hi a n (pref (mTx m T) T k))) (fun _ i _ => n - (intOf i).toNat)
  case atStart => exact ⟨0, Nat.zero_le _, rfl, by simp [sTx, smf], Writes.refl _ _ _, by rw [pref_zero]; exact HO⟩
  case round =>
    obtain ⟨k, hk0, rfl, rfl, HB, HP⟩ := hrel
    by_cases hlt : k < n
    · obtain ⟨b, off, ai, ci, l, h, rfl, hb1, hb2, hf, hC, hci, hbd, hr, hO, hU⟩ := HP.out.pick hlt
      rw [pref_at] at hC hci hO hU
      have hLk := smf_ge (fun i => (T i).n) n k hlt
      have hsk := smf_le (fun i => (T i).n) (n := n) (i := k) (by omega)
      have hstep : (sTx T (k + 1) : Int) = sTx T k + (T k).n * 4 + 4 := by simp [sTx, smf]; omega
      have hbS : sTx T k = smTx T k * 4 + k * 4 := sTx_eq T k
      have HM : Hid (mTx m T k = ⟨m + sTx T k, m + sTx T k + 1, m + sTx T k + 2, m + sTx T k + 3, (T k).n, mU (m + sTx T k + 4)⟩) := rfl
      have hSb : (sTx T k : Int) ≤ 8388608 := by unfold smTx at *; omega
      have hS0 : 0 ≤ (sTx T k : Int) := by omega
      have hTk : (T k).n ≤ 1048576 := by unfold smTx at *; omega
      generalize hS : (sTx T k : Int) = S at *
      have HU : Hid (∀ t w1, t.n = (T k).n → Writes l h (hdTx wr b (off + k * 5) t) w1 → OwnU w1 l h ai t.n t.U → OwnTx w1 lo hi (some ⟨b, off, none⟩) n (upf (pref (mTx m T) T k) k t)) := hU
      have HO2 : Hid (OwnU (hdTx wr b (off + k * 5) ⟨m + S, m + S + 1, m + S + 2, m + S + 3, (T k).n, mU (m + S + 4)⟩) l h ai (T k).n (T k).U) := hO.writes (hdTx_writes (Writes.refl _ _ _) (Nat.le_refl _) (Nat.lt_succ_self _)) (by omega)
      have HG : Hid (lo ≤ b ∧ b < hi ∧ (b < l ∨ h ≤ b) ∧ (h = 0 ∨ lo ≤ l ∧ h ≤ hi)) := ⟨hb1, hb2, hbd, hr⟩
      obtain ⟨q0, q1, q2, q3, q4⟩ := hC
      have g1 : IntKind.i64.wrap (m + S + 1) = m + S + 1 := by rw [IntKind.wrap_i64]; omega
      have g2 : IntKind.i64.wrap (m + S + 1 + 1) = m + S + 2 := by rw [IntKind.wrap_i64]; omega
      have g3 : IntKind.i64.wrap (m + S + 2 + 1) = m + S + 3 := by rw [IntKind.wrap_i64]; omega
      have g4 : IntKind.i64.wrap (m + S + 3 + 1) = m + S + 4 := by rw [IntKind.wrap_i64]; omega
      clear HP hO hU hb1 hb2 hbd hr hbS hS hLk hsk
      go_wp2_with fail
      refine (markUndoS_any (T k).n (T k).U ai ci l h (m + S + 4) _ (by omega) (by omega) (by omega) HO2.out).mono ?_
      rintro e w1 ⟨rfl, hw, hr⟩
      have HW : Hid (Writes l h (hdTx wr b (off + k * 5) ⟨m + S, m + S + 1, m + S + 2, m + S + 3, (T k).n, mU (m + S + 4)⟩) w1) := hw
      have HR1 : Hid (OwnU w1 l h ai (T k).n (mU (m + S + 4))) := hr
      clear hw hr
      go_wp2_with fail
      go_roundw
      case rel =>
        have H := HU.out ⟨m + S, m + S + 1, m + S + 2, m + S + 3, (T k).n, mU (m + S + 4)⟩ w1 rfl HW.out HR1.out
        rw [← HM.out, pref_upf] at H
        obtain ⟨g1, g2, g3, g4⟩ := HG.out
        refine ⟨k + 1, hlt, by go_num, by rw [hstep]; go_num, HB.out.trans ((hdTx_writes (w := wr) (wr := wr) (b := b) (o := off + k * 5) (t := ⟨m + S, m + S + 1, m + S + 2, m + S + 3, (T k).n, mU (m + S + 4)⟩) (Writes.refl _ _ _) g1 g2).trans ?_), H⟩
        exact ⟨HW.out.os, HW.out.tape, HW.out.output, HW.out.size, fun q hq hd => HW.out.block q hq (by omega)⟩
      case measure => simp [intOf]; omega
    · have hkn : k = n := by omega
      have HO2 : Hid (OwnTx wr lo hi a n (mTx m T)) := HP.out.congr fun i hi => pref_lt _ _ (by omega)
      have hnl : ¬ ((k : Int) < (n : Int)) := by omega
      go_wp2_with fail
      go_ret
      exact ⟨ret_int (by first | rfl | rw [hkn]), HB.out, HO2.out⟩
set_option maxHeartbeats 2000000 in
theorem heldTxnS_any (n : Nat) (T : Nat → Tx) (a : Option Addr) (cap : Nat) (m : Int) (w : World) (hn : n ≤ 1048576) (hs : smTx T n ≤ 1048576) (hm1 : 0 ≤ m) (hm2 : m ≤ 16777216) (h : TxsAt w a n (mTx m T)) :
    Calls Tryz.prog 127 #[.slice a n cap, .int .i64 m] w fun e w' => e = .returned (.int .i64 (m + sTx T n)) ∧ w' = w := by
  have HA : Hid (TxsAt w a n (mTx m T)) := h
  clear h
  go_enter Tryz.func127, Tryz.ntmps127
  go_wp2
  go_loop [1, 5] (fun q i => ∃ k : Nat, k ≤ n ∧ i = .int .i64 k ∧ q = .int .i64 (m + sTx T k)) (fun _ i => n - (intOf i).toNat)
  case atStart => exact ⟨0, Nat.zero_le _, rfl, by simp [sTx, smf]⟩
  case round =>
    obtain ⟨k, hk0, rfl, rfl⟩ := hrel
    by_cases hlt : k < n
    · rcases HA.out with h | ⟨b, off, rfl, hl, hc⟩
      · omega
      obtain ⟨ai, ci, ⟨q0, q1, q2, q3, q4⟩, hy, -⟩ := hc k hlt
      unfold mTx at q0 q1 q2 q3 q4
      dsimp only at q0 q1 q2 q3 q4
      have HY : Hid (UndsAt w ai (T k).n (mU (m + sTx T k + 4))) := hy
      have hLk := smf_ge (fun i => (T i).n) n k hlt
      have hsk := smf_le (fun i => (T i).n) (n := n) (i := k) (by omega)
      have hstep : (sTx T (k + 1) : Int) = sTx T k + (T k).n * 4 + 4 := by simp [sTx, smf]; omega
      have hbS : sTx T k = smTx T k * 4 + k * 4 := sTx_eq T k
      have hSb : (sTx T k : Int) ≤ 8388608 := by unfold smTx at *; omega
      have hS0 : 0 ≤ (sTx T k : Int) := by omega
      have hTk : (T k).n ≤ 1048576 := by unfold smTx at *; omega
      generalize hS : (sTx T k : Int) = S at *
      have hneg : ¬ (m + S + 4 + ((T k).n : Int) * 4 < 0) := by omega
      have g1 : IntKind.i64.wrap (m + S + 1) = m + S + 1 := by rw [IntKind.wrap_i64]; omega
      have g2 : IntKind.i64.wrap (m + S + 1 + 1) = m + S + 2 := by rw [IntKind.wrap_i64]; omega
      have g3 : IntKind.i64.wrap (m + S + 2 + 1) = m + S + 3 := by rw [IntKind.wrap_i64]; omega
      have g4 : IntKind.i64.wrap (m + S + 3 + 1) = m + S + 4 := by rw [IntKind.wrap_i64]; omega
      clear hc hy hbS hS hLk hsk
      go_wp2_with fail
      refine (heldUndoS_any (T k).n ai ci (m + S + 4) _ (by omega) (by omega) (by omega) HY.out).mono ?_
      rintro e w' ⟨rfl, rfl⟩
      go_wp2_with fail
      go_round
      case rel => exact ⟨k + 1, hlt, by go_num, by rw [hstep]; go_num⟩
      case measure => simp [intOf]; omega
    · have hkn : k = n := by omega
      have hnl : ¬ ((k : Int) < (n : Int)) := by omega
      go_wp2_with fail
      go_ret
      exact ⟨ret_int (by first | rfl | rw [hkn]), rfl⟩
/-! ### opened -/
theorem cellsTx : Tryz.prog.cellsOf 166 = 5 := by kernel_rfl
theorem cellsInTx : Tryz.prog.cellsOf 164 = 1 := by kernel_rfl
theorem openTxs {H : Type} {enc : TypeId × Value → H} {W : World} {fuel : Nat} {cs : List Value} {x : DataW H × List MemPlace}
    (h : DataW.trod enc Tryz.prog W 0 (fun _ => true) true fuel 22 cs = some x) :
    ∃ (a : Option Addr) (n cap : Nat) (T : Nat → Tx), cs = [.slice a n cap] ∧ n ≤ 9223372036854775807 ∧ (∀ i, i < n → (T i).n ≤ 9223372036854775807) ∧ TxsAt W a n T := by
  rcases open_slice Tryz.underlying22 h with ⟨rfl, _⟩ | ⟨a, l, c, m, nn, D, Pl, rfl, _, hl, hm, hmm, _, hx⟩
  · exact ⟨none, 0, 0, fun _ => zTx, rfl, by omega, fun i hi => by omega, .inl rfl⟩
  · have hmc : m = c := by simpa using hmm
    unfold maxLen at hm
    rw [cellsTx] at hx
    have each : ∀ i, i < l → ∃ q : (Int × Int × Int × Int) × (Option Addr × Nat) × (Nat × (Nat → Ud)), W.cell? (a.add (i * 5)) = some (.int .i64 q.1.1) ∧ W.cell? (a.add (i * 5 + 1)) = some (.int .i64 q.1.2.1) ∧ W.cell? (a.add (i * 5 + 2)) = some (.int .i64 q.1.2.2.1) ∧ W.cell? (a.add (i * 5 + 3)) = some (.int .i64 q.1.2.2.2) ∧ W.cell? (a.add (i * 5 + 4)) = some (.slice q.2.1.1 q.2.2.1 q.2.1.2) ∧ q.2.2.1 ≤ 9223372036854775807 ∧ UndsAt W q.2.1.1 q.2.2.1 q.2.2.2 ∧ q.2.2.1 ≤ q.2.1.2 := fun i hi => by
      obtain ⟨cs', h1, h2⟩ := hx i (by omega)
      obtain ⟨_, hlen, hcell⟩ := World.cells?_some h1
      obtain ⟨xs, k, hk, hxy, _, hxl, hf⟩ := DataW.trod_struct Tryz.underlying166 h2
      match xs, hxl, cs', hlen with
      | [y0, y1, y2, y3, y4], _, [v0, v1, v2, v3, v4], _ =>
        have g0 := hf 0 _ rfl
        have g1 := hf 1 _ rfl
        have g2 := hf 2 _ rfl
        have g3 := hf 3 _ rfl
        have g4 := hf 4 _ rfl
        simp [cellsI, cellsInTx] at g0 g1 g2 g3 g4
        have e0 := hcell 0 (by omega)
        have e1 := hcell 1 (by omega)
        have e2 := hcell 2 (by omega)
        have e3 := hcell 3 (by omega)
        have e4 := hcell 4 (by omega)
        rw [add_add] at e0 e1 e2 e3 e4
        obtain ⟨z0, f0, _, _⟩ := DataW.trod_int Tryz.underlying2 g0
        obtain ⟨z1, f1, _, _⟩ := DataW.trod_int Tryz.underlying2 g1
        obtain ⟨z2, f2, _, _⟩ := DataW.trod_int Tryz.underlying2 g2
        obtain ⟨z3, f3, _, _⟩ := DataW.trod_int Tryz.underlying2 g3
        obtain ⟨a', n', c', z', f4, k1, k2, k4⟩ := openUnds_cap g4
        simp at f0 f1 f2 f3 f4
        subst f0 f1 f2 f3 f4
        exact ⟨((z0, z1, z2, z3), (a', c'), (n', z')), by simpa using e0, by simpa using e1, by simpa using e2, by simpa using e3, by simpa using e4, k1, k2, k4⟩
    have nonE : Inhabited Ud := ⟨zU⟩
    obtain ⟨q, hq⟩ := choose_lt each
    refine ⟨some a, l, c, fun i => ⟨(q i).1.1, (q i).1.2.1, (q i).1.2.2.1, (q i).1.2.2.2, (q i).2.2.1, (q i).2.2.2⟩, rfl, by omega, fun i hi => (hq i hi).2.2.2.2.2.1, ?_⟩
    by_cases hz0 : l = 0
    · exact .inl hz0
    · obtain ⟨b, off, spot⟩ := a
      have hc0 := (hq 0 (by omega)).1
      have hspot : spot = none := by simpa [Addr.add] using World.cell?_spot hc0
      subst hspot
      refine .inr ⟨b, off, rfl, Go.block_lt_of_cell hc0, fun i hi => ?_⟩
      obtain ⟨k0, k1, k2, k3, k4, _, kb, kc⟩ := hq i hi
      rw [add_plain] at k0 k1 k2 k3 k4
      exact ⟨(q i).2.1.1, (q i).2.1.2, ⟨k0, by rw [Nat.add_assoc]; exact k1, by rw [Nat.add_assoc]; exact k2, by rw [Nat.add_assoc]; exact k3, by rw [Nat.add_assoc]; exact k4⟩, kb, kc⟩
end Go.Proofs.YtjdodbiphijjgaaGreat
