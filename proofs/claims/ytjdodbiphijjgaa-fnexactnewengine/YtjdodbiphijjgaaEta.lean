/- Transactions in memory: what they hold, stores, sizes, copies. -/
import Derived.Test.YtjdodbiphijjgaaUb
namespace Go.Proofs.Ytjdodbiphijjgaa
open Go.ChangeShapes Go.WideShapes Go.ChangeAt Go.RowKit Go.Deep Go.Joins
set_option linter.unusedVariables false
set_option maxRecDepth 20000

/-- The sum of the first k. -/
def smf (f : Nat → Nat) : Nat → Nat
  | 0 => 0
  | k + 1 => smf f k + f k
theorem smf_ge (f : Nat → Nat) : ∀ n i, i < n → f i ≤ smf f n
  | 0, i, h => by omega
  | n + 1, i, h => by
    by_cases e : i = n
    · subst e; simp [smf]
    · have := smf_ge f n i (by omega); simp only [smf]; omega
theorem smf_le (f : Nat → Nat) {n : Nat} : ∀ {i}, i ≤ n → smf f i ≤ smf f n := by
  induction n with
  | zero => intro i h; have : i = 0 := by omega
            subst this; exact Nat.le_refl _
  | succ n ih =>
    intro i h
    by_cases e : i = n + 1
    · subst e; exact Nat.le_refl _
    · have := ih (i := i) (by omega); simp only [smf]; omega
theorem smf_add (f : Nat → Nat) (c d : Nat) : ∀ k, smf (fun i => f i * c + d) k = smf f k * c + k * d
  | 0 => by simp [smf]
  | k + 1 => by simp only [smf, smf_add f c d k, Nat.add_mul, Nat.one_mul]; omega
def upf {α : Type} (f : Nat → α) (j : Nat) (x : α) (i : Nat) : α := if i = j then x else f i
theorem upf_eq {α : Type} (f : Nat → α) (j : Nat) (x : α) : upf f j x j = x := by simp [upf]
theorem upf_ne {α : Type} (f : Nat → α) {j i : Nat} (x : α) (h : i ≠ j) : upf f j x i = f i := by simp [upf, h]
def pref {α : Type} (f g : Nat → α) (j i : Nat) : α := if i < j then f i else g i
theorem pref_upf {α : Type} (f g : Nat → α) (j : Nat) : upf (pref f g j) j (f j) = pref f g (j + 1) := by
  funext i
  by_cases e : i = j
  · subst e; simp [upf, pref]
  · by_cases h : i < j
    · have : i < j + 1 := by omega
      simp [upf, pref, e, h, this]
    · have : ¬ i < j + 1 := by omega
      simp [upf, pref, e, h, this]
theorem pref_at {α : Type} (f g : Nat → α) (j : Nat) : pref f g j j = g j := by simp [pref]
theorem pref_lt {α : Type} (f g : Nat → α) {j i : Nat} (h : i < j) : pref f g j i = f i := by simp [pref, h]
theorem pref_zero {α : Type} (f g : Nat → α) : pref f g 0 = g := by funext i; simp [pref]
/-- What is kept of cells by a call. -/
theorem bcell2 {w w' : World} (hb : Below w.heap.size w w') : (∀ b i, b < w.heap.size → w'.cell? ⟨b, i, none⟩ = w.cell? ⟨b, i, none⟩) ∧ (∀ b i, b < w.heap.size → w'.frozen? ⟨b, i, none⟩ = w.frozen? ⟨b, i, none⟩) :=
  ⟨fun b i h => hb.cell (p := ⟨b, i, none⟩) h, fun b i h => hb.frozen (p := ⟨b, i, none⟩) h⟩
structure Tx where
  id : Int
  am : Int
  st : Int
  dn : Int
  n : Nat
  U : Nat → Ud
def zTx : Tx := ⟨0, 0, 0, 0, 0, fun _ => zU⟩
/-- The cells of one of the transactions. -/
def CTx (w : World) (b o : Nat) (t : Tx) (ai : Option Addr) (ci : Nat) : Prop :=
  w.cell? ⟨b, o, none⟩ = some (.int .i64 t.id) ∧ w.cell? ⟨b, o + 1, none⟩ = some (.int .i64 t.am) ∧ w.cell? ⟨b, o + 2, none⟩ = some (.int .i64 t.st) ∧ w.cell? ⟨b, o + 3, none⟩ = some (.int .i64 t.dn) ∧ w.cell? ⟨b, o + 4, none⟩ = some (.slice ai t.n ci)
theorem CTx.block {w w' : World} {b o : Nat} {t : Tx} {ai : Option Addr} {ci : Nat} (h : CTx w b o t ai ci) (e : w'.heap[b]? = w.heap[b]?) : CTx w' b o t ai ci := by
  have g : ∀ i, w'.cell? ⟨b, i, none⟩ = w.cell? ⟨b, i, none⟩ := fun i => World.cell?_of_block (w := w) (a := ⟨b, i, none⟩) e
  obtain ⟨h0, h1, h2, h3, h4⟩ := h
  exact ⟨(g _).trans h0, (g _).trans h1, (g _).trans h2, (g _).trans h3, (g _).trans h4⟩
/-- The slice at 'a' has the n transactions T. -/
def TxsAt (w : World) (a : Option Addr) (n : Nat) (T : Nat → Tx) : Prop :=
  n = 0 ∨ ∃ b off, a = some ⟨b, off, none⟩ ∧ b < w.heap.size ∧ ∀ i, i < n → ∃ ai ci, CTx w b (off + i * 5) (T i) ai ci ∧ UndsAt w ai (T i).n (T i).U ∧ (T i).n ≤ ci
theorem TxsAt.below {w w' : World} {a : Option Addr} {n : Nat} {T : Nat → Tx} (h : TxsAt w a n T) (hb : Below w.heap.size w w') : TxsAt w' a n T := by
  rcases h with h | ⟨b, off, ha, hl, hc⟩
  · exact .inl h
  · refine .inr ⟨b, off, ha, Nat.lt_of_lt_of_le hl hb.size, fun i hi => ?_⟩
    obtain ⟨ai, ci, h1, h2, h3⟩ := hc i hi
    exact ⟨ai, ci, h1.block (hb.block _ hl), h2.below hb, h3⟩
/-- The same in blocks of their own, from lo on, below hi. -/
def OwnTx (w : World) (lo hi : Nat) (a : Option Addr) (n : Nat) (T : Nat → Tx) : Prop :=
  hi ≤ w.heap.size ∧ (n = 0 ∨ ∃ b off, a = some ⟨b, off, none⟩ ∧ lo ≤ b ∧ b < hi ∧ (∀ i, w.frozen? ⟨b, i, none⟩ = false) ∧ ∃ l h : Nat → Nat, (∀ i j, i < n → j < n → i ≠ j → h i ≤ l j ∨ h j ≤ l i) ∧
    ∀ i, i < n → (b < l i ∨ h i ≤ b) ∧ (h i = 0 ∨ lo ≤ l i ∧ h i ≤ hi) ∧ ∃ ai ci, CTx w b (off + i * 5) (T i) ai ci ∧ (T i).n ≤ ci ∧ OwnU w (l i) (h i) ai (T i).n (T i).U)
theorem OwnTx.at {w : World} {lo hi : Nat} {a : Option Addr} {n : Nat} {T : Nat → Tx} (h : OwnTx w lo hi a n T) : TxsAt w a n T := by
  obtain ⟨h0, h1 | ⟨b, off, ha, _, hl, _, l, h, _, hc⟩⟩ := h
  · exact .inl h1
  · refine .inr ⟨b, off, ha, by omega, fun i hi => ?_⟩
    obtain ⟨_, _, ai, ci, k1, k2, k3⟩ := hc i hi
    exact ⟨ai, ci, k1, k3.at, k2⟩
theorem OwnTx.writes {w w' : World} {lo hi lo' hi' : Nat} {a : Option Addr} {n : Nat} {T : Nat → Tx} (h : OwnTx w lo hi a n T) (hw : Writes lo' hi' w w') (hd : hi ≤ lo' ∨ hi' ≤ lo) : OwnTx w' lo hi a n T := by
  obtain ⟨h0, h1 | ⟨b, off, ha, hlo, hl, hf, l, h, hj, hc⟩⟩ := h
  · exact ⟨Nat.le_trans h0 hw.size, .inl h1⟩
  · have e := hw.block b (by omega) (by omega)
    refine ⟨Nat.le_trans h0 hw.size, .inr ⟨b, off, ha, hlo, hl, fun i => (World.frozen?_of_block (w := w) (a := ⟨b, i, none⟩) e).trans (hf i), l, h, hj, fun i hi => ?_⟩⟩
    obtain ⟨k0, k1, ai, ci, k2, k3, k4⟩ := hc i hi
    exact ⟨k0, k1, ai, ci, k2.block e, k3, k4.writes hw (by omega)⟩
theorem OwnTx.below {w w' : World} {lo hi : Nat} {a : Option Addr} {n : Nat} {T : Nat → Tx} (h : OwnTx w lo hi a n T) (hb : Below w.heap.size w w') : OwnTx w' lo hi a n T :=
  h.writes (Writes.of_below (lo := hi) (hi := hi) hb) (.inl (Nat.le_refl _))
theorem OwnTx.wide {w : World} {lo hi lo' hi' : Nat} {a : Option Addr} {n : Nat} {T : Nat → Tx} (h : OwnTx w lo hi a n T) (h1 : lo' ≤ lo) (h2 : hi ≤ hi') (h3 : hi' ≤ w.heap.size) : OwnTx w lo' hi' a n T := by
  obtain ⟨h0, h4 | ⟨b, off, ha, hlo, hl, hf, l, h, hj, hc⟩⟩ := h
  · exact ⟨h3, .inl h4⟩
  · refine ⟨h3, .inr ⟨b, off, ha, by omega, by omega, hf, l, h, hj, fun i hi => ?_⟩⟩
    obtain ⟨k0, k1, r⟩ := hc i hi
    exact ⟨k0, by omega, r⟩
/-- Two of the transactions that hold the same. -/
def Tx.Same (t t' : Tx) : Prop := t.id = t'.id ∧ t.am = t'.am ∧ t.st = t'.st ∧ t.dn = t'.dn ∧ t.n = t'.n ∧ ∀ j, j < t.n → t.U j = t'.U j
theorem OwnTx.same {w : World} {lo hi : Nat} {a : Option Addr} {n : Nat} {T T' : Nat → Tx} (h : OwnTx w lo hi a n T) (e : ∀ i, i < n → (T i).Same (T' i)) : OwnTx w lo hi a n T' := by
  obtain ⟨h0, h1 | ⟨b, off, ha, hlo, hl, hf, l, h, hj, hc⟩⟩ := h
  · exact ⟨h0, .inl h1⟩
  · refine ⟨h0, .inr ⟨b, off, ha, hlo, hl, hf, l, h, hj, fun i hi => ?_⟩⟩
    obtain ⟨k0, k1, ai, ci, k2, k3, k4⟩ := hc i hi
    obtain ⟨e0, e1, e2, e3, en, eu⟩ := e i hi
    unfold CTx at k2
    rw [e0, e1, e2, e3, en] at k2
    rw [en] at k3
    refine ⟨k0, k1, ai, ci, k2, k3, ?_⟩
    have := k4.congr eu
    rw [en] at this
    exact this
theorem OwnTx.congr {w : World} {lo hi : Nat} {a : Option Addr} {n : Nat} {T T' : Nat → Tx} (h : OwnTx w lo hi a n T) (e : ∀ i, i < n → T i = T' i) : OwnTx w lo hi a n T' := by
  obtain ⟨h0, h1 | ⟨b, off, ha, hlo, hl, hf, l, h, hj, hc⟩⟩ := h
  · exact ⟨h0, .inl h1⟩
  · exact ⟨h0, .inr ⟨b, off, ha, hlo, hl, hf, l, h, hj, fun i hi => by rw [← e i hi]; exact hc i hi⟩⟩
/-! ### one is stored -/
def hdTx (w : World) (b o : Nat) (t : Tx) : World := (((w.setCell ⟨b, o, none⟩ (.int .i64 t.id)).setCell ⟨b, o + 1, none⟩ (.int .i64 t.am)).setCell ⟨b, o + 2, none⟩ (.int .i64 t.st)).setCell ⟨b, o + 3, none⟩ (.int .i64 t.dn)
def setTx (w : World) (b o : Nat) (t : Tx) (ai : Option Addr) (ci : Nat) : World := (hdTx w b o t).setCell ⟨b, o + 4, none⟩ (.slice ai t.n ci)
theorem hdTx_size {w : World} {b o : Nat} {t : Tx} : (hdTx w b o t).heap.size = w.heap.size := by simp [hdTx, World.setCell]
theorem setTx_size {w : World} {b o : Nat} {t : Tx} {ai : Option Addr} {ci : Nat} : (setTx w b o t ai ci).heap.size = w.heap.size := by simp [setTx, hdTx, World.setCell]
theorem hdTx_far {w : World} {b o o' : Nat} {t : Tx} (h : o' < o ∨ o + 3 < o') : (hdTx w b o t).cell? ⟨b, o', none⟩ = w.cell? ⟨b, o', none⟩ := by
  unfold hdTx
  rw [setO (by omega), setO (by omega), setO (by omega), setO (by omega)]
theorem hdTx_frozen {w : World} {b o : Nat} {t : Tx} {p : Addr} : (hdTx w b o t).frozen? p = w.frozen? p := by
  unfold hdTx
  rw [World.frozen?_setCell, World.frozen?_setCell, World.frozen?_setCell, World.frozen?_setCell]
theorem hdTx_block {w : World} {b b' o : Nat} {t : Tx} (h : b' ≠ b) : (hdTx w b o t).heap[b']? = w.heap[b']? := by
  unfold hdTx
  rw [blk_setCell_other _ _ _ _ (by show b' ≠ b; exact h), blk_setCell_other _ _ _ _ (by show b' ≠ b; exact h), blk_setCell_other _ _ _ _ (by show b' ≠ b; exact h), blk_setCell_other _ _ _ _ (by show b' ≠ b; exact h)]
theorem hdTx_same {w : World} {b o : Nat} {t t0 : Tx} {ai : Option Addr} {ci : Nat} (h : CTx w b o t0 ai ci) (hn : t.n = t0.n) : CTx (hdTx w b o t) b o t ai ci := by
  obtain ⟨h0, h1, h2, h3, h4⟩ := h
  refine ⟨?_, ?_, ?_, ?_, ?_⟩
  · unfold hdTx; rw [setO (by omega), setO (by omega), setO (by omega)]; exact setS h0
  · unfold hdTx; rw [setO (by omega), setO (by omega)]; exact setS (by rw [setO (by omega)]; exact h1)
  · unfold hdTx; rw [setO (by omega)]; exact setS (by rw [setO (by omega), setO (by omega)]; exact h2)
  · unfold hdTx; exact setS (by rw [setO (by omega), setO (by omega), setO (by omega)]; exact h3)
  · rw [hn, hdTx_far (by omega)]; exact h4
theorem setTx_same {w : World} {b o : Nat} {t t0 : Tx} {ai ai0 : Option Addr} {ci ci0 : Nat} (h : CTx w b o t0 ai0 ci0) : CTx (setTx w b o t ai ci) b o t ai ci := by
  have g : CTx (hdTx w b o {t with n := t0.n}) b o {t with n := t0.n} ai0 ci0 := hdTx_same h rfl
  obtain ⟨h0, h1, h2, h3, h4⟩ := g
  refine ⟨?_, ?_, ?_, ?_, ?_⟩
  · unfold setTx; rw [setO (by omega)]; exact h0
  · unfold setTx; rw [setO (by omega)]; exact h1
  · unfold setTx; rw [setO (by omega)]; exact h2
  · unfold setTx; rw [setO (by omega)]; exact h3
  · unfold setTx; exact setS h4
theorem setTx_far {w : World} {b o o' : Nat} {t : Tx} {ai : Option Addr} {ci : Nat} (h : o' < o ∨ o + 4 < o') : (setTx w b o t ai ci).cell? ⟨b, o', none⟩ = w.cell? ⟨b, o', none⟩ := by
  unfold setTx
  rw [setO (by omega), hdTx_far (by omega)]
theorem setTx_frozen {w : World} {b o : Nat} {t : Tx} {ai : Option Addr} {ci : Nat} {p : Addr} : (setTx w b o t ai ci).frozen? p = w.frozen? p := by
  unfold setTx
  rw [World.frozen?_setCell, hdTx_frozen]
theorem setTx_block {w : World} {b b' o : Nat} {t : Tx} {ai : Option Addr} {ci : Nat} (h : b' ≠ b) : (setTx w b o t ai ci).heap[b']? = w.heap[b']? := by
  unfold setTx
  rw [blk_setCell_other _ _ _ _ (by show b' ≠ b; exact h), hdTx_block h]
theorem hdTx_below {m : Nat} {w wr : World} {b o : Nat} {t : Tx} (h : Below m w wr) (h1 : m ≤ b) : Below m w (hdTx wr b o t) := by
  unfold hdTx
  exact (((h.setCell (p := ⟨b, _, none⟩) h1 _).setCell (p := ⟨b, _, none⟩) h1 _).setCell (p := ⟨b, _, none⟩) h1 _).setCell (p := ⟨b, _, none⟩) h1 _
theorem setTx_below {m : Nat} {w wr : World} {b o : Nat} {t : Tx} {ai : Option Addr} {ci : Nat} (h : Below m w wr) (h1 : m ≤ b) : Below m w (setTx wr b o t ai ci) :=
  (hdTx_below h h1).setCell (p := ⟨b, _, none⟩) h1 _
theorem hdTx_writes {lo hi : Nat} {w wr : World} {b o : Nat} {t : Tx} (h : Writes lo hi w wr) (h1 : lo ≤ b) (h2 : b < hi) : Writes lo hi w (hdTx wr b o t) := by
  unfold hdTx
  exact (((h.setCell (p := ⟨b, _, none⟩) h1 h2 _).setCell (p := ⟨b, _, none⟩) h1 h2 _).setCell (p := ⟨b, _, none⟩) h1 h2 _).setCell (p := ⟨b, _, none⟩) h1 h2 _
theorem setTx_writes {lo hi : Nat} {w wr : World} {b o : Nat} {t : Tx} {ai : Option Addr} {ci : Nat} (h : Writes lo hi w wr) (h1 : lo ≤ b) (h2 : b < hi) : Writes lo hi w (setTx wr b o t ai ci) :=
  (hdTx_writes h h1 h2).setCell (p := ⟨b, _, none⟩) h1 h2 _
/-- Of n in blocks of their own the j-th is stored, with a slice of its own from hi on. -/
theorem OwnTx.store {w : World} {lo hi hi' l' h' b off n j : Nat} {T : Nat → Tx} {t : Tx} {ai : Option Addr} {ci : Nat} (h : OwnTx w lo hi (some ⟨b, off, none⟩) n T) (hj : j < n) (e1 : hi ≤ l') (e2 : h' ≤ hi') (e3 : hi ≤ hi') (e4 : hi' ≤ w.heap.size) (hn : t.n ≤ ci) (hu : OwnU w l' h' ai t.n t.U) :
    OwnTx (setTx w b (off + j * 5) t ai ci) lo hi' (some ⟨b, off, none⟩) n (upf T j t) := by
  obtain ⟨h0, h1 | ⟨b1, off1, ha, hlo, hl, hf, l, h, hd, hc⟩⟩ := h
  · omega
  simp only [Option.some.injEq, Addr.mk.injEq, and_true] at ha
  obtain ⟨rfl, rfl⟩ := ha
  refine ⟨by rw [setTx_size]; exact e4, .inr ⟨b, off, rfl, hlo, by omega, fun i => by rw [setTx_frozen]; exact hf i, fun i => if i = j then l' else l i, fun i => if i = j then h' else h i, fun i q hi hq hne => ?_, fun i hi => ?_⟩⟩
  · by_cases c1 : i = j <;> by_cases c2 : q = j <;> simp only [c1, c2, if_true, if_false]
    · omega
    · have := (hc q hq).2.1; omega
    · have := (hc i hi).2.1; omega
    · exact hd i q hi hq hne
  · obtain ⟨k0, k1, ai', ci', k2, k3, k4⟩ := hc i hi
    by_cases e : i = j
    · subst e
      simp only [if_true, upf_eq]
      exact ⟨by omega, by omega, ai, ci, setTx_same k2, hn, hu.writes (lo' := b) (hi' := b + 1) (setTx_writes (Writes.refl _ _ _) (Nat.le_refl _) (Nat.lt_succ_self _)) (by omega)⟩
    · simp only [if_neg e]
      rw [upf_ne _ _ e]
      refine ⟨k0, by omega, ai', ci', ?_, k3, k4.writes (lo' := b) (hi' := b + 1) (setTx_writes (Writes.refl _ _ _) (Nat.le_refl _) (Nat.lt_succ_self _)) (by omega)⟩
      have g : ∀ q, q < 5 → (setTx w b (off + j * 5) t ai ci).cell? ⟨b, off + i * 5 + q, none⟩ = w.cell? ⟨b, off + i * 5 + q, none⟩ := fun q hq => setTx_far (by omega)
      obtain ⟨h0, h1, h2, h3, h4⟩ := k2
      exact ⟨(g 0 (by omega)).trans h0, (g 1 (by omega)).trans h1, (g 2 (by omega)).trans h2, (g 3 (by omega)).trans h3, (g 4 (by omega)).trans h4⟩
/-- One of them, and what a change of its numbers and its slice's elements leaves. -/
theorem OwnTx.pick {w : World} {lo hi : Nat} {a : Option Addr} {n : Nat} {T : Nat → Tx} (h : OwnTx w lo hi a n T) {j : Nat} (hj : j < n) :
    ∃ b off ai ci l h, a = some ⟨b, off, none⟩ ∧ lo ≤ b ∧ b < hi ∧ (∀ i, w.frozen? ⟨b, i, none⟩ = false) ∧ CTx w b (off + j * 5) (T j) ai ci ∧ (T j).n ≤ ci ∧ (b < l ∨ h ≤ b) ∧ (h = 0 ∨ lo ≤ l ∧ h ≤ hi) ∧ OwnU w l h ai (T j).n (T j).U ∧
      ∀ t w1, t.n = (T j).n → Writes l h (hdTx w b (off + j * 5) t) w1 → OwnU w1 l h ai t.n t.U → OwnTx w1 lo hi a n (upf T j t) := by
  obtain ⟨h0, h1 | ⟨b, off, ha, hlo, hl, hf, l, h, hd, hc⟩⟩ := h
  · omega
  obtain ⟨k0, k1, ai, ci, k2, k3, k4⟩ := hc j hj
  refine ⟨b, off, ai, ci, l j, h j, ha, hlo, hl, hf, k2, k3, k0, k1, k4, fun t w1 hn hw hr => ?_⟩
  have hsz : w.heap.size ≤ w1.heap.size := by have := hw.size; rw [hdTx_size] at this; exact this
  have eb : w1.heap[b]? = (hdTx w b (off + j * 5) t).heap[b]? := hw.block b (by rw [hdTx_size]; omega) (by omega)
  have cb : ∀ q, w1.cell? ⟨b, q, none⟩ = (hdTx w b (off + j * 5) t).cell? ⟨b, q, none⟩ := fun q => World.cell?_of_block (w := hdTx w b (off + j * 5) t) (a := ⟨b, q, none⟩) eb
  refine ⟨Nat.le_trans h0 hsz, .inr ⟨b, off, ha, hlo, hl, fun i => ?_, l, h, hd, fun i hi => ?_⟩⟩
  · rw [World.frozen?_of_block (w := hdTx w b (off + j * 5) t) (a := ⟨b, i, none⟩) eb, hdTx_frozen]; exact hf i
  · obtain ⟨m0, m1, ai', ci', m2, m3, m4⟩ := hc i hi
    by_cases e : i = j
    · subst e
      rw [upf_eq]
      have es : ai' = ai ∧ ci' = ci := by
        have x1 := k2.2.2.2.2
        have x2 := m2.2.2.2.2
        rw [x1] at x2
        simp only [Option.some.injEq, Value.slice.injEq] at x2
        exact ⟨x2.1.symm, x2.2.2.symm⟩
      exact ⟨m0, m1, ai, ci, (hdTx_same k2 hn).block eb, by rw [hn]; exact k3, hr⟩
    · rw [upf_ne _ _ e]
      refine ⟨m0, m1, ai', ci', ?_, m3, ?_⟩
      · have g : ∀ q, q < 5 → w1.cell? ⟨b, off + i * 5 + q, none⟩ = w.cell? ⟨b, off + i * 5 + q, none⟩ := fun q hq => (cb _).trans (hdTx_far (by omega))
        obtain ⟨h0, h1, h2, h3, h4⟩ := m2
        exact ⟨(g 0 (by omega)).trans h0, (g 1 (by omega)).trans h1, (g 2 (by omega)).trans h2, (g 3 (by omega)).trans h3, (g 4 (by omega)).trans h4⟩
      · have hdd := hd i j hi hj e
        have m5 := m4.writes (w' := hdTx w b (off + j * 5) t) (lo' := b) (hi' := b + 1) (hdTx_writes (Writes.refl _ _ _) (Nat.le_refl _) (Nat.lt_succ_self _)) (by omega)
        exact m5.writes hw (by omega)
/-! ### copies -/
theorem infoTx : (Try.prog.info? 61).map (fun i => (i.zero, i.size, i.bytes)) = some (some (.agg #[.int .i64 0, .int .i64 0, .int .i64 0, .int .i64 0, .slice none 0 0]), 5, 56) := by kernel_rfl
theorem run_make_Tx (n : Nat) (hn : n ≤ 1048576) (w : World) :
    (Instr.makeSlice 24 (.int .i64 (n : Int)) (.int .i64 (n : Int))).run Try.prog w = .ok (.slice (some ⟨w.heap.size, 0, none⟩) n n) (w.alloc (.cells (madeCells #[.int .i64 0, .int .i64 0, .int .i64 0, .int .i64 0, .slice none 0 0] (n * 5)) 61)) := by
  obtain ⟨i, hi, hzz⟩ := Option.map_eq_some_iff.1 infoTx
  simp only [Prod.mk.injEq] at hzz
  obtain ⟨hz, hs, hb⟩ := hzz
  have hr := run_make (P := Try.prog) w 24 61 i _ Try.underlying24 hi hz .i64 .i64 n n (by omega) (Int.le_refl _) (by rw [hb]; omega) (by omega)
  simp only [Int.toNat_natCast, hs] at hr
  exact hr
theorem made_Tx (w : World) (n : Nat) : OwnTx (w.alloc (.cells (madeCells #[.int .i64 0, .int .i64 0, .int .i64 0, .int .i64 0, .slice none 0 0] (n * 5)) 61)) w.heap.size (w.heap.size + 1) (some ⟨w.heap.size, 0, none⟩) n (fun _ => zTx) := by
  refine ⟨by simp, .inr ⟨_, _, rfl, Nat.le_refl _, Nat.lt_succ_self _, fun i => by simp [go_sem], fun _ => 0, fun _ => 0, fun i j _ _ _ => .inl (Nat.le_refl _), fun i hi => ⟨.inr (Nat.zero_le _), .inl rfl, none, 0, ?_, Nat.le_refl _, Nat.zero_le _, .inl rfl⟩⟩⟩
  have c : ∀ j, j < 5 → (w.alloc (.cells (madeCells #[.int .i64 0, .int .i64 0, .int .i64 0, .int .i64 0, .slice none 0 0] (n * 5)) 61)).cell? ⟨w.heap.size, 0 + i * 5 + j, none⟩ = (#[Value.int .i64 0, .int .i64 0, .int .i64 0, .int .i64 0, .slice none 0 0])[j]? := fun j hj => by
    have l : i * 5 + j < n * 5 := by omega
    have : j = 0 ∨ j = 1 ∨ j = 2 ∨ j = 3 ∨ j = 4 := by omega
    rcases this with rfl | rfl | rfl | rfl | rfl <;> simp [go_sem, madeCells] <;> exact ⟨_, by rw [Array.getElem?_range, if_pos (by omega)], by simp [Nat.add_mod]⟩
  exact ⟨c 0 (by omega), c 1 (by omega), c 2 (by omega), c 3 (by omega), c 4 (by omega)⟩
/-- How many elements the first k have. -/
def smTx (T : Nat → Tx) (k : Nat) : Nat := smf (fun i => (T i).n) k
theorem pref_zTx (T : Nat → Tx) (k : Nat) : pref T (fun _ => zTx) k k = zTx := pref_at _ _ _
end Go.Proofs.Ytjdodbiphijjgaa
