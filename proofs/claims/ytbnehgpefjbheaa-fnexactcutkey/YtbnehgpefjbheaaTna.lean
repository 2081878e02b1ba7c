/- Nodes in memory: what they hold, stores, sizes, copies. -/
import Derived.Test.YtbnehgpefjbheaaTni
namespace Go.Proofs.Ytbnehgpefjbheaa
open Go.ChangeShapes Go.WideShapes Go.ChangeAt Go.RowKit Go.Deep Go.Joins
set_option linter.unusedVariables false
set_option maxRecDepth 20000

/-- The sum of the first k. -/
def smf (f : Nat → Nat) : Nat → Nat
  | 0 => 0
  | k + 1 => smf f k + f k
theorem smf_ge (f : Nat → Nat) : ∀ n i, i < n → f i ≤ smf f n
  | 0, i, h => by omega
  | n + 1, i, h => by
    by_cases e : i = n
    · subst e; simp [smf]
    · have := smf_ge f n i (by omega); simp only [smf]; omega
theorem smf_le (f : Nat → Nat) {n : Nat} : ∀ {i}, i ≤ n → smf f i ≤ smf f n := by
  induction n with
  | zero => intro i h; have : i = 0 := by omega
            subst this; exact Nat.le_refl _
  | succ n ih =>
    intro i h
    by_cases e : i = n + 1
    · subst e; exact Nat.le_refl _
    · have := ih (i := i) (by omega); simp only [smf]; omega
theorem smf_add (f : Nat → Nat) (c d : Nat) : ∀ k, smf (fun i => f i * c + d) k = smf f k * c + k * d
  | 0 => by simp [smf]
  | k + 1 => by simp only [smf, smf_add f c d k, Nat.add_mul, Nat.one_mul]; omega
def upf {α : Type} (f : Nat → α) (j : Nat) (x : α) (i : Nat) : α := if i = j then x else f i
theorem upf_eq {α : Type} (f : Nat → α) (j : Nat) (x : α) : upf f j x j = x := by simp [upf]
theorem upf_ne {α : Type} (f : Nat → α) {j i : Nat} (x : α) (h : i ≠ j) : upf f j x i = f i := by simp [upf, h]
def pref {α : Type} (f g : Nat → α) (j i : Nat) : α := if i < j then f i else g i
theorem pref_upf {α : Type} (f g : Nat → α) (j : Nat) : upf (pref f g j) j (f j) = pref f g (j + 1) := by
  funext i
  by_cases e : i = j
  · subst e; simp [upf, pref]
  · by_cases h : i < j
    · have : i < j + 1 := by omega
      simp [upf, pref, e, h, this]
    · have : ¬ i < j + 1 := by omega
      simp [upf, pref, e, h, this]
theorem pref_at {α : Type} (f g : Nat → α) (j : Nat) : pref f g j j = g j := by simp [pref]
theorem pref_lt {α : Type} (f g : Nat → α) {j i : Nat} (h : i < j) : pref f g j i = f i := by simp [pref, h]
theorem pref_zero {α : Type} (f g : Nat → α) : pref f g 0 = g := by funext i; simp [pref]
/-- What is kept of cells by a call. -/
theorem bcell2 {w w' : World} (hb : Below w.heap.size w w') : (∀ b i, b < w.heap.size → w'.cell? ⟨b, i, none⟩ = w.cell? ⟨b, i, none⟩) ∧ (∀ b i, b < w.heap.size → w'.frozen? ⟨b, i, none⟩ = w.frozen? ⟨b, i, none⟩) :=
  ⟨fun b i h => hb.cell (p := ⟨b, i, none⟩) h, fun b i h => hb.frozen (p := ⟨b, i, none⟩) h⟩
/-- A node: is it a leaf, its keys, its kids. -/
structure Nd where
  lf : Bool
  kn : Nat
  K : Nat → Int
  dn : Nat
  D : Nat → Int
def zNd : Nd := ⟨false, 0, fun _ => 0, 0, fun _ => 0⟩
/-- The cells of a node. -/
def CNd (w : World) (b o : Nat) (t : Nd) (ak : Option Addr) (ck : Nat) (ad : Option Addr) (cd : Nat) : Prop :=
  w.cell? ⟨b, o, none⟩ = some (.bool t.lf) ∧ w.cell? ⟨b, o + 1, none⟩ = some (.slice ak t.kn ck) ∧ w.cell? ⟨b, o + 2, none⟩ = some (.slice ad t.dn cd)
theorem CNd.block {w w' : World} {b o : Nat} {t : Nd} {ak ad : Option Addr} {ck cd : Nat} (h : CNd w b o t ak ck ad cd) (e : w'.heap[b]? = w.heap[b]?) : CNd w' b o t ak ck ad cd := by
  have g : ∀ i, w'.cell? ⟨b, i, none⟩ = w.cell? ⟨b, i, none⟩ := fun i => World.cell?_of_block (w := w) (a := ⟨b, i, none⟩) e
  exact ⟨(g _).trans h.1, (g _).trans h.2.1, (g _).trans h.2.2⟩
/-- The slice at 'a' has the n nodes T. -/
def NdsAt (w : World) (a : Option Addr) (n : Nat) (T : Nat → Nd) : Prop :=
  n = 0 ∨ ∃ b off, a = some ⟨b, off, none⟩ ∧ b < w.heap.size ∧ ∀ i, i < n → ∃ ak ck ad cd, CNd w b (off + i * 3) (T i) ak ck ad cd ∧ IntsAt w ak (T i).kn (T i).K ∧ IntsAt w ad (T i).dn (T i).D ∧ (T i).kn ≤ ck ∧ (T i).dn ≤ cd
theorem NdsAt.below {w w' : World} {a : Option Addr} {n : Nat} {T : Nat → Nd} (h : NdsAt w a n T) (hb : Below w.heap.size w w') : NdsAt w' a n T := by
  rcases h with h | ⟨b, off, ha, hl, hc⟩
  · exact .inl h
  · refine .inr ⟨b, off, ha, Nat.lt_of_lt_of_le hl hb.size, fun i hi => ?_⟩
    obtain ⟨ak, ck, ad, cd, h1, h2, h3, h4⟩ := hc i hi
    exact ⟨ak, ck, ad, cd, h1.block (hb.block _ hl), h2.below hb, h3.below hb, h4⟩
/-- Two slices of numbers of their own, one behind the other, in blocks from l on, below h. -/
def OwnKD (w : World) (l h : Nat) (ak : Option Addr) (ad : Option Addr) (t : Nd) : Prop := ∃ m, l ≤ m ∧ m ≤ h ∧ OwnI w l m ak t.kn t.K ∧ OwnI w m h ad t.dn t.D
theorem OwnKD.writes {w w' : World} {l h lo' hi' : Nat} {ak ad : Option Addr} {t : Nd} (k : OwnKD w l h ak ad t) (hw : Writes lo' hi' w w') (hd : h ≤ lo' ∨ hi' ≤ l) : OwnKD w' l h ak ad t := by
  obtain ⟨m, h1, h2, h3, h4⟩ := k
  exact ⟨m, h1, h2, h3.writes hw (by omega), h4.writes hw (by omega)⟩
theorem OwnKD.lt {w : World} {l h : Nat} {ak ad : Option Addr} {t : Nd} (k : OwnKD w l h ak ad t) : l ≤ h ∧ h ≤ w.heap.size := by
  obtain ⟨m, h1, h2, h3, h4⟩ := k
  exact ⟨by omega, h4.1⟩
/-- The nodes in blocks of their own, from lo on, below hi. -/
def OwnNd (w : World) (lo hi : Nat) (a : Option Addr) (n : Nat) (T : Nat → Nd) : Prop :=
  hi ≤ w.heap.size ∧ (n = 0 ∨ ∃ b off, a = some ⟨b, off, none⟩ ∧ lo ≤ b ∧ b < hi ∧ (∀ i, w.frozen? ⟨b, i, none⟩ = false) ∧ ∃ l h : Nat → Nat, (∀ i j, i < n → j < n → i ≠ j → h i ≤ l j ∨ h j ≤ l i) ∧
    ∀ i, i < n → (b < l i ∨ h i ≤ b) ∧ (h i = 0 ∨ lo ≤ l i ∧ h i ≤ hi) ∧ ∃ ak ck ad cd, CNd w b (off + i * 3) (T i) ak ck ad cd ∧ (T i).kn ≤ ck ∧ (T i).dn ≤ cd ∧ OwnKD w (l i) (h i) ak ad (T i))
theorem OwnNd.at {w : World} {lo hi : Nat} {a : Option Addr} {n : Nat} {T : Nat → Nd} (h : OwnNd w lo hi a n T) : NdsAt w a n T := by
  obtain ⟨h0, h1 | ⟨b, off, ha, _, hl, _, l, h, _, hc⟩⟩ := h
  · exact .inl h1
  · refine .inr ⟨b, off, ha, by omega, fun i hi => ?_⟩
    obtain ⟨_, _, ak, ck, ad, cd, k1, k2, k3, m, _, _, k4, k5⟩ := hc i hi
    exact ⟨ak, ck, ad, cd, k1, k4.at, k5.at, k2, k3⟩
theorem OwnNd.writes {w w' : World} {lo hi lo' hi' : Nat} {a : Option Addr} {n : Nat} {T : Nat → Nd} (h : OwnNd w lo hi a n T) (hw : Writes lo' hi' w w') (hd : hi ≤ lo' ∨ hi' ≤ lo) : OwnNd w' lo hi a n T := by
  obtain ⟨h0, h1 | ⟨b, off, ha, hlo, hl, hf, l, h, hj, hc⟩⟩ := h
  · exact ⟨Nat.le_trans h0 hw.size, .inl h1⟩
  · have e := hw.block b (by omega) (by omega)
    refine ⟨Nat.le_trans h0 hw.size, .inr ⟨b, off, ha, hlo, hl, fun i => (World.frozen?_of_block (w := w) (a := ⟨b, i, none⟩) e).trans (hf i), l, h, hj, fun i hi => ?_⟩⟩
    obtain ⟨k0, k1, ak, ck, ad, cd, k2, k3, k4, k5⟩ := hc i hi
    have := k5.lt
    exact ⟨k0, k1, ak, ck, ad, cd, k2.block e, k3, k4, k5.writes hw (by omega)⟩
theorem OwnNd.below {w w' : World} {lo hi : Nat} {a : Option Addr} {n : Nat} {T : Nat → Nd} (h : OwnNd w lo hi a n T) (hb : Below w.heap.size w w') : OwnNd w' lo hi a n T :=
  h.writes (Writes.of_below (lo := hi) (hi := hi) hb) (.inl (Nat.le_refl _))
theorem OwnNd.wide {w : World} {lo hi lo' hi' : Nat} {a : Option Addr} {n : Nat} {T : Nat → Nd} (h : OwnNd w lo hi a n T) (h1 : lo' ≤ lo) (h2 : hi ≤ hi') (h3 : hi' ≤ w.heap.size) : OwnNd w lo' hi' a n T := by
  obtain ⟨h0, h4 | ⟨b, off, ha, hlo, hl, hf, l, h, hj, hc⟩⟩ := h
  · exact ⟨h3, .inl h4⟩
  · refine ⟨h3, .inr ⟨b, off, ha, by omega, by omega, hf, l, h, hj, fun i hi => ?_⟩⟩
    obtain ⟨k0, k1, r⟩ := hc i hi
    exact ⟨k0, by omega, r⟩
theorem OwnNd.congr {w : World} {lo hi : Nat} {a : Option Addr} {n : Nat} {T T' : Nat → Nd} (h : OwnNd w lo hi a n T) (e : ∀ i, i < n → T i = T' i) : OwnNd w lo hi a n T' := by
  obtain ⟨h0, h1 | ⟨b, off, ha, hlo, hl, hf, l, h, hj, hc⟩⟩ := h
  · exact ⟨h0, .inl h1⟩
  · exact ⟨h0, .inr ⟨b, off, ha, hlo, hl, hf, l, h, hj, fun i hi => by rw [← e i hi]; exact hc i hi⟩⟩
/-! ### one is stored -/
def setNd (w : World) (b o : Nat) (t : Nd) (ak : Option Addr) (ck : Nat) (ad : Option Addr) (cd : Nat) : World := ((w.setCell ⟨b, o, none⟩ (.bool t.lf)).setCell ⟨b, o + 1, none⟩ (.slice ak t.kn ck)).setCell ⟨b, o + 2, none⟩ (.slice ad t.dn cd)
theorem setNd_size {w : World} {b o : Nat} {t : Nd} {ak ad : Option Addr} {ck cd : Nat} : (setNd w b o t ak ck ad cd).heap.size = w.heap.size := by simp [setNd, World.setCell]
theorem setNd_far {w : World} {b o o' : Nat} {t : Nd} {ak ad : Option Addr} {ck cd : Nat} (h : o' < o ∨ o + 2 < o') : (setNd w b o t ak ck ad cd).cell? ⟨b, o', none⟩ = w.cell? ⟨b, o', none⟩ := by
  unfold setNd
  rw [setO (by omega), setO (by omega), setO (by omega)]
theorem setNd_frozen {w : World} {b o : Nat} {t : Nd} {ak ad : Option Addr} {ck cd : Nat} {p : Addr} : (setNd w b o t ak ck ad cd).frozen? p = w.frozen? p := by
  unfold setNd
  rw [World.frozen?_setCell, World.frozen?_setCell, World.frozen?_setCell]
theorem setNd_same {w : World} {b o : Nat} {t t0 : Nd} {ak ad ak0 ad0 : Option Addr} {ck cd ck0 cd0 : Nat} (h : CNd w b o t0 ak0 ck0 ad0 cd0) : CNd (setNd w b o t ak ck ad cd) b o t ak ck ad cd := by
  obtain ⟨h0, h1, h2⟩ := h
  refine ⟨?_, ?_, ?_⟩
  · unfold setNd; rw [setO (by omega), setO (by omega)]; exact setS h0
  · unfold setNd; rw [setO (by omega)]; exact setS (by rw [setO (by omega)]; exact h1)
  · unfold setNd; exact setS (by rw [setO (by omega), setO (by omega)]; exact h2)
theorem setNd_below {m : Nat} {w wr : World} {b o : Nat} {t : Nd} {ak ad : Option Addr} {ck cd : Nat} (h : Below m w wr) (h1 : m ≤ b) : Below m w (setNd wr b o t ak ck ad cd) :=
  ((h.setCell (p := ⟨b, _, none⟩) h1 _).setCell (p := ⟨b, _, none⟩) h1 _).setCell (p := ⟨b, _, none⟩) h1 _
theorem setNd_writes {lo hi : Nat} {w wr : World} {b o : Nat} {t : Nd} {ak ad : Option Addr} {ck cd : Nat} (h : Writes lo hi w wr) (h1 : lo ≤ b) (h2 : b < hi) : Writes lo hi w (setNd wr b o t ak ck ad cd) :=
  ((h.setCell (p := ⟨b, _, none⟩) h1 h2 _).setCell (p := ⟨b, _, none⟩) h1 h2 _).setCell (p := ⟨b, _, none⟩) h1 h2 _
theorem OwnNd.store {w : World} {lo hi hi' l' h' b off n j : Nat} {T : Nat → Nd} {t : Nd} {ak ad : Option Addr} {ck cd : Nat} (h : OwnNd w lo hi (some ⟨b, off, none⟩) n T) (hj : j < n) (e1 : hi ≤ l') (e2 : h' ≤ hi') (e3 : hi ≤ hi') (e4 : hi' ≤ w.heap.size) (hn : t.kn ≤ ck) (hn2 : t.dn ≤ cd) (hu : OwnKD w l' h' ak ad t) :
    OwnNd (setNd w b (off + j * 3) t ak ck ad cd) lo hi' (some ⟨b, off, none⟩) n (upf T j t) := by
  obtain ⟨h0, h1 | ⟨b1, off1, ha, hlo, hl, hf, l, h, hd, hc⟩⟩ := h
  · omega
  simp only [Option.some.injEq, Addr.mk.injEq, and_true] at ha
  obtain ⟨rfl, rfl⟩ := ha
  refine ⟨by rw [setNd_size]; exact e4, .inr ⟨b, off, rfl, hlo, by omega, fun i => by rw [setNd_frozen]; exact hf i, fun i => if i = j then l' else l i, fun i => if i = j then h' else h i, fun i q hi hq hne => ?_, fun i hi => ?_⟩⟩
  · by_cases c1 : i = j <;> by_cases c2 : q = j <;> simp only [c1, c2, if_true, if_false]
    · omega
    · have := (hc q hq).2.1; omega
    · have := (hc i hi).2.1; omega
    · exact hd i q hi hq hne
  · obtain ⟨k0, k1, ak', ck', ad', cd', k2, k3, k4, k5⟩ := hc i hi
    have k6 := k5.lt
    have k7 := hu.lt
    by_cases e : i = j
    · subst e
      simp only [if_true, upf_eq]
      exact ⟨by omega, by omega, ak, ck, ad, cd, setNd_same k2, hn, hn2, hu.writes (lo' := b) (hi' := b + 1) (setNd_writes (Writes.refl _ _ _) (Nat.le_refl _) (Nat.lt_succ_self _)) (by omega)⟩
    · simp only [if_neg e]
      rw [upf_ne _ _ e]
      refine ⟨k0, by omega, ak', ck', ad', cd', ?_, k3, k4, k5.writes (lo' := b) (hi' := b + 1) (setNd_writes (Writes.refl _ _ _) (Nat.le_refl _) (Nat.lt_succ_self _)) (by omega)⟩
      have g : ∀ q, q < 3 → (setNd w b (off + j * 3) t ak ck ad cd).cell? ⟨b, off + i * 3 + q, none⟩ = w.cell? ⟨b, off + i * 3 + q, none⟩ := fun q hq => setNd_far (by omega)
      exact ⟨(g 0 (by omega)).trans k2.1, (g 1 (by omega)).trans k2.2.1, (g 2 (by omega)).trans k2.2.2⟩
/-! ### copies -/
theorem infoNd : (Try.prog.info? 63).map (fun i => (i.zero, i.size, i.bytes)) = some (some (.agg #[.bool false, .slice none 0 0, .slice none 0 0]), 3, 56) := by kernel_rfl
theorem run_make_Nd (n : Nat) (hn : n ≤ 1048576) (w : World) :
    (Instr.makeSlice 27 (.int .i64 (n : Int)) (.int .i64 (n : Int))).run Try.prog w = .ok (.slice (some ⟨w.heap.size, 0, none⟩) n n) (w.alloc (.cells (madeCells #[.bool false, .slice none 0 0, .slice none 0 0] (n * 3)) 63)) := by
  obtain ⟨i, hi, hzz⟩ := Option.map_eq_some_iff.1 infoNd
  simp only [Prod.mk.injEq] at hzz
  obtain ⟨hz, hs, hb⟩ := hzz
  have hr := run_make (P := Try.prog) w 27 63 i _ Try.underlying27 hi hz .i64 .i64 n n (by omega) (Int.le_refl _) (by rw [hb]; omega) (by omega)
  simp only [Int.toNat_natCast, hs] at hr
  exact hr
theorem made_Nd (w : World) (n : Nat) : OwnNd (w.alloc (.cells (madeCells #[.bool false, .slice none 0 0, .slice none 0 0] (n * 3)) 63)) w.heap.size (w.heap.size + 1) (some ⟨w.heap.size, 0, none⟩) n (fun _ => zNd) := by
  refine ⟨by simp, .inr ⟨_, _, rfl, Nat.le_refl _, Nat.lt_succ_self _, fun i => by simp [go_sem], fun _ => 0, fun _ => 0, fun i j _ _ _ => .inl (Nat.le_refl _), fun i hi => ⟨.inr (Nat.zero_le _), .inl rfl, none, 0, none, 0, ?_, Nat.le_refl _, Nat.le_refl _, 0, Nat.le_refl _, Nat.le_refl _, ⟨Nat.zero_le _, .inl rfl⟩, ⟨Nat.zero_le _, .inl rfl⟩⟩⟩⟩
  have c : ∀ j, j < 3 → (w.alloc (.cells (madeCells #[.bool false, .slice none 0 0, .slice none 0 0] (n * 3)) 63)).cell? ⟨w.heap.size, 0 + i * 3 + j, none⟩ = (#[Value.bool false, .slice none 0 0, .slice none 0 0])[j]? := fun j hj => by
    have l : i * 3 + j < n * 3 := by omega
    have : j = 0 ∨ j = 1 ∨ j = 2 := by omega
    rcases this with rfl | rfl | rfl <;> simp [go_sem, madeCells] <;> exact ⟨_, by rw [Array.getElem?_range, if_pos (by omega)], by simp [Nat.add_mod]⟩
  exact ⟨c 0 (by omega), c 1 (by omega), c 2 (by omega)⟩
/-! ### sizes -/
theorem szNode_any (lf : Bool) (kn dn : Nat) (ak ad : Option Addr) (ck cd : Nat) (x : Int) (w : World) (hn : kn ≤ 9223372036854775807) (hd : dn ≤ 9223372036854775807) (h0 : 0 ≤ x) (h1 : x ≤ 1048576) :
    Calls Try.prog 71 #[.agg #[.bool lf, .slice ak kn ck, .slice ad dn cd], .int .i64 x] w fun e w' => e = .returned (.int .i64 (if x - kn - dn < 0 then -1 else x - kn - dn)) ∧ Below w.heap.size w w' := by
  by_cases h : x - (kn : Int) < 0
  · rw [if_pos (show x - (kn : Int) - dn < 0 by omega)]
    go_enter Try.func71, Try.ntmps71
    go_wp2_with fail
    refine (szInt64S_x kn ak ck x _ hn h0 h1).mono ?_
    rintro e w' ⟨rfl, rfl⟩
    rw [if_pos (by omega)]
    go_wp2
    go_ret
    exact ⟨rfl, below_new _ _⟩
  · by_cases h2 : x - (kn : Int) - (dn : Int) < 0
    · rw [if_pos h2]
      go_enter Try.func71, Try.ntmps71
      go_wp2_with fail
      refine (szInt64S_x kn ak ck x _ hn h0 h1).mono ?_
      rintro e w' ⟨rfl, rfl⟩
      rw [if_neg (by omega)]
      go_wp2_with fail
      refine (szInt64S_x dn ad cd (x - kn) _ hd (by omega) (by omega)).mono ?_
      rintro e w' ⟨rfl, rfl⟩
      rw [if_pos (by omega)]
      go_wp2
      go_ret
      exact ⟨rfl, below_new _ _⟩
    · rw [if_neg h2]
      go_enter Try.func71, Try.ntmps71
      go_wp2_with fail
      refine (szInt64S_x kn ak ck x _ hn h0 h1).mono ?_
      rintro e w' ⟨rfl, rfl⟩
      rw [if_neg (by omega)]
      go_wp2_with fail
      refine (szInt64S_x dn ad cd (x - kn) _ hd (by omega) (by omega)).mono ?_
      rintro e w' ⟨rfl, rfl⟩
      rw [if_neg (by omega)]
      go_wp2
      go_ret
      exact ⟨rfl, below_new _ _⟩
def smNd (T : Nat → Nd) (k : Nat) : Nat := smf (fun i => (T i).kn + (T i).dn) k
set_option maxHeartbeats 1000000 in
theorem szNodeS_any (n : Nat) (T : Nat → Nd) (a : Option Addr) (cap : Nat) (x : Int) (w : World) (hn : n ≤ 9223372036854775807) (hL : ∀ i, i < n → (T i).kn ≤ 9223372036854775807 ∧ (T i).dn ≤ 9223372036854775807) (h0 : 0 ≤ x) (h1 : x ≤ 1048576) (h : NdsAt w a n T) :
    Calls Try.prog 41 #[.slice a n cap, .int .i64 x] w fun e w' => Below w.heap.size w w' ∧ ∃ r : Int, e = .returned (.int .i64 r) ∧ (r = -1 ∨ (0 ≤ r ∧ r = x - n - smNd T n)) := by
  by_cases hx : x - (n : Int) < 0
  · clear hL h
    go_enter Try.func41, Try.ntmps41
    go_wp2
    go_ret
    exact ⟨Below.refl _ _, _, rfl, .inl rfl⟩
  · go_enter Try.func41, Try.ntmps41
    have HL : Hid (∀ i, i < n → (T i).kn ≤ 9223372036854775807 ∧ (T i).dn ≤ 9223372036854775807) := hL
    have HA : Hid (NdsAt w a n T) := h
    clear hL h
    go_wp2
    go_loopw [1, 5] (fun q i wr => ∃ k : Nat, k ≤ n ∧ i = .int .i64 k ∧ q = .int .i64 (x - n - smNd T k) ∧ 0 ≤ x - n - smNd T k ∧ Below w.heap.size w wr) (fun _ i _ => n - (intOf i).toNat)
    case atStart => exact ⟨0, Nat.zero_le _, rfl, by simp [smNd, smf], by simp [smNd, smf]; omega, Below.refl _ _⟩
    case round =>
      obtain ⟨k, hk, rfl, rfl, hnn, hb⟩ := hrel
      by_cases hlt : k < n
      · rcases HA.out.below hb with h | ⟨b, off, rfl, hl, hc⟩
        · omega
        obtain ⟨ak, ck, ad, cd, hC, -⟩ := hc k hlt
        obtain ⟨q0, q1, q2⟩ := hC
        obtain ⟨hLk, hLd⟩ := HL.out k hlt
        have hs : (smNd T (k + 1) : Int) = smNd T k + (T k).kn + (T k).dn := by simp [smNd, smf]; omega
        generalize hS : (smNd T k : Int) = S at *
        have HB : Hid (Below w.heap.size w wr) := hb
        clear hc hb
        by_cases hneg : x - n - S - ((T k).kn : Int) - ((T k).dn : Int) < 0
        · go_wp2_with fail
          refine (szNode_any (T k).lf (T k).kn (T k).dn ak ad ck cd (x - n - S) wr hLk hLd hnn (by omega)).mono ?_
          rintro e w' ⟨rfl, hb'⟩
          rw [if_pos (by omega)]
          go_wp2
          go_ret
          exact ⟨below_then HB.out hb', _, rfl, .inl rfl⟩
        · go_wp2_with fail
          refine (szNode_any (T k).lf (T k).kn (T k).dn ak ad ck cd (x - n - S) wr hLk hLd hnn (by omega)).mono ?_
          rintro e w' ⟨rfl, hb'⟩
          rw [if_neg (by omega)]
          go_wp2
          go_roundw
          case rel => exact ⟨k + 1, hlt, by go_num, by rw [hs]; congr 1; omega, by rw [hs]; omega, below_then HB.out hb'⟩
          case measure => simp [intOf]; omega
      · have hkn : k = n := by omega
        go_wp2
        go_ret
        exact ⟨hb, _, rfl, .inr ⟨by first | exact hnn | (rw [hkn] at hnn; exact hnn), by first | rfl | rw [hkn]⟩⟩
/-! ### one copied -/
set_option maxHeartbeats 1000000 in
theorem toNode_any (t : Nd) (ak ad : Option Addr) (ck cd : Nat) (w : World) (hk : t.kn ≤ 1048576) (hd : t.dn ≤ 1048576) (h : IntsAt w ak t.kn t.K) (h' : IntsAt w ad t.dn t.D) :
    Calls Try.prog 74 #[.agg #[.bool t.lf, .slice ak t.kn ck, .slice ad t.dn cd]] w fun e w' =>
      ∃ B B', e = .returned (.agg #[.bool t.lf, .slice (some ⟨B, 0, none⟩) t.kn t.kn, .slice (some ⟨B', 0, none⟩) t.dn t.dn]) ∧ Below w.heap.size w w' ∧ OwnKD w' w.heap.size w'.heap.size (some ⟨B, 0, none⟩) (some ⟨B', 0, none⟩) t := by
  have HD : Hid (IntsAt w ad t.dn t.D) := h'
  clear h'
  go_enter Try.func74, Try.ntmps74
  go_wp2_with fail
  have hb0 : ∀ o1 o2 o3, Below w.heap.size w (((w.alloc o1).alloc o2).alloc o3) := fun o1 o2 o3 => (((Below.refl _ _).alloc (Nat.le_refl _) _).alloc (by simp) _).alloc (by simp; omega) _
  refine (toInt64S_own t.kn t.K ak ck _ hk (h.below (hb0 _ _ _))).mono ?_
  rintro e w1 ⟨B, rfl, hb1, hr1⟩
  obtain ⟨hc, hf⟩ := bcell2 hb1
  have hz : w.heap.size + 3 ≤ w1.heap.size := by have := hb1.size; simp at this; omega
  have e3 : ∀ o1 o2 o3 : Obj, (((w.alloc o1).alloc o2).alloc o3).heap.size = w.heap.size + 3 := fun _ _ _ => by simp
  rw [e3] at hr1
  have HR1 : Hid (OwnI w1 (w.heap.size + 3) w1.heap.size (some ⟨B, 0, none⟩) t.kn t.K) := hr1
  have HBF : Hid (Below w.heap.size w w1) := below_then (hb0 _ _ _) hb1
  have y : ∀ (b i : Nat) (v : Value), w1.cell? ⟨b, i, none⟩ = some v → w1.cell? ⟨b, i, none⟩ = some v := fun _ _ _ h => h
  have r2 := y w.heap.size 2 (.slice ad t.dn cd) (by rw [hc _ _ (by simp <;> omega)]; simp [go_sem])
  have s0 := y (w.heap.size + 1) 0 (.bool false) (by rw [hc _ _ (by simp <;> omega)]; simp [go_sem])
  have s1 := y (w.heap.size + 1) 1 (.slice none 0 0) (by rw [hc _ _ (by simp <;> omega)]; simp [go_sem])
  have s2 := y (w.heap.size + 1) 2 (.slice none 0 0) (by rw [hc _ _ (by simp <;> omega)]; simp [go_sem])
  have t0 := y (w.heap.size + 2) 0 (.bool t.lf) (by rw [hc _ _ (by simp <;> omega)]; simp [go_sem])
  have t1 := y (w.heap.size + 2) 1 (.slice none 0 0) (by rw [hc _ _ (by simp <;> omega)]; simp [go_sem])
  have t2 := y (w.heap.size + 2) 2 (.slice none 0 0) (by rw [hc _ _ (by simp <;> omega)]; simp [go_sem])
  have f1 : ∀ i, w1.frozen? ⟨w.heap.size + 1, i, none⟩ = false := fun i => by rw [hf _ _ (by simp <;> omega)]; simp [go_sem]
  have f2 : ∀ i, w1.frozen? ⟨w.heap.size + 2, i, none⟩ = false := fun i => by rw [hf _ _ (by simp <;> omega)]; simp [go_sem]
  clear hc hf hb1 hr1 e3 y h hb0
  go_upto_region 4 with fail
  obtain ⟨W1, hW1⟩ : ∃ y, y = w1.setCell ⟨w.heap.size + 2, 1, none⟩ (.slice (some ⟨B, 0, none⟩) t.kn t.kn) := ⟨_, rfl⟩
  have x0 : W1.cell? ⟨w.heap.size + 2, 0, none⟩ = some (.bool t.lf) := by rw [hW1, setO (by omega)]; exact t0
  have x1 : W1.cell? ⟨w.heap.size + 2, 1, none⟩ = some (.slice (some ⟨B, 0, none⟩) t.kn t.kn) := by rw [hW1]; exact setS t1
  have x2 : W1.cell? ⟨w.heap.size + 2, 2, none⟩ = some (.slice none 0 0) := by rw [hW1, setO (by omega)]; exact t2
  have far : ∀ b i, b ≠ w.heap.size + 2 → W1.cell? ⟨b, i, none⟩ = w1.cell? ⟨b, i, none⟩ := fun b i hne => by rw [hW1]; exact World.cell?_setCell_far _ _ _ _ (Ne.symm hne)
  have r2' : W1.cell? ⟨w.heap.size, 2, none⟩ = some (.slice ad t.dn cd) := (far _ _ (by omega)).trans r2
  have s0' : W1.cell? ⟨w.heap.size + 1, 0, none⟩ = some (.bool false) := (far _ _ (by omega)).trans s0
  have s1' : W1.cell? ⟨w.heap.size + 1, 1, none⟩ = some (.slice none 0 0) := (far _ _ (by omega)).trans s1
  have s2' : W1.cell? ⟨w.heap.size + 1, 2, none⟩ = some (.slice none 0 0) := (far _ _ (by omega)).trans s2
  have g1 : ∀ i, W1.frozen? ⟨w.heap.size + 1, i, none⟩ = false := fun i => by rw [hW1, World.frozen?_setCell]; exact f1 i
  have g2 : ∀ i, W1.frozen? ⟨w.heap.size + 2, i, none⟩ = false := fun i => by rw [hW1, World.frozen?_setCell]; exact f2 i
  have hsz : W1.heap.size = w1.heap.size := by rw [hW1]; simp [World.setCell]
  have HW : Hid (Writes (w.heap.size) (w.heap.size + 3) w1 W1) := by rw [hW1]; exact (Writes.refl _ _ _).setCell (by simp) (by simp) _
  rw [← hW1]
  clear hW1 r2 s0 s1 s2 t0 t1 t2 f1 f2 far
  have HB1 : Hid (Below w.heap.size w W1) := HW.out.below HBF.out (Nat.le_refl _)
  have HRW : Hid (OwnI W1 (w.heap.size + 3) w1.heap.size (some ⟨B, 0, none⟩) t.kn t.K) := HR1.out.writes HW.out (.inr (Nat.le_refl _))
  go_wp2_with fail
  refine (toInt64S_own t.dn t.D ad cd _ hd (HD.out.below HB1.out)).mono ?_
  rintro e w2 ⟨B', rfl, hb2, hr2⟩
  have HB2 : Hid (Below w.heap.size w w2) := below_then HB1.out hb2
  have HR2 : Hid (OwnI w2 w1.heap.size w2.heap.size (some ⟨B', 0, none⟩) t.dn t.D) := by rw [← hsz]; exact hr2
  have HR3 : Hid (OwnI w2 (w.heap.size + 3) w1.heap.size (some ⟨B, 0, none⟩) t.kn t.K) := HRW.out.below hb2
  have hz2 : w1.heap.size ≤ w2.heap.size := by have := hb2.size; omega
  replace x0 := cell_below x0 hb2
  replace x1 := cell_below x1 hb2
  replace x2 := cell_below x2 hb2
  replace s0' := cell_below s0' hb2
  replace s1' := cell_below s1' hb2
  replace s2' := cell_below s2' hb2
  replace g1 : ∀ i, w2.frozen? ⟨w.heap.size + 1, i, none⟩ = false := fun i => (hb2.frozen (p := ⟨_, i, none⟩) (by show w.heap.size + 1 < W1.heap.size; omega)).trans (g1 i)
  replace g2 : ∀ i, w2.frozen? ⟨w.heap.size + 2, i, none⟩ = false := fun i => (hb2.frozen (p := ⟨_, i, none⟩) (by show w.heap.size + 2 < W1.heap.size; omega)).trans (g2 i)
  clear hb2 hr2 r2'
  have hw : ∀ w3, Writes w.heap.size (w.heap.size + 3) w2 w3 → w3.heap.size = w2.heap.size → Below w.heap.size w w3 ∧ OwnKD w3 w.heap.size w3.heap.size (some ⟨B, 0, none⟩) (some ⟨B', 0, none⟩) t := fun w3 h e =>
    ⟨h.below HB2.out (Nat.le_refl _), w1.heap.size, by omega, by omega, (HR3.out.writes h (.inr (Nat.le_refl _))).wide (by omega) (Nat.le_refl _) (by omega), (HR2.out.writes h (.inr hz)).wide (Nat.le_refl _) (by omega) (Nat.le_refl _)⟩
  have HWW : Hid (∀ w3, Writes w.heap.size (w.heap.size + 3) w2 w3 → w3.heap.size = w2.heap.size → Below w.heap.size w w3 ∧ OwnKD w3 w.heap.size w3.heap.size (some ⟨B, 0, none⟩) (some ⟨B', 0, none⟩) t) := hw
  clear hw
  go_wp2_with fail
  refine bodyPost_ret (v := .agg #[.bool t.lf, .slice (some ⟨B, 0, none⟩) t.kn t.kn, .slice (some ⟨B', 0, none⟩) t.dn t.dn]) (by simp [results, Try.results74, go_sem, s0', s1', s2']) rfl ⟨_, _, rfl, ?_⟩
  refine HWW.out _ ?_ (by simp [World.setCell])
  repeat (first | with_reducible exact Writes.refl _ _ _ | with_reducible refine Writes.setCell ?_ (by first | omega | (simp <;> omega)) (by first | omega | (simp <;> omega)) _)
theorem pref_zNd (T : Nat → Nd) (k : Nat) : pref T (fun _ => zNd) k k = zNd := pref_at _ _ _
set_option maxHeartbeats 2000000 in
theorem toNodeS_any (n : Nat) (T : Nat → Nd) (a : Option Addr) (cap : Nat) (w : World) (hn : n ≤ 1048576) (hL : ∀ i, i < n → (T i).kn ≤ 1048576 ∧ (T i).dn ≤ 1048576) (h : NdsAt w a n T) :
    Calls Try.prog 45 #[.slice a n cap] w fun e w' =>
      e = .returned (.slice (some ⟨w.heap.size, 0, none⟩) n n) ∧ Below w.heap.size w w' ∧ OwnNd w' w.heap.size w'.heap.size (some ⟨w.heap.size, 0, none⟩) n T := by
  have hmk := run_make_Nd n (by omega)
  have HL : Hid (∀ i, i < n → (T i).kn ≤ 1048576 ∧ (T i).dn ≤ 1048576) := hL
  have HA : Hid (NdsAt w a n T) := h
  clear hL h
  go_enter Try.func45, Try.ntmps45
  go_wp2
  clear hmk
  go_loopw [4] (fun i wr => ∃ k : Nat, k ≤ n ∧ i = .int .i64 k ∧ Hid (Below w.heap.size w wr) ∧ Hid (OwnNd wr w.heap.size wr.heap.size (some ⟨w.heap.size, 0, none⟩) n (pref T (fun _ => zNd) k))) (fun i _ => n - (intOf i).toNat)
  case atStart => exact ⟨0, Nat.zero_le _, rfl, (Below.refl _ _).alloc (Nat.le_refl _) _, by rw [pref_zero]; exact (made_Nd w n).wide (Nat.le_refl _) (by simp) (Nat.le_refl _)⟩
  case round =>
    obtain ⟨k, hk, rfl, HB, HO⟩ := hrel
    by_cases hlt : k < n
    · rcases HA.out.below HB.out with h | ⟨b, off, rfl, hl, hc⟩
      · omega
      obtain ⟨ak, ck, ad, cd, hC, hby, hby2, -⟩ := hc k hlt
      obtain ⟨q0, q1, q2⟩ := hC
      have HY : Hid (IntsAt wr ak (T k).kn (T k).K) := hby
      have HY2 : Hid (IntsAt wr ad (T k).dn (T k).D) := hby2
      obtain ⟨h0, h1 | ⟨b1, off1, ha, hlo, hl1, hf, l, h, hd, hc1⟩⟩ := HO.out
      · omega
      simp only [Option.some.injEq, Addr.mk.injEq, and_true] at ha
      obtain ⟨rfl, rfl⟩ := ha
      obtain ⟨_, _, ak', ck', ad', cd', hC1, -⟩ := hc1 k hlt
      rw [pref_zNd, Nat.zero_add] at hC1
      have hsz : w.heap.size < wr.heap.size := by omega
      have hlt' : (k : Int) < (n : Int) := by omega
      have hk0 : (0 : Int) ≤ (k : Int) := by omega
      clear hc hby hby2 hc1 hd
      go_wp2_with fail
      refine (toNode_any (T k) ak ad ck cd wr (HL.out k hlt).1 (HL.out k hlt).2 HY.out HY2.out).mono ?_
      rintro e w1 ⟨B, B', rfl, hb1, hr1⟩
      have HB1 : Hid (Below wr.heap.size wr w1) := hb1
      have HR1 : Hid (OwnKD w1 wr.heap.size w1.heap.size (some ⟨B, 0, none⟩) (some ⟨B', 0, none⟩) (T k)) := hr1
      have hC2 := hC1.block (hb1.block _ hsz)
      obtain ⟨y0, y1, y2⟩ := hC2
      replace hf : ∀ i, w1.frozen? ⟨w.heap.size, i, none⟩ = false := fun i => (hb1.frozen (p := ⟨_, _, none⟩) hsz).trans (hf i)
      clear hb1 hr1 hC1 q0 q1 q2
      go_wp2_with fail
      go_roundw
      case rel =>
        have HS := (HO.out.below HB1.out).store (t := T k) hlt (Nat.le_refl _) (Nat.le_refl _) HB1.out.size (Nat.le_refl _) (Nat.le_refl _) (Nat.le_refl _) HR1.out
        rw [pref_upf, Nat.zero_add] at HS
        refine ⟨k + 1, hlt, by go_num, setNd_below (t := T k) (o := k * 3) (ak := some ⟨B, 0, none⟩) (ck := (T k).kn) (ad := some ⟨B', 0, none⟩) (cd := (T k).dn) (below_then HB.out HB1.out) (Nat.le_refl _), ?_⟩
        have es : (setNd w1 w.heap.size (k * 3) (T k) (some ⟨B, 0, none⟩) (T k).kn (some ⟨B', 0, none⟩) (T k).dn).heap.size = w1.heap.size := setNd_size
        rw [← es] at HS
        exact HS
      case measure => simp [intOf]; omega
    · have hkn : k = n := by omega
      have HT : Hid (OwnNd wr w.heap.size wr.heap.size (some ⟨w.heap.size, 0, none⟩) n T) := by
        refine HO.out.congr fun i hi => pref_lt _ _ (by omega)
      have hnl : ¬ ((k : Int) < (n : Int)) := by omega
      go_wp2_with fail
      go_ret
      exact ⟨rfl, HB.out, HT.out⟩
end Go.Proofs.Ytbnehgpefjbheaa
