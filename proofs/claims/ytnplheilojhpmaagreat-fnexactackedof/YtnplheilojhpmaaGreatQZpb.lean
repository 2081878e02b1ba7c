/- Pages in sets of blocks of their own: marked, held; what is kept where other blocks are written. -/
import Derived.Test.YtnplheilojhpmaaGreatQZpa
import Derived.Test.YtnplheilojhpmaaGreatQLi
import Derived.Test.YtnplheilojhpmaaGreatQDm
namespace Go.Proofs.YtnplheilojhpmaaGreat
open Go.ChangeShapes Go.WideShapes Go.ChangeAt Go.RowKit Go.Deep Go.Joins
set_option linter.unusedVariables false
set_option maxRecDepth 20000

/-- Only blocks of the set P are written, and new ones. -/
structure WritesP (P : Nat → Prop) (w w' : World) : Prop where
  os : w'.os = w.os
  tape : w'.tape = w.tape
  output : w'.output = w.output
  size : w.heap.size ≤ w'.heap.size
  block : ∀ k, k < w.heap.size → ¬ P k → w'.heap[k]? = w.heap[k]?
theorem WritesP.refl (P : Nat → Prop) (w : World) : WritesP P w w := ⟨rfl, rfl, rfl, Nat.le_refl _, fun _ _ _ => rfl⟩
theorem WritesP.trans {P : Nat → Prop} {a b c : World} (h : WritesP P a b) (k : WritesP P b c) : WritesP P a c :=
  ⟨k.os.trans h.os, k.tape.trans h.tape, k.output.trans h.output, Nat.le_trans h.size k.size, fun q hq hn => (k.block q (Nat.lt_of_lt_of_le hq h.size) hn).trans (h.block q hq hn)⟩
theorem WritesP.of {P : Nat → Prop} {lo hi : Nat} {w w' : World} (h : Writes lo hi w w') (hp : ∀ x, lo ≤ x → x < hi → P x) : WritesP P w w' :=
  ⟨h.os, h.tape, h.output, h.size, fun q hq hn => h.block q hq (by
    by_cases c : q < lo
    · exact .inl c
    · by_cases d : hi ≤ q
      · exact .inr d
      · exact absurd (hp q (by omega) (by omega)) hn)⟩
theorem WritesP.to {P : Nat → Prop} {lo hi : Nat} {w w' : World} (h : WritesP P w w') (hp : ∀ x, P x → lo ≤ x ∧ x < hi) : Writes lo hi w w' :=
  ⟨h.os, h.tape, h.output, h.size, fun q hq hn => h.block q hq fun c => by have := hp q c; omega⟩
theorem WritesP.below {P : Nat → Prop} {w w' : World} (h : Below w.heap.size w w') : WritesP P w w' :=
  WritesP.of (Writes.of_below (lo := w.heap.size) (hi := w.heap.size) h) fun x h1 h2 => by omega
/-! ### what is kept -/
theorem Own.keep {w w' : World} {lo hi : Nat} {a : Option Addr} {n : Nat} {K V : Nat → Int} (h : Own w lo hi a n K V) (hs : w.heap.size ≤ w'.heap.size) (hk : ∀ x, lo ≤ x → x < hi → x < w.heap.size → w'.heap[x]? = w.heap[x]?) : Own w' lo hi a n K V := by
  obtain ⟨h0, h1 | ⟨b, off, ha, h2, hl, hk', hv, hf, hg⟩⟩ := h
  · exact ⟨Nat.le_trans h0 hs, .inl h1⟩
  · have hb := hk b h2 hl (by omega)
    exact ⟨Nat.le_trans h0 hs, .inr ⟨b, off, ha, h2, hl, fun i hi => (World.cell?_of_block (w := w) (a := ⟨b, _, none⟩) hb).trans (hk' i hi), fun i hi => (World.cell?_of_block (w := w) (a := ⟨b, _, none⟩) hb).trans (hv i hi),
      fun i hi => (World.frozen?_of_block (w := w) (a := ⟨b, _, none⟩) hb).trans (hf i hi), fun i hi => (World.frozen?_of_block (w := w) (a := ⟨b, _, none⟩) hb).trans (hg i hi)⟩⟩
theorem OwnI.keep {w w' : World} {lo hi : Nat} {a : Option Addr} {n : Nat} {z : Nat → Int} (h : OwnI w lo hi a n z) (hs : w.heap.size ≤ w'.heap.size) (hk : ∀ x, lo ≤ x → x < hi → x < w.heap.size → w'.heap[x]? = w.heap[x]?) : OwnI w' lo hi a n z := by
  obtain ⟨h0, h1 | ⟨g, off, ha, h2, hl, hc, hf⟩⟩ := h
  · exact ⟨Nat.le_trans h0 hs, .inl h1⟩
  · have hb := hk g h2 hl (by omega)
    exact ⟨Nat.le_trans h0 hs, .inr ⟨g, off, ha, h2, hl, fun i hi => (World.cell?_of_block (w := w) (a := ⟨g, _, none⟩) hb).trans (hc i hi), fun i hi => (World.frozen?_of_block (w := w) (a := ⟨g, _, none⟩) hb).trans (hf i hi)⟩⟩
theorem OwnB.keep {w w' : World} {lo hi : Nat} {a : Option Addr} {n : Nat} {z : Nat → Int} (h : OwnB w lo hi a n z) (hs : w.heap.size ≤ w'.heap.size) (hk : ∀ x, lo ≤ x → x < hi → x < w.heap.size → w'.heap[x]? = w.heap[x]?) : OwnB w' lo hi a n z := by
  obtain ⟨h0, h1 | ⟨g, off, ha, h2, hl, hc, hf⟩⟩ := h
  · exact ⟨Nat.le_trans h0 hs, .inl h1⟩
  · have hb := hk g h2 hl (by omega)
    exact ⟨Nat.le_trans h0 hs, .inr ⟨g, off, ha, h2, hl, fun i hi => (World.cell?_of_block (w := w) (a := ⟨g, _, none⟩) hb).trans (hc i hi), fun i hi => (World.frozen?_of_block (w := w) (a := ⟨g, _, none⟩) hb).trans (hf i hi)⟩⟩
theorem OwnG.keep {w w' : World} {lo hi : Nat} {a1 a2 : Option Addr} {L : Lo} (h : OwnG w lo hi a1 a2 L) (hs : w.heap.size ≤ w'.heap.size) (hk : ∀ x, lo ≤ x → x < hi → x < w.heap.size → w'.heap[x]? = w.heap[x]?) : OwnG w' lo hi a1 a2 L := by
  obtain ⟨h0, l1, h1, l2, h2, k1, k2, k3, k4, k5, hp, hl⟩ := h
  exact ⟨Nat.le_trans h0 hs, l1, h1, l2, h2, k1, k2, k3, k4, k5, hp.keep hs fun x x1 x2 x3 => hk x (by omega) (by omega) x3, hl.keep hs fun x x1 x2 x3 => hk x (by omega) (by omega) x3⟩
theorem OwnP.keep {w w' : World} {lo hi : Nat} {a : Option Addr} {n : Nat} {L : Nat → Nat} {Z : Nat → Nat → Int} (h : OwnP w lo hi a n L Z) (hs : w.heap.size ≤ w'.heap.size) (hk : ∀ x, lo ≤ x → x < hi → x < w.heap.size → w'.heap[x]? = w.heap[x]?) : OwnP w' lo hi a n L Z := by
  obtain ⟨h0, h1 | ⟨b, off, ha, hlo, hl, g, o, c, hj, hc⟩⟩ := h
  · exact ⟨Nat.le_trans h0 hs, .inl h1⟩
  · have e := hk b hlo hl (by omega)
    refine ⟨Nat.le_trans h0 hs, .inr ⟨b, off, ha, hlo, hl, g, o, c, hj, fun i hi => ?_⟩⟩
    obtain ⟨k0, k1, k2, k3, k4, k5⟩ := hc i hi
    exact ⟨k0, k1, k2, (World.cell?_of_block (w := w) (a := ⟨b, _, none⟩) e).trans k3, k4.block (hk _ k1 k2 (by omega)), k5⟩
theorem OwnL.keep {w w' : World} {lo hi : Nat} {a : Option Addr} {n : Nat} {P T : Nat → Int} {L : Nat → Nat} {Z : Nat → Nat → Int} (h : OwnL w lo hi a n P T L Z) (hs : w.heap.size ≤ w'.heap.size) (hk : ∀ x, lo ≤ x → x < hi → x < w.heap.size → w'.heap[x]? = w.heap[x]?) : OwnL w' lo hi a n P T L Z := by
  obtain ⟨h0, h1 | ⟨b, off, ha, hlo, hl, g, o, c, hj, hc⟩⟩ := h
  · exact ⟨Nat.le_trans h0 hs, .inl h1⟩
  · have e := hk b hlo hl (by omega)
    refine ⟨Nat.le_trans h0 hs, .inr ⟨b, off, ha, hlo, hl, g, o, c, hj, fun i hi => ?_⟩⟩
    obtain ⟨k0, k1, k2, k3, k4, k5, k6, k7, k8, k9⟩ := hc i hi
    have ec : ∀ q, w'.cell? ⟨b, q, none⟩ = w.cell? ⟨b, q, none⟩ := fun q => World.cell?_of_block (w := w) (a := ⟨b, q, none⟩) e
    exact ⟨k0, k1, k2, (ec _).trans k3, (ec _).trans k4, (ec _).trans k5, (World.frozen?_of_block (w := w) (a := ⟨b, _, none⟩) e).trans k6, (World.frozen?_of_block (w := w) (a := ⟨b, _, none⟩) e).trans k7, k8.block (hk _ k1 k2 (by omega)), k9⟩
theorem OwnD.keep {w w' : World} {lo hi : Nat} {a a' : Option Addr} {D : Dk} (h : OwnD w lo hi a a' D) (hs : w.heap.size ≤ w'.heap.size) (hk : ∀ x, lo ≤ x → x < hi → x < w.heap.size → w'.heap[x]? = w.heap[x]?) : OwnD w' lo hi a a' D := by
  obtain ⟨h0, l1, h1, l2, h2, k1, k2, k3, k4, k5, hp, hl⟩ := h
  exact ⟨Nat.le_trans h0 hs, l1, h1, l2, h2, k1, k2, k3, k4, k5, hp.keep hs fun x x1 x2 x3 => hk x (by omega) (by omega) x3, hl.keep hs fun x x1 x2 x3 => hk x (by omega) (by omega) x3⟩
/-! ### pages in sets of blocks -/
def hdPg (w : World) (b o : Nat) (t : Pg) : World := (w.setCell ⟨b, o, none⟩ (.int .i64 t.id)).setCell ⟨b, o + 1, none⟩ (.int .i64 t.lsn)
theorem hdPg_size {w : World} {b o : Nat} {t : Pg} : (hdPg w b o t).heap.size = w.heap.size := by simp [hdPg, World.setCell]
theorem hdPg_far {w : World} {b o o' : Nat} {t : Pg} (h : o' < o ∨ o + 1 < o') : (hdPg w b o t).cell? ⟨b, o', none⟩ = w.cell? ⟨b, o', none⟩ := by
  unfold hdPg
  rw [setO (by omega), setO (by omega)]
theorem hdPg_frozen {w : World} {b o : Nat} {t : Pg} {p : Addr} : (hdPg w b o t).frozen? p = w.frozen? p := by
  unfold hdPg
  rw [World.frozen?_setCell, World.frozen?_setCell]
theorem hdPg_same {w : World} {b o : Nat} {t t0 : Pg} {ai : Option Addr} {ci : Nat} (h : CPg w b o t0 ai ci) (hn : t.cn = t0.cn) : CPg (hdPg w b o t) b o t ai ci := by
  obtain ⟨h0, h1, h2⟩ := h
  refine ⟨?_, ?_, ?_⟩
  · unfold hdPg; rw [setO (by omega)]; exact setS h0
  · unfold hdPg; exact setS (by rw [setO (by omega)]; exact h1)
  · rw [hn, hdPg_far (by omega)]; exact h2
theorem hdPg_writes {lo hi : Nat} {w wr : World} {b o : Nat} {t : Pg} (h : Writes lo hi w wr) (h1 : lo ≤ b) (h2 : b < hi) : Writes lo hi w (hdPg wr b o t) := by
  unfold hdPg
  exact (h.setCell (p := ⟨b, _, none⟩) h1 h2 _).setCell (p := ⟨b, _, none⟩) h1 h2 _
/-- Pages in blocks of their own, all of the set P. -/
def OwnPgP (w : World) (P : Nat → Prop) (a : Option Addr) (n : Nat) (T : Nat → Pg) : Prop :=
  n = 0 ∨ ∃ b off, a = some ⟨b, off, none⟩ ∧ P b ∧ b < w.heap.size ∧ (∀ i, w.frozen? ⟨b, i, none⟩ = false) ∧ ∃ l h : Nat → Nat, (∀ i j, i < n → j < n → i ≠ j → h i ≤ l j ∨ h j ≤ l i) ∧
    ∀ i, i < n → (b < l i ∨ h i ≤ b) ∧ (∀ x, l i ≤ x → x < h i → P x) ∧ ∃ ai ci, CPg w b (off + i * 3) (T i) ai ci ∧ (T i).cn ≤ ci ∧ Own w (l i) (h i) ai (T i).cn (T i).cK (T i).cV
theorem OwnPgP.at {w : World} {P : Nat → Prop} {a : Option Addr} {n : Nat} {T : Nat → Pg} (h : OwnPgP w P a n T) : PgsAt w a n T := by
  obtain h1 | ⟨b, off, ha, _, hl, _, l, h, _, hc⟩ := h
  · exact .inl h1
  · refine .inr ⟨b, off, ha, hl, fun i hi => ?_⟩
    obtain ⟨_, _, ai, ci, k1, k2, k3⟩ := hc i hi
    exact ⟨ai, ci, k1, ⟨k3.at, trivial⟩, k2⟩
theorem OwnPgP.keep {w w' : World} {P : Nat → Prop} {a : Option Addr} {n : Nat} {T : Nat → Pg} (h : OwnPgP w P a n T) (hs : w.heap.size ≤ w'.heap.size) (hk : ∀ x, P x → x < w.heap.size → w'.heap[x]? = w.heap[x]?) : OwnPgP w' P a n T := by
  obtain h1 | ⟨b, off, ha, hp, hl, hf, l, h, hj, hc⟩ := h
  · exact .inl h1
  · have e := hk b hp hl
    refine .inr ⟨b, off, ha, hp, Nat.lt_of_lt_of_le hl hs, fun i => (World.frozen?_of_block (w := w) (a := ⟨b, i, none⟩) e).trans (hf i), l, h, hj, fun i hi => ?_⟩
    obtain ⟨k0, k1, ai, ci, k2, k3, k4⟩ := hc i hi
    exact ⟨k0, k1, ai, ci, k2.block e, k3, k4.keep hs fun x h1 h2 h3 => hk x (k1 x h1 h2) h3⟩
theorem OwnPgP.mono {w : World} {P P' : Nat → Prop} {a : Option Addr} {n : Nat} {T : Nat → Pg} (h : OwnPgP w P a n T) (hp : ∀ x, P x → P' x) : OwnPgP w P' a n T := by
  obtain h1 | ⟨b, off, ha, h2, hl, hf, l, h, hj, hc⟩ := h
  · exact .inl h1
  · refine .inr ⟨b, off, ha, hp _ h2, hl, hf, l, h, hj, fun i hi => ?_⟩
    obtain ⟨k0, k1, r⟩ := hc i hi
    exact ⟨k0, fun x x1 x2 => hp x (k1 x x1 x2), r⟩
theorem OwnPgP.congr {w : World} {P : Nat → Prop} {a : Option Addr} {n : Nat} {T T' : Nat → Pg} (h : OwnPgP w P a n T) (e : ∀ i, i < n → T i = T' i) : OwnPgP w P a n T' := by
  obtain h1 | ⟨b, off, ha, h2, hl, hf, l, h, hj, hc⟩ := h
  · exact .inl h1
  · exact .inr ⟨b, off, ha, h2, hl, hf, l, h, hj, fun i hi => by rw [← e i hi]; exact hc i hi⟩
theorem OwnPg.toP {w : World} {lo hi : Nat} {a : Option Addr} {n : Nat} {T : Nat → Pg} (h : OwnPg w lo hi a n T) : OwnPgP w (fun x => lo ≤ x ∧ x < hi) a n T := by
  obtain ⟨h0, h1 | ⟨b, off, ha, hlo, hl, hf, l, h, hj, hc⟩⟩ := h
  · exact .inl h1
  · refine .inr ⟨b, off, ha, ⟨hlo, hl⟩, by omega, hf, l, h, hj, fun i hi => ?_⟩
    obtain ⟨k0, k1, ai, ci, k2, k3, m0, m1, g0, g1, g2, gz, k4⟩ := hc i hi
    exact ⟨k0, fun x x1 x2 => by omega, ai, ci, k2, k3, k4.wide g0 g2 (by omega)⟩
theorem OwnPgP.pick {w : World} {P : Nat → Prop} {a : Option Addr} {n : Nat} {T : Nat → Pg} (h : OwnPgP w P a n T) {j : Nat} (hj : j < n) :
    ∃ b off ai ci l h, a = some ⟨b, off, none⟩ ∧ P b ∧ b < w.heap.size ∧ (∀ i, w.frozen? ⟨b, i, none⟩ = false) ∧ CPg w b (off + j * 3) (T j) ai ci ∧ (T j).cn ≤ ci ∧ (b < l ∨ h ≤ b) ∧ (∀ x, l ≤ x → x < h → P x) ∧ Own w l h ai (T j).cn (T j).cK (T j).cV ∧
      ∀ t w1, t.cn = (T j).cn → Writes l h (hdPg w b (off + j * 3) t) w1 → Own w1 l h ai t.cn t.cK t.cV → OwnPgP w1 P a n (upf9 T j t) := by
  obtain h1 | ⟨b, off, ha, hlo, hl, hf, l, h, hd, hc⟩ := h
  · omega
  obtain ⟨k0, k1, ai, ci, k2, k3, k4⟩ := hc j hj
  refine ⟨b, off, ai, ci, l j, h j, ha, hlo, hl, hf, k2, k3, k0, k1, k4, fun t w1 hn hw hr => ?_⟩
  have hsz : w.heap.size ≤ w1.heap.size := by have := hw.size; rw [hdPg_size] at this; exact this
  have eb : w1.heap[b]? = (hdPg w b (off + j * 3) t).heap[b]? := hw.block b (by rw [hdPg_size]; omega) (by omega)
  have cb : ∀ q, w1.cell? ⟨b, q, none⟩ = (hdPg w b (off + j * 3) t).cell? ⟨b, q, none⟩ := fun q => World.cell?_of_block (w := hdPg w b (off + j * 3) t) (a := ⟨b, q, none⟩) eb
  refine .inr ⟨b, off, ha, hlo, Nat.lt_of_lt_of_le hl hsz, fun i => ?_, l, h, hd, fun i hi => ?_⟩
  · rw [World.frozen?_of_block (w := hdPg w b (off + j * 3) t) (a := ⟨b, i, none⟩) eb, hdPg_frozen]; exact hf i
  · obtain ⟨m0, m1, ai', ci', m2, m3, m4⟩ := hc i hi
    by_cases e : i = j
    · subst e
      rw [upf9_eq]
      exact ⟨m0, m1, ai, ci, (hdPg_same k2 hn).block eb, by rw [hn]; exact k3, hr⟩
    · rw [upf9_ne _ _ e]
      refine ⟨m0, m1, ai', ci', ?_, m3, ?_⟩
      · have g : ∀ q, q < 3 → w1.cell? ⟨b, off + i * 3 + q, none⟩ = w.cell? ⟨b, off + i * 3 + q, none⟩ := fun q hq => (cb _).trans (hdPg_far (by omega))
        obtain ⟨h0, h1, h2⟩ := m2
        exact ⟨(g 0 (by omega)).trans h0, (g 1 (by omega)).trans h1, (g 2 (by omega)).trans h2⟩
      · have hdd := hd i j hi hj e
        have m5 := m4.writes (w' := hdPg w b (off + j * 3) t) (lo' := b) (hi' := b + 1) (hdPg_writes (Writes.refl _ _ _) (Nat.le_refl _) (Nat.lt_succ_self _)) (by omega)
        exact m5.writes hw (by omega)
def sPg (T : Nat → Pg) (i : Nat) : Nat := smf9 (fun i => (T i).cn * 2 + 2) i
theorem sPg_eq (T : Nat → Pg) (i : Nat) : sPg T i = smPg T i * 2 + i * 2 := smf9_add _ _ _ _
def mPg (m : Int) (T : Nat → Pg) (i : Nat) : Pg := ⟨m + sPg T i, m + sPg T i + 1, (T i).cn, mK (m + sPg T i + 2), mK (m + sPg T i + 2 + 1)⟩
set_option maxHeartbeats 2000000 in
theorem markPageS_P (n : Nat) (T : Nat → Pg) (a : Option Addr) (cap : Nat) (P : Nat → Prop) (m : Int) (w : World) (hn : n ≤ 1048576) (hs : smPg T n ≤ 1048576) (hm1 : 0 ≤ m) (hm2 : m ≤ 16777216) (h : OwnPgP w P a n T) :
    Calls Tryz.prog 35 #[.slice a n cap, .int .i64 m] w fun e w' => e = .returned (.int .i64 (m + sPg T n)) ∧ WritesP P w w' ∧ OwnPgP w' P a n (mPg m T) := by
  have HO : Hid (OwnPgP w P a n T) := h
  clear h
  go_enter Tryz.func35, Tryz.ntmps35
  go_wp2
  go_loopw [1, 5] (fun q i wr => ∃ k : Nat, k ≤ n ∧ i = .int .i64 k ∧ q = .int .i64 (m + sPg T k) ∧ Hid (WritesP P w wr) ∧ Hid (OwnPgP wr P a n (pref9 (mPg m T) T k))) (fun _ i _ => n - (intOf i).toNat)
  case atStart => exact ⟨0, Nat.zero_le _, rfl, by simp [sPg, smf9], WritesP.refl _ _, by rw [pref9_zero]; exact HO⟩
  case round =>
    obtain ⟨k, hk0, rfl, rfl, HB, HP⟩ := hrel
    by_cases hlt : k < n
    · obtain ⟨b, off, ai, ci, l, h, rfl, hb1, hb2, hf, hC, hci, hbd, hr, hO, hU⟩ := HP.out.pick hlt
      rw [pref9_at] at hC hci hO hU
      have hLk := smf9_ge (fun i => szPg (T i)) n k hlt
      have hsk := smf9_le (fun i => szPg (T i)) (n := n) (i := k) (by omega)
      have hstep : (sPg T (k + 1) : Int) = sPg T k + (T k).cn * 2 + 2 := by simp [sPg, smf9]; omega
      have hbS : sPg T k = smPg T k * 2 + k * 2 := sPg_eq T k
      have HM : Hid (mPg m T k = ⟨m + sPg T k, m + sPg T k + 1, (T k).cn, mK (m + sPg T k + 2), mK (m + sPg T k + 2 + 1)⟩) := rfl
      have hSb : (sPg T k : Int) ≤ 4194304 := by unfold smPg szPg at *; omega
      have hS0 : 0 ≤ (sPg T k : Int) := by omega
      have hTk : (T k).cn ≤ 1048576 := by unfold smPg szPg at *; omega
      generalize hS : (sPg T k : Int) = S at *
      have HU : Hid (∀ t w1, t.cn = (T k).cn → Writes l h (hdPg wr b (off + k * 3) t) w1 → Own w1 l h ai t.cn t.cK t.cV → OwnPgP w1 P (some ⟨b, off, none⟩) n (upf9 (pref9 (mPg m T) T k) k t)) := hU
      have HO2 : Hid (Own (hdPg wr b (off + k * 3) ⟨m + S, m + S + 1, (T k).cn, mK (m + S + 2), mK (m + S + 2 + 1)⟩) l h ai (T k).cn (T k).cK (T k).cV) := hO.writes (hdPg_writes (Writes.refl _ _ _) (Nat.le_refl _) (Nat.lt_succ_self _)) (by omega)
      have HG : Hid (P b ∧ ∀ x, l ≤ x → x < h → P x) := ⟨hb1, hr⟩
      obtain ⟨q0, q1, q2⟩ := hC
      have g1 : IntKind.i64.wrap (m + S + 1) = m + S + 1 := by rw [IntKind.wrap_i64]; omega
      have g2 : IntKind.i64.wrap (m + S + 1 + 1) = m + S + 2 := by rw [IntKind.wrap_i64]; omega
      clear HP hO hU hb1 hb2 hbd hr hbS hS hLk hsk
      go_wp2_with fail
      refine (markCellS_any (T k).cn (T k).cK (T k).cV ai ci l h (m + S + 2) _ (by omega) (by omega) (by omega) HO2.out).mono ?_
      rintro e w1 ⟨rfl, hw, hr⟩
      have HW : Hid (Writes l h (hdPg wr b (off + k * 3) ⟨m + S, m + S + 1, (T k).cn, mK (m + S + 2), mK (m + S + 2 + 1)⟩) w1) := hw
      have HR1 : Hid (Own w1 l h ai (T k).cn (mK (m + S + 2)) (mK (m + S + 2 + 1))) := hr
      clear hw hr
      go_wp2_with fail
      go_roundw
      case rel =>
        have H := HU.out ⟨m + S, m + S + 1, (T k).cn, mK (m + S + 2), mK (m + S + 2 + 1)⟩ w1 rfl HW.out HR1.out
        rw [← HM.out, pref9_upf] at H
        obtain ⟨g1, g2⟩ := HG.out
        have HB2 : WritesP P wr (hdPg wr b (off + k * 3) ⟨m + S, m + S + 1, (T k).cn, mK (m + S + 2), mK (m + S + 2 + 1)⟩) := WritesP.of (hdPg_writes (Writes.refl _ _ _) (Nat.le_refl b) (Nat.lt_succ_self b)) fun x x1 x2 => (show x = b by omega) ▸ g1
        exact ⟨k + 1, hlt, by go_num, by rw [hstep]; go_num, HB.out.trans (HB2.trans (WritesP.of HW.out g2)), H⟩
      case measure => simp [intOf]; omega
    · have hkn : k = n := by omega
      have HO2 : Hid (OwnPgP wr P a n (mPg m T)) := HP.out.congr fun i hi => pref9_lt _ _ (by omega)
      have hnl : ¬ ((k : Int) < (n : Int)) := by omega
      go_wp2_with fail
      go_ret
      exact ⟨ret_int (by first | rfl | rw [hkn]), HB.out, HO2.out⟩
end Go.Proofs.YtnplheilojhpmaaGreat
