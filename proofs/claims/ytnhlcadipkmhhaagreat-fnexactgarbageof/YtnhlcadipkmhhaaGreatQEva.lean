/- Engines in two sets of blocks of their own: marked. -/
import Derived.Test.YtnhlcadipkmhhaaGreatQEe
namespace Go.Proofs.YtnhlcadipkmhhaaGreat
open Go.ChangeShapes Go.WideShapes Go.ChangeAt Go.RowKit Go.Deep Go.Joins
set_option linter.unusedVariables false
set_option maxRecDepth 20000

/-- Only blocks of the set P are written, and new ones. -/
structure WritesP (P : Nat → Prop) (w w' : World) : Prop where
  os : w'.os = w.os
  tape : w'.tape = w.tape
  output : w'.output = w.output
  size : w.heap.size ≤ w'.heap.size
  block : ∀ k, k < w.heap.size → ¬ P k → w'.heap[k]? = w.heap[k]?
theorem WritesP.refl (P : Nat → Prop) (w : World) : WritesP P w w := ⟨rfl, rfl, rfl, Nat.le_refl _, fun _ _ _ => rfl⟩
theorem WritesP.trans {P : Nat → Prop} {a b c : World} (h : WritesP P a b) (k : WritesP P b c) : WritesP P a c :=
  ⟨k.os.trans h.os, k.tape.trans h.tape, k.output.trans h.output, Nat.le_trans h.size k.size, fun q hq hn => (k.block q (Nat.lt_of_lt_of_le hq h.size) hn).trans (h.block q hq hn)⟩
theorem WritesP.of {P : Nat → Prop} {lo hi : Nat} {w w' : World} (h : Writes lo hi w w') (hp : ∀ x, lo ≤ x → x < hi → P x) : WritesP P w w' :=
  ⟨h.os, h.tape, h.output, h.size, fun q hq hn => h.block q hq (by
    by_cases c : q < lo
    · exact .inl c
    · by_cases d : hi ≤ q
      · exact .inr d
      · exact absurd (hp q (by omega) (by omega)) hn)⟩
theorem WritesP.to {P : Nat → Prop} {lo hi : Nat} {w w' : World} (h : WritesP P w w') (hp : ∀ x, P x → lo ≤ x ∧ x < hi) : Writes lo hi w w' :=
  ⟨h.os, h.tape, h.output, h.size, fun q hq hn => h.block q hq fun c => by have := hp q c; omega⟩
theorem WritesP.below {P : Nat → Prop} {w w' : World} (h : Below w.heap.size w w') : WritesP P w w' :=
  WritesP.of (Writes.of_below (lo := w.heap.size) (hi := w.heap.size) h) fun x h1 h2 => by omega
/-- Txns in blocks of their own, all of the set P. -/
def OwnTxP (w : World) (P : Nat → Prop) (a : Option Addr) (n : Nat) (T : Nat → Tx) : Prop :=
  n = 0 ∨ ∃ b off, a = some ⟨b, off, none⟩ ∧ P b ∧ b < w.heap.size ∧ (∀ i, w.frozen? ⟨b, i, none⟩ = false) ∧ ∃ l h : Nat → Nat, (∀ i j, i < n → j < n → i ≠ j → h i ≤ l j ∨ h j ≤ l i) ∧
    ∀ i, i < n → (b < l i ∨ h i ≤ b) ∧ (∀ x, l i ≤ x → x < h i → P x) ∧ ∃ ai ci, CTx w b (off + i * 5) (T i) ai ci ∧ (T i).n ≤ ci ∧ OwnU w (l i) (h i) ai (T i).n (T i).U
theorem OwnTxP.at {w : World} {P : Nat → Prop} {a : Option Addr} {n : Nat} {T : Nat → Tx} (h : OwnTxP w P a n T) : TxsAt w a n T := by
  obtain h1 | ⟨b, off, ha, _, hl, _, l, h, _, hc⟩ := h
  · exact .inl h1
  · refine .inr ⟨b, off, ha, hl, fun i hi => ?_⟩
    obtain ⟨_, _, ai, ci, k1, k2, k3⟩ := hc i hi
    exact ⟨ai, ci, k1, k3.at, k2⟩
theorem OwnU_keepTx {w w' : World} {l h : Nat} {a : Option Addr} {n : Nat} {U : Nat → Ud} (h0 : OwnU w l h a n U) (hs : w.heap.size ≤ w'.heap.size) (hk : ∀ x, l ≤ x → x < h → x < w.heap.size → w'.heap[x]? = w.heap[x]?) : OwnU w' l h a n U := by
  obtain ⟨o0, o1 | ⟨b, off, rfl, p1, p2, p3⟩⟩ := h0
  · exact ⟨by omega, .inl o1⟩
  · have e := hk b p1 p2 (by omega)
    exact ⟨by omega, .inr ⟨b, off, rfl, p1, p2, rowU_block p3 e⟩⟩
theorem OwnTxP.keep {w w' : World} {P : Nat → Prop} {a : Option Addr} {n : Nat} {T : Nat → Tx} (h : OwnTxP w P a n T) (hs : w.heap.size ≤ w'.heap.size) (hk : ∀ x, P x → x < w.heap.size → w'.heap[x]? = w.heap[x]?) : OwnTxP w' P a n T := by
  obtain h1 | ⟨b, off, ha, hp, hl, hf, l, h, hj, hc⟩ := h
  · exact .inl h1
  · have e := hk b hp hl
    refine .inr ⟨b, off, ha, hp, Nat.lt_of_lt_of_le hl hs, fun i => (World.frozen?_of_block (w := w) (a := ⟨b, i, none⟩) e).trans (hf i), l, h, hj, fun i hi => ?_⟩
    obtain ⟨k0, k1, ai, ci, k2, k3, k4⟩ := hc i hi
    exact ⟨k0, k1, ai, ci, k2.block e, k3, OwnU_keepTx k4 hs fun x h1 h2 h3 => hk x (k1 x h1 h2) h3⟩
theorem OwnTxP.mono {w : World} {P P' : Nat → Prop} {a : Option Addr} {n : Nat} {T : Nat → Tx} (h : OwnTxP w P a n T) (hp : ∀ x, P x → P' x) : OwnTxP w P' a n T := by
  obtain h1 | ⟨b, off, ha, h2, hl, hf, l, h, hj, hc⟩ := h
  · exact .inl h1
  · refine .inr ⟨b, off, ha, hp _ h2, hl, hf, l, h, hj, fun i hi => ?_⟩
    obtain ⟨k0, k1, r⟩ := hc i hi
    exact ⟨k0, fun x x1 x2 => hp x (k1 x x1 x2), r⟩
theorem OwnTxP.congr {w : World} {P : Nat → Prop} {a : Option Addr} {n : Nat} {T T' : Nat → Tx} (h : OwnTxP w P a n T) (e : ∀ i, i < n → T i = T' i) : OwnTxP w P a n T' := by
  obtain h1 | ⟨b, off, ha, h2, hl, hf, l, h, hj, hc⟩ := h
  · exact .inl h1
  · exact .inr ⟨b, off, ha, h2, hl, hf, l, h, hj, fun i hi => by rw [← e i hi]; exact hc i hi⟩
theorem OwnTx.toP {w : World} {lo hi : Nat} {a : Option Addr} {n : Nat} {T : Nat → Tx} (h : OwnTx w lo hi a n T) : OwnTxP w (fun x => lo ≤ x ∧ x < hi) a n T := by
  obtain ⟨h0, h1 | ⟨b, off, ha, hlo, hl, hf, l, h, hj, hc⟩⟩ := h
  · exact .inl h1
  · refine .inr ⟨b, off, ha, ⟨hlo, hl⟩, by omega, hf, l, h, hj, fun i hi => ?_⟩
    obtain ⟨k0, k1, r⟩ := hc i hi
    exact ⟨k0, fun x x1 x2 => by omega, r⟩
theorem OwnTxP.pick {w : World} {P : Nat → Prop} {a : Option Addr} {n : Nat} {T : Nat → Tx} (h : OwnTxP w P a n T) {j : Nat} (hj : j < n) :
    ∃ b off ai ci l h, a = some ⟨b, off, none⟩ ∧ P b ∧ b < w.heap.size ∧ (∀ i, w.frozen? ⟨b, i, none⟩ = false) ∧ CTx w b (off + j * 5) (T j) ai ci ∧ (T j).n ≤ ci ∧ (b < l ∨ h ≤ b) ∧ (∀ x, l ≤ x → x < h → P x) ∧ OwnU w l h ai (T j).n (T j).U ∧
      ∀ t w1, t.n = (T j).n → Writes l h (hdTx w b (off + j * 5) t) w1 → OwnU w1 l h ai t.n t.U → OwnTxP w1 P a n (upf T j t) := by
  obtain h1 | ⟨b, off, ha, hlo, hl, hf, l, h, hd, hc⟩ := h
  · omega
  obtain ⟨k0, k1, ai, ci, k2, k3, k4⟩ := hc j hj
  refine ⟨b, off, ai, ci, l j, h j, ha, hlo, hl, hf, k2, k3, k0, k1, k4, fun t w1 hn hw hr => ?_⟩
  have hsz : w.heap.size ≤ w1.heap.size := by have := hw.size; rw [hdTx_size] at this; exact this
  have eb : w1.heap[b]? = (hdTx w b (off + j * 5) t).heap[b]? := hw.block b (by rw [hdTx_size]; omega) (by omega)
  have cb : ∀ q, w1.cell? ⟨b, q, none⟩ = (hdTx w b (off + j * 5) t).cell? ⟨b, q, none⟩ := fun q => World.cell?_of_block (w := hdTx w b (off + j * 5) t) (a := ⟨b, q, none⟩) eb
  refine .inr ⟨b, off, ha, hlo, Nat.lt_of_lt_of_le hl hsz, fun i => ?_, l, h, hd, fun i hi => ?_⟩
  · rw [World.frozen?_of_block (w := hdTx w b (off + j * 5) t) (a := ⟨b, i, none⟩) eb, hdTx_frozen]; exact hf i
  · obtain ⟨m0, m1, ai', ci', m2, m3, m4⟩ := hc i hi
    by_cases e : i = j
    · subst e
      rw [upf_eq]
      have es : ai' = ai ∧ ci' = ci := by
        have x1 := k2.2.2.2.2
        have x2 := m2.2.2.2.2
        rw [x1] at x2
        simp only [Option.some.injEq, Value.slice.injEq] at x2
        exact ⟨x2.1.symm, x2.2.2.symm⟩
      exact ⟨m0, m1, ai, ci, (hdTx_same k2 hn).block eb, by rw [hn]; exact k3, hr⟩
    · rw [upf_ne _ _ e]
      refine ⟨m0, m1, ai', ci', ?_, m3, ?_⟩
      · have g : ∀ q, q < 5 → w1.cell? ⟨b, off + i * 5 + q, none⟩ = w.cell? ⟨b, off + i * 5 + q, none⟩ := fun q hq => (cb _).trans (hdTx_far (by omega))
        obtain ⟨h0, h1, h2, h3, h4⟩ := m2
        exact ⟨(g 0 (by omega)).trans h0, (g 1 (by omega)).trans h1, (g 2 (by omega)).trans h2, (g 3 (by omega)).trans h3, (g 4 (by omega)).trans h4⟩
      · have hdd := hd i j hi hj e
        have m5 := m4.writes (w' := hdTx w b (off + j * 5) t) (lo' := b) (hi' := b + 1) (hdTx_writes (Writes.refl _ _ _) (Nat.le_refl _) (Nat.lt_succ_self _)) (by omega)
        exact m5.writes hw (by omega)
set_option maxHeartbeats 2000000 in
theorem markTxnS_P (n : Nat) (T : Nat → Tx) (a : Option Addr) (cap : Nat) (P : Nat → Prop) (m : Int) (w : World) (hn : n ≤ 1048576) (hs : smTx T n ≤ 1048576) (hm1 : 0 ≤ m) (hm2 : m ≤ 16777216) (h : OwnTxP w P a n T) :
    Calls Tryz.prog 52 #[.slice a n cap, .int .i64 m] w fun e w' => e = .returned (.int .i64 (m + sTx T n)) ∧ WritesP P w w' ∧ OwnTxP w' P a n (mTx m T) := by
  have HO : Hid (OwnTxP w P a n T) := h
  clear h
  go_enter Tryz.func52, Tryz.ntmps52
  go_wp2
  go_loopw [1, 5] (fun q i wr => ∃ k : Nat, k ≤ n ∧ i = .int .i64 k ∧ q = .int .i64 (m + sTx T k) ∧ Hid (WritesP P w wr) ∧ Hid (OwnTxP wr P a n (pref (mTx m T) T k))) (fun _ i _ => n - (intOf i).toNat)
  case atStart => exact ⟨0, Nat.zero_le _, rfl, by simp [sTx, smf], WritesP.refl _ _, by rw [pref_zero]; exact HO⟩
  case round =>
    obtain ⟨k, hk0, rfl, rfl, HB, HP⟩ := hrel
    by_cases hlt : k < n
    · obtain ⟨b, off, ai, ci, l, h, rfl, hb1, hb2, hf, hC, hci, hbd, hr, hO, hU⟩ := HP.out.pick hlt
      rw [pref_at] at hC hci hO hU
      have hLk := smf_ge (fun i => (T i).n) n k hlt
      have hsk := smf_le (fun i => (T i).n) (n := n) (i := k) (by omega)
      have hstep : (sTx T (k + 1) : Int) = sTx T k + (T k).n * 4 + 4 := by simp [sTx, smf]; omega
      have hbS : sTx T k = smTx T k * 4 + k * 4 := sTx_eq T k
      have HM : Hid (mTx m T k = ⟨m + sTx T k, m + sTx T k + 1, m + sTx T k + 2, m + sTx T k + 3, (T k).n, mU (m + sTx T k + 4)⟩) := rfl
      have hSb : (sTx T k : Int) ≤ 8388608 := by unfold smTx at *; omega
      have hS0 : 0 ≤ (sTx T k : Int) := by omega
      have hTk : (T k).n ≤ 1048576 := by unfold smTx at *; omega
      generalize hS : (sTx T k : Int) = S at *
      have HU : Hid (∀ t w1, t.n = (T k).n → Writes l h (hdTx wr b (off + k * 5) t) w1 → OwnU w1 l h ai t.n t.U → OwnTxP w1 P (some ⟨b, off, none⟩) n (upf (pref (mTx m T) T k) k t)) := hU
      have HO2 : Hid (OwnU (hdTx wr b (off + k * 5) ⟨m + S, m + S + 1, m + S + 2, m + S + 3, (T k).n, mU (m + S + 4)⟩) l h ai (T k).n (T k).U) := hO.writes (hdTx_writes (Writes.refl _ _ _) (Nat.le_refl _) (Nat.lt_succ_self _)) (by omega)
      have HG : Hid (P b ∧ ∀ x, l ≤ x → x < h → P x) := ⟨hb1, hr⟩
      obtain ⟨q0, q1, q2, q3, q4⟩ := hC
      have g1 : IntKind.i64.wrap (m + S + 1) = m + S + 1 := by rw [IntKind.wrap_i64]; omega
      have g2 : IntKind.i64.wrap (m + S + 1 + 1) = m + S + 2 := by rw [IntKind.wrap_i64]; omega
      have g3 : IntKind.i64.wrap (m + S + 2 + 1) = m + S + 3 := by rw [IntKind.wrap_i64]; omega
      have g4 : IntKind.i64.wrap (m + S + 3 + 1) = m + S + 4 := by rw [IntKind.wrap_i64]; omega
      clear HP hO hU hb1 hb2 hbd hr hbS hS hLk hsk
      go_wp2_with fail
      refine (markUndoS_any (T k).n (T k).U ai ci l h (m + S + 4) _ (by omega) (by omega) (by omega) HO2.out).mono ?_
      rintro e w1 ⟨rfl, hw, hr⟩
      have HW : Hid (Writes l h (hdTx wr b (off + k * 5) ⟨m + S, m + S + 1, m + S + 2, m + S + 3, (T k).n, mU (m + S + 4)⟩) w1) := hw
      have HR1 : Hid (OwnU w1 l h ai (T k).n (mU (m + S + 4))) := hr
      clear hw hr
      go_wp2_with fail
      go_roundw
      case rel =>
        have H := HU.out ⟨m + S, m + S + 1, m + S + 2, m + S + 3, (T k).n, mU (m + S + 4)⟩ w1 rfl HW.out HR1.out
        rw [← HM.out, pref_upf] at H
        obtain ⟨g1, g2⟩ := HG.out
        have HB2 : WritesP P wr (hdTx wr b (off + k * 5) ⟨m + S, m + S + 1, m + S + 2, m + S + 3, (T k).n, mU (m + S + 4)⟩) := WritesP.of (hdTx_writes (Writes.refl _ _ _) (Nat.le_refl b) (Nat.lt_succ_self b)) fun x x1 x2 => (show x = b by omega) ▸ g1
        exact ⟨k + 1, hlt, by go_num, by rw [hstep]; go_num, HB.out.trans (HB2.trans (WritesP.of HW.out g2)), H⟩
      case measure => simp [intOf]; omega
    · have hkn : k = n := by omega
      have HO2 : Hid (OwnTxP wr P a n (mTx m T)) := HP.out.congr fun i hi => pref_lt _ _ (by omega)
      have hnl : ¬ ((k : Int) < (n : Int)) := by omega
      go_wp2_with fail
      go_ret
      exact ⟨ret_int (by first | rfl | rw [hkn]), HB.out, HO2.out⟩
/-- Rows in blocks of their own, all of the set P. -/
def OwnRwP (w : World) (P : Nat → Prop) (a : Option Addr) (n : Nat) (T : Nat → Rw) : Prop :=
  n = 0 ∨ ∃ b off, a = some ⟨b, off, none⟩ ∧ P b ∧ b < w.heap.size ∧ (∀ i, w.frozen? ⟨b, i, none⟩ = false) ∧ ∃ l h : Nat → Nat, (∀ i j, i < n → j < n → i ≠ j → h i ≤ l j ∨ h j ≤ l i) ∧
    ∀ i, i < n → (b < l i ∨ h i ≤ b) ∧ (∀ x, l i ≤ x → x < h i → P x) ∧ ∃ ai ci, CRw w b (off + i * 2) (T i) ai ci ∧ (T i).n ≤ ci ∧ Own4 w (l i) (h i) ai (T i).n (T i).U
theorem OwnRwP.at {w : World} {P : Nat → Prop} {a : Option Addr} {n : Nat} {T : Nat → Rw} (h : OwnRwP w P a n T) : RwsAt w a n T := by
  obtain h1 | ⟨b, off, ha, _, hl, _, l, h, _, hc⟩ := h
  · exact .inl h1
  · refine .inr ⟨b, off, ha, hl, fun i hi => ?_⟩
    obtain ⟨_, _, ai, ci, k1, k2, k3⟩ := hc i hi
    exact ⟨ai, ci, k1, k3.at, k2⟩
theorem Own4_keepRw {w w' : World} {l h : Nat} {a : Option Addr} {n : Nat} {U : Nat → Vr} (h0 : Own4 w l h a n U) (hs : w.heap.size ≤ w'.heap.size) (hk : ∀ x, l ≤ x → x < h → x < w.heap.size → w'.heap[x]? = w.heap[x]?) : Own4 w' l h a n U := by
  obtain ⟨o0, o1 | ⟨b, off, rfl, p1, p2, p3⟩⟩ := h0
  · exact ⟨by omega, .inl o1⟩
  · have e := hk b p1 p2 (by omega)
    exact ⟨by omega, .inr ⟨b, off, rfl, p1, p2, row4_block p3 e⟩⟩
theorem OwnRwP.keep {w w' : World} {P : Nat → Prop} {a : Option Addr} {n : Nat} {T : Nat → Rw} (h : OwnRwP w P a n T) (hs : w.heap.size ≤ w'.heap.size) (hk : ∀ x, P x → x < w.heap.size → w'.heap[x]? = w.heap[x]?) : OwnRwP w' P a n T := by
  obtain h1 | ⟨b, off, ha, hp, hl, hf, l, h, hj, hc⟩ := h
  · exact .inl h1
  · have e := hk b hp hl
    refine .inr ⟨b, off, ha, hp, Nat.lt_of_lt_of_le hl hs, fun i => (World.frozen?_of_block (w := w) (a := ⟨b, i, none⟩) e).trans (hf i), l, h, hj, fun i hi => ?_⟩
    obtain ⟨k0, k1, ai, ci, k2, k3, k4⟩ := hc i hi
    exact ⟨k0, k1, ai, ci, k2.block e, k3, Own4_keepRw k4 hs fun x h1 h2 h3 => hk x (k1 x h1 h2) h3⟩
theorem OwnRwP.mono {w : World} {P P' : Nat → Prop} {a : Option Addr} {n : Nat} {T : Nat → Rw} (h : OwnRwP w P a n T) (hp : ∀ x, P x → P' x) : OwnRwP w P' a n T := by
  obtain h1 | ⟨b, off, ha, h2, hl, hf, l, h, hj, hc⟩ := h
  · exact .inl h1
  · refine .inr ⟨b, off, ha, hp _ h2, hl, hf, l, h, hj, fun i hi => ?_⟩
    obtain ⟨k0, k1, r⟩ := hc i hi
    exact ⟨k0, fun x x1 x2 => hp x (k1 x x1 x2), r⟩
theorem OwnRwP.congr {w : World} {P : Nat → Prop} {a : Option Addr} {n : Nat} {T T' : Nat → Rw} (h : OwnRwP w P a n T) (e : ∀ i, i < n → T i = T' i) : OwnRwP w P a n T' := by
  obtain h1 | ⟨b, off, ha, h2, hl, hf, l, h, hj, hc⟩ := h
  · exact .inl h1
  · exact .inr ⟨b, off, ha, h2, hl, hf, l, h, hj, fun i hi => by rw [← e i hi]; exact hc i hi⟩
theorem OwnRw.toP {w : World} {lo hi : Nat} {a : Option Addr} {n : Nat} {T : Nat → Rw} (h : OwnRw w lo hi a n T) : OwnRwP w (fun x => lo ≤ x ∧ x < hi) a n T := by
  obtain ⟨h0, h1 | ⟨b, off, ha, hlo, hl, hf, l, h, hj, hc⟩⟩ := h
  · exact .inl h1
  · refine .inr ⟨b, off, ha, ⟨hlo, hl⟩, by omega, hf, l, h, hj, fun i hi => ?_⟩
    obtain ⟨k0, k1, r⟩ := hc i hi
    exact ⟨k0, fun x x1 x2 => by omega, r⟩
theorem OwnRwP.pick {w : World} {P : Nat → Prop} {a : Option Addr} {n : Nat} {T : Nat → Rw} (h : OwnRwP w P a n T) {j : Nat} (hj : j < n) :
    ∃ b off ai ci l h, a = some ⟨b, off, none⟩ ∧ P b ∧ b < w.heap.size ∧ (∀ i, w.frozen? ⟨b, i, none⟩ = false) ∧ CRw w b (off + j * 2) (T j) ai ci ∧ (T j).n ≤ ci ∧ (b < l ∨ h ≤ b) ∧ (∀ x, l ≤ x → x < h → P x) ∧ Own4 w l h ai (T j).n (T j).U ∧
      ∀ t w1, t.n = (T j).n → Writes l h (hdRw w b (off + j * 2) t) w1 → Own4 w1 l h ai t.n t.U → OwnRwP w1 P a n (upf T j t) := by
  obtain h1 | ⟨b, off, ha, hlo, hl, hf, l, h, hd, hc⟩ := h
  · omega
  obtain ⟨k0, k1, ai, ci, k2, k3, k4⟩ := hc j hj
  refine ⟨b, off, ai, ci, l j, h j, ha, hlo, hl, hf, k2, k3, k0, k1, k4, fun t w1 hn hw hr => ?_⟩
  have hsz : w.heap.size ≤ w1.heap.size := by have := hw.size; rw [hdRw_size] at this; exact this
  have eb : w1.heap[b]? = (hdRw w b (off + j * 2) t).heap[b]? := hw.block b (by rw [hdRw_size]; omega) (by omega)
  have cb : ∀ q, w1.cell? ⟨b, q, none⟩ = (hdRw w b (off + j * 2) t).cell? ⟨b, q, none⟩ := fun q => World.cell?_of_block (w := hdRw w b (off + j * 2) t) (a := ⟨b, q, none⟩) eb
  refine .inr ⟨b, off, ha, hlo, Nat.lt_of_lt_of_le hl hsz, fun i => ?_, l, h, hd, fun i hi => ?_⟩
  · rw [World.frozen?_of_block (w := hdRw w b (off + j * 2) t) (a := ⟨b, i, none⟩) eb, hdRw_frozen]; exact hf i
  · obtain ⟨m0, m1, ai', ci', m2, m3, m4⟩ := hc i hi
    by_cases e : i = j
    · subst e
      rw [upf_eq]
      have es : ai' = ai ∧ ci' = ci := by
        have x1 := k2.2
        have x2 := m2.2
        rw [x1] at x2
        simp only [Option.some.injEq, Value.slice.injEq] at x2
        exact ⟨x2.1.symm, x2.2.2.symm⟩
      exact ⟨m0, m1, ai, ci, (hdRw_same k2 hn).block eb, by rw [hn]; exact k3, hr⟩
    · rw [upf_ne _ _ e]
      refine ⟨m0, m1, ai', ci', ?_, m3, ?_⟩
      · have g : ∀ q, q < 2 → w1.cell? ⟨b, off + i * 2 + q, none⟩ = w.cell? ⟨b, off + i * 2 + q, none⟩ := fun q hq => (cb _).trans (hdRw_far (by omega))
        obtain ⟨h0, h1⟩ := m2
        exact ⟨(g 0 (by omega)).trans h0, (g 1 (by omega)).trans h1⟩
      · have hdd := hd i j hi hj e
        have m5 := m4.writes (w' := hdRw w b (off + j * 2) t) (lo' := b) (hi' := b + 1) (hdRw_writes (Writes.refl _ _ _) (Nat.le_refl _) (Nat.lt_succ_self _)) (by omega)
        exact m5.writes hw (by omega)
set_option maxHeartbeats 2000000 in
theorem markRowS_P (n : Nat) (T : Nat → Rw) (a : Option Addr) (cap : Nat) (P : Nat → Prop) (m : Int) (w : World) (hn : n ≤ 1048576) (hs : smRw T n ≤ 1048576) (hm1 : 0 ≤ m) (hm2 : m ≤ 16777216) (h : OwnRwP w P a n T) :
    Calls Tryz.prog 53 #[.slice a n cap, .int .i64 m] w fun e w' => e = .returned (.int .i64 (m + sRw T n)) ∧ WritesP P w w' ∧ OwnRwP w' P a n (mRw m T) := by
  have HO : Hid (OwnRwP w P a n T) := h
  clear h
  go_enter Tryz.func53, Tryz.ntmps53
  go_wp2
  go_loopw [1, 5] (fun q i wr => ∃ k : Nat, k ≤ n ∧ i = .int .i64 k ∧ q = .int .i64 (m + sRw T k) ∧ Hid (WritesP P w wr) ∧ Hid (OwnRwP wr P a n (pref (mRw m T) T k))) (fun _ i _ => n - (intOf i).toNat)
  case atStart => exact ⟨0, Nat.zero_le _, rfl, by simp [sRw, smf], WritesP.refl _ _, by rw [pref_zero]; exact HO⟩
  case round =>
    obtain ⟨k, hk0, rfl, rfl, HB, HP⟩ := hrel
    by_cases hlt : k < n
    · obtain ⟨b, off, ai, ci, l, h, rfl, hb1, hb2, hf, hC, hci, hbd, hr, hO, hU⟩ := HP.out.pick hlt
      rw [pref_at] at hC hci hO hU
      have hLk := smf_ge (fun i => (T i).n) n k hlt
      have hsk := smf_le (fun i => (T i).n) (n := n) (i := k) (by omega)
      have hstep : (sRw T (k + 1) : Int) = sRw T k + (T k).n * 4 + 1 := by simp [sRw, smf]; omega
      have hbS : sRw T k = smRw T k * 4 + k * 1 := sRw_eq T k
      have HM : Hid (mRw m T k = ⟨m + sRw T k, (T k).n, mV (m + sRw T k + 1)⟩) := rfl
      have hSb : (sRw T k : Int) ≤ 5242880 := by unfold smRw at *; omega
      have hS0 : 0 ≤ (sRw T k : Int) := by omega
      have hTk : (T k).n ≤ 1048576 := by unfold smRw at *; omega
      generalize hS : (sRw T k : Int) = S at *
      have HU : Hid (∀ t w1, t.n = (T k).n → Writes l h (hdRw wr b (off + k * 2) t) w1 → Own4 w1 l h ai t.n t.U → OwnRwP w1 P (some ⟨b, off, none⟩) n (upf (pref (mRw m T) T k) k t)) := hU
      have HO2 : Hid (Own4 (hdRw wr b (off + k * 2) ⟨m + S, (T k).n, mV (m + S + 1)⟩) l h ai (T k).n (T k).U) := hO.writes (hdRw_writes (Writes.refl _ _ _) (Nat.le_refl _) (Nat.lt_succ_self _)) (by omega)
      have HG : Hid (P b ∧ ∀ x, l ≤ x → x < h → P x) := ⟨hb1, hr⟩
      obtain ⟨q0, q1⟩ := hC
      have g1 : IntKind.i64.wrap (m + S + 1) = m + S + 1 := by rw [IntKind.wrap_i64]; omega
      clear HP hO hU hb1 hb2 hbd hr hbS hS hLk hsk
      go_wp2_with fail
      refine (markVersionS_any (T k).n (T k).U ai ci l h (m + S + 1) _ (by omega) (by omega) (by omega) HO2.out).mono ?_
      rintro e w1 ⟨rfl, hw, hr⟩
      have HW : Hid (Writes l h (hdRw wr b (off + k * 2) ⟨m + S, (T k).n, mV (m + S + 1)⟩) w1) := hw
      have HR1 : Hid (Own4 w1 l h ai (T k).n (mV (m + S + 1))) := hr
      clear hw hr
      go_wp2_with fail
      go_roundw
      case rel =>
        have H := HU.out ⟨m + S, (T k).n, mV (m + S + 1)⟩ w1 rfl HW.out HR1.out
        rw [← HM.out, pref_upf] at H
        obtain ⟨g1, g2⟩ := HG.out
        have HB2 : WritesP P wr (hdRw wr b (off + k * 2) ⟨m + S, (T k).n, mV (m + S + 1)⟩) := WritesP.of (hdRw_writes (Writes.refl _ _ _) (Nat.le_refl b) (Nat.lt_succ_self b)) fun x x1 x2 => (show x = b by omega) ▸ g1
        exact ⟨k + 1, hlt, by go_num, by rw [hstep]; go_num, HB.out.trans (HB2.trans (WritesP.of HW.out g2)), H⟩
      case measure => simp [intOf]; omega
    · have hkn : k = n := by omega
      have HO2 : Hid (OwnRwP wr P a n (mRw m T)) := HP.out.congr fun i hi => pref_lt _ _ (by omega)
      have hnl : ¬ ((k : Int) < (n : Int)) := by omega
      go_wp2_with fail
      go_ret
      exact ⟨ret_int (by first | rfl | rw [hkn]), HB.out, HO2.out⟩
/-- An engine whose two lists lie in two sets of blocks of their own, all from lo on below hi. -/
def OwnE2 (w : World) (lo hi : Nat) (a a' : Option Addr) (E : En) : Prop :=
  hi ≤ w.heap.size ∧ ∃ P Q : Nat → Prop, (∀ x, P x → lo ≤ x ∧ x < hi) ∧ (∀ x, Q x → lo ≤ x ∧ x < hi) ∧ (∀ x, P x → ¬ Q x) ∧ OwnTxP w P a E.p E.T ∧ OwnRwP w Q a' E.q E.R
theorem OwnE2.at {w : World} {lo hi : Nat} {a a' : Option Addr} {E : En} (h : OwnE2 w lo hi a a' E) : EngAt w a a' E := by
  obtain ⟨_, P, Q, _, _, _, hp, hl⟩ := h
  exact ⟨hp.at, hl.at⟩
theorem OwnE2.writes {w w' : World} {lo hi lo' hi' : Nat} {a a' : Option Addr} {E : En} (h : OwnE2 w lo hi a a' E) (hw : Writes lo' hi' w w') (hd : hi ≤ lo' ∨ hi' ≤ lo) : OwnE2 w' lo hi a a' E := by
  obtain ⟨h0, P, Q, k1, k2, k3, hp, hl⟩ := h
  exact ⟨Nat.le_trans h0 hw.size, P, Q, k1, k2, k3, hp.keep hw.size fun x hx h1 => hw.block x h1 (by have := k1 x hx; omega), hl.keep hw.size fun x hx h1 => hw.block x h1 (by have := k2 x hx; omega)⟩
theorem OwnE2.below {w w' : World} {lo hi : Nat} {a a' : Option Addr} {E : En} (h : OwnE2 w lo hi a a' E) (hb : Below w.heap.size w w') : OwnE2 w' lo hi a a' E :=
  h.writes (Writes.of_below (lo := hi) (hi := hi) hb) (.inl (Nat.le_refl _))
theorem OwnE2.wide {w : World} {lo hi lo' hi' : Nat} {a a' : Option Addr} {E : En} (h : OwnE2 w lo hi a a' E) (e1 : lo' ≤ lo) (e2 : hi ≤ hi') (e3 : hi' ≤ w.heap.size) : OwnE2 w lo' hi' a a' E := by
  obtain ⟨h0, P, Q, k1, k2, k3, hp, hl⟩ := h
  exact ⟨e3, P, Q, fun x hx => by have := k1 x hx; omega, fun x hx => by have := k2 x hx; omega, k3, hp, hl⟩
theorem OwnE.to2 {w : World} {lo hi : Nat} {a a' : Option Addr} {E : En} (h : OwnE w lo hi a a' E) : OwnE2 w lo hi a a' E := by
  obtain ⟨h0, l1, h1, l2, h2, k1, k2, k3, k4, k5, hp, hl⟩ := h
  exact ⟨h0, _, _, fun x hx => by omega, fun x hx => by omega, fun x hx hy => by omega, hp.toP, hl.toP⟩
set_option maxHeartbeats 2000000 in
theorem markEngine_2 (E : En) (a a' : Option Addr) (cap cap' lo hi : Nat) (m : Int) (w : World) (hs : SmallE E) (hm1 : 0 ≤ m) (hm2 : m ≤ 1048576) (h : OwnE2 w lo hi a a' E) :
    Calls Tryz.prog 16 #[.agg #[.int .i64 E.nx, .int .i64 E.ck, .slice a E.p cap, .slice a' E.q cap'], .int .i64 m] w fun e w' => e = .returned (.int .i64 (m + totE E)) ∧ Writes lo hi w w' ∧ OwnE2 w' lo hi a a' (mE m E) := by
  have HS : Hid (SmallE E) := hs
  have hst := sTx_le hs
  have HT : Hid ((totE E : Int) = sTx E.T E.p + sRw E.R E.q) := by simp [totE, Hid]
  obtain ⟨h0, P, Q, k1, k2, k3, hp, hl⟩ := h
  have HP : Hid (OwnTxP w P a E.p E.T) := hp
  have HL : Hid (OwnRwP w Q a' E.q E.R) := hl
  have K1 : Hid (∀ x, P x → lo ≤ x ∧ x < hi) := k1
  have K2 : Hid (∀ x, Q x → lo ≤ x ∧ x < hi) := k2
  have K3 : Hid (∀ x, P x → ¬ Q x) := k3
  clear hs hp hl k1 k2 k3
  go_enter Tryz.func16, Tryz.ntmps16
  go_wp2_with fail
  refine (markTxnS_P E.p E.T a cap P m _ HS.out.p HS.out.st hm1 (by omega) (HP.out.keep (below_new _ _).size fun x hx h1 => (below_new _ _).block x h1)).mono ?_
  rintro e w1 ⟨rfl, hw1, ho1⟩
  have HW : Hid (WritesP P w w1) := (WritesP.below (below_new _ _)).trans hw1
  have q1 : w1.cell? ⟨w.heap.size, 3, none⟩ = some (.slice a' E.q cap') := by
    rw [World.cell?_of_block (w := w.alloc _) (a := ⟨w.heap.size, 3, none⟩) (hw1.block w.heap.size (by simp) fun c => by have := K1.out _ c; omega)]; simp [go_sem]
  have HO1 : Hid (OwnTxP w1 P a E.p (mTx m E.T)) := ho1
  have hz1 : w.heap.size ≤ w1.heap.size := HW.out.size
  clear hw1 ho1
  go_wp2_with fail
  refine (markRowS_P E.q E.R a' cap' Q (m + sTx E.T E.p) _ HS.out.q HS.out.sr (by omega) (by omega) (HL.out.keep HW.out.size fun x hx h1 => HW.out.block x h1 fun c => K3.out x c hx)).mono ?_
  rintro e w2 ⟨rfl, hw2, ho2⟩
  have hz2 : w1.heap.size ≤ w2.heap.size := hw2.size
  have HO2 : OwnTxP w2 P a E.p (mTx m E.T) := HO1.out.keep hw2.size fun x hx h1 => hw2.block x h1 (K3.out x hx)
  go_wp2_with fail
  go_ret
  refine ⟨ret_int (by rw [HT.out]; omega), (HW.out.to K1.out).trans (hw2.to K2.out), ?_⟩
  exact ⟨by omega, P, Q, K1.out, K2.out, K3.out, HO2, ho2⟩
theorem markEngineResult_2 (c v : Int) (E : En) (a a' : Option Addr) (cap cap' lo hi : Nat) (w : World) (hs : SmallE E) (h : OwnE2 w lo hi a a' E) :
    Calls Tryz.prog 17 #[.agg #[.int .i64 c, .int .i64 v, .int .i64 E.nx, .int .i64 E.ck, .slice a E.p cap, .slice a' E.q cap'], .int .i64 1] w fun e w' => e = .returned (.int .i64 (1 + totE E)) ∧ Writes lo hi w w' ∧ OwnE2 w' lo hi a a' (mE 1 E) := by
  have HS : Hid (SmallE E) := hs
  have HO : Hid (OwnE2 w lo hi a a' E) := h
  clear hs h
  go_enter Tryz.func17, Tryz.ntmps17
  go_wp2_with fail
  refine (markEngine_2 E a a' cap cap' lo hi 1 _ HS.out (by omega) (by omega) (HO.out.below (below_new _ _))).mono ?_
  rintro e w1 ⟨rfl, hw, ho⟩
  go_wp2_with fail
  go_ret
  exact ⟨rfl, (Writes.of_below (below_new _ _)).trans hw, ho⟩
/-- An answer that is an engine in two sets of blocks of its own. -/
def ERes2 (c v : Int) (G : En) (w : World) (e : Ending) (w' : World) : Prop := ∃ a cap a' cap', e = .returned (.agg #[.int .i64 c, .int .i64 v, .int .i64 G.nx, .int .i64 G.ck, .slice a G.p cap, .slice a' G.q cap']) ∧ Below w.heap.size w w' ∧ OwnE2 w' w.heap.size w'.heap.size a a' G
end Go.Proofs.YtnhlcadipkmhhaaGreat
