/- Answers that are logs: equal, marked, held; spec.l3Count, spec.l3Flush. -/
import Derived.Test.YtldnfiadafmomaaGreatQDe
import Derived.Test.YtldnfiadafmomaaGreatQZpa
import Derived.Test.YtldnfiadafmomaaGreatQRe
namespace Go.Proofs.YtldnfiadafmomaaGreat
open Go.RowKit Go.Deep
set_option linter.unusedVariables false
set_option maxRecDepth 20000
open Go.ChangeShapes Go.WideShapes Go.ChangeAt Go.RowKit Go.Deep Go.Joins

def upd {α : Type} (f : Nat → α) (j : Nat) (x : α) (i : Nat) : α := if i = j then x else f i
theorem upd_eq {α : Type} (f : Nat → α) (j : Nat) (x : α) : upd f j x j = x := by simp [upd]
theorem upd_ne {α : Type} (f : Nat → α) {j i : Nat} (x : α) (h : i ≠ j) : upd f j x i = f i := by simp [upd, h]
/-- One page of them, and what a change of its bytes alone leaves. -/
theorem OwnP.pick {w : World} {lo hi : Nat} {a : Option Addr} {n : Nat} {L : Nat → Nat} {Z : Nat → Nat → Int} (h : OwnP w lo hi a n L Z) {j : Nat} (hj : j < n) :
    ∃ b off g o c, a = some ⟨b, off, none⟩ ∧ w.cell? ⟨b, off + j, none⟩ = some (.slice (some ⟨g, o, none⟩) (L j) c) ∧ lo ≤ g ∧ g < hi ∧ Row1 w g o (L j) (Z j) ∧
      ∀ w1 z, Writes g (g + 1) w w1 → Row1 w1 g o (L j) z → OwnP w1 lo hi a n L (upd Z j z) := by
  obtain ⟨h0, h1 | ⟨b, off, ha, hlo, hl, g, o, c, hinj, hc⟩⟩ := h
  · omega
  obtain ⟨k0, k1, k2, k3, k4, -⟩ := hc j hj
  refine ⟨b, off, g j, o j, c j, ha, k3, k1, k2, k4, fun w1 z hw hr => ⟨Nat.le_trans h0 hw.size, .inr ⟨b, off, ha, hlo, hl, g, o, c, hinj, fun i hi => ?_⟩⟩⟩
  obtain ⟨m0, m1, m2, m3, m4, mc⟩ := hc i hi
  refine ⟨m0, m1, m2, (hw.cell (by omega) (by omega) _).trans m3, ?_, mc⟩
  by_cases e : i = j
  · subst e; rw [upd_eq]; exact hr
  · rw [upd_ne _ _ e]
    have : g i ≠ g j := fun q => e (hinj i j hi hj q)
    exact m4.block (hw.block _ (by omega) (by omega))
theorem OwnL.pick {w : World} {lo hi : Nat} {a : Option Addr} {n : Nat} {P T : Nat → Int} {L : Nat → Nat} {Z : Nat → Nat → Int} (h : OwnL w lo hi a n P T L Z) {j : Nat} (hj : j < n) :
    ∃ b off g o c, a = some ⟨b, off, none⟩ ∧ lo ≤ b ∧ b < hi ∧ g ≠ b ∧ w.cell? ⟨b, off + j * 3, none⟩ = some (.int .i64 (P j)) ∧ w.cell? ⟨b, off + j * 3 + 1, none⟩ = some (.int .i64 (T j)) ∧ w.cell? ⟨b, off + j * 3 + 2, none⟩ = some (.slice (some ⟨g, o, none⟩) (L j) c) ∧
      w.frozen? ⟨b, off + j * 3, none⟩ = false ∧ w.frozen? ⟨b, off + j * 3 + 1, none⟩ = false ∧ lo ≤ g ∧ g < hi ∧ Row1 w g o (L j) (Z j) ∧
      ∀ p t w1 z, Writes g (g + 1) ((w.setCell ⟨b, off + j * 3, none⟩ (.int .i64 p)).setCell ⟨b, off + j * 3 + 1, none⟩ (.int .i64 t)) w1 → Row1 w1 g o (L j) z → OwnL w1 lo hi a n (upd P j p) (upd T j t) L (upd Z j z) := by
  obtain ⟨h0, h1 | ⟨b, off, ha, hlo, hl, g, o, c, hinj, hc⟩⟩ := h
  · omega
  obtain ⟨k0, k1, k2, k3, k4, k5, k6, k7, k8, -⟩ := hc j hj
  refine ⟨b, off, g j, o j, c j, ha, hlo, hl, k0, k3, k4, k5, k6, k7, k1, k2, k8, fun p t w1 z hw hr => ?_⟩
  have hs : ((w.setCell ⟨b, off + j * 3, none⟩ (.int .i64 p)).setCell ⟨b, off + j * 3 + 1, none⟩ (.int .i64 t)).heap.size = w.heap.size := by simp [World.setCell]
  have hsz : w.heap.size ≤ w1.heap.size := by have := hw.size; omega
  refine ⟨Nat.le_trans h0 hsz, .inr ⟨b, off, ha, hlo, hl, g, o, c, hinj, fun i hi => ?_⟩⟩
  obtain ⟨m0, m1, m2, m3, m4, m5, m6, m7, m8, mc⟩ := hc i hi
  have cb : ∀ q, w1.cell? ⟨b, q, none⟩ = ((w.setCell ⟨b, off + j * 3, none⟩ (.int .i64 p)).setCell ⟨b, off + j * 3 + 1, none⟩ (.int .i64 t)).cell? ⟨b, q, none⟩ := fun q => hw.cell (by omega) (by omega) _
  have fb : ∀ q, w1.frozen? ⟨b, q, none⟩ = w.frozen? ⟨b, q, none⟩ := fun q => by
    rw [World.frozen?_of_block (w := ((w.setCell ⟨b, off + j * 3, none⟩ (.int .i64 p)).setCell ⟨b, off + j * 3 + 1, none⟩ (.int .i64 t))) (a := ⟨b, q, none⟩) (hw.block b (by omega) (by omega))]
    simp
  refine ⟨m0, m1, m2, ?_, ?_, ?_, by rw [fb]; exact m6, by rw [fb]; exact m7, ?_, mc⟩
  · rw [cb]
    by_cases e : i = j
    · subst e; rw [upd_eq, setO (by omega)]; exact setS m3
    · rw [upd_ne _ _ e, setO (by omega), setO (by omega)]; exact m3
  · rw [cb]
    by_cases e : i = j
    · subst e; rw [upd_eq]; exact setS ((setO (by omega)).trans m4)
    · rw [upd_ne _ _ e, setO (by omega), setO (by omega)]; exact m4
  · rw [cb, setO (by omega), setO (by omega)]; exact m5
  · by_cases e : i = j
    · subst e; rw [upd_eq]; exact hr
    · rw [upd_ne _ _ e]
      have : g i ≠ g j := fun q => e (hinj i j hi hj q)
      refine m8.block ((hw.block _ (by omega) (by omega)).trans ?_)
      rw [blk_setCell_other _ _ _ _ (by show g i ≠ b; exact m0), blk_setCell_other _ _ _ _ (by show g i ≠ b; exact m0)]
theorem OwnP.congr {w : World} {lo hi : Nat} {a : Option Addr} {n : Nat} {L : Nat → Nat} {Z Z' : Nat → Nat → Int} (h : OwnP w lo hi a n L Z) (e : ∀ i, i < n → ∀ q, q < L i → Z i q = Z' i q) : OwnP w lo hi a n L Z' := by
  obtain ⟨h0, h1 | ⟨b, off, ha, hlo, hl, g, o, c, hinj, hc⟩⟩ := h
  · exact ⟨h0, .inl h1⟩
  refine ⟨h0, .inr ⟨b, off, ha, hlo, hl, g, o, c, hinj, fun i hi => ?_⟩⟩
  obtain ⟨m0, m1, m2, m3, ⟨m4, m5⟩, mc⟩ := hc i hi
  exact ⟨m0, m1, m2, m3, ⟨fun q hq => by rw [m4 q hq, e i hi q hq], m5⟩, mc⟩
theorem OwnL.congr {w : World} {lo hi : Nat} {a : Option Addr} {n : Nat} {P T P' T' : Nat → Int} {L : Nat → Nat} {Z Z' : Nat → Nat → Int} (h : OwnL w lo hi a n P T L Z) (e1 : ∀ i, i < n → P i = P' i) (e2 : ∀ i, i < n → T i = T' i) (e : ∀ i, i < n → ∀ q, q < L i → Z i q = Z' i q) : OwnL w lo hi a n P' T' L Z' := by
  obtain ⟨h0, h1 | ⟨b, off, ha, hlo, hl, g, o, c, hinj, hc⟩⟩ := h
  · exact ⟨h0, .inl h1⟩
  refine ⟨h0, .inr ⟨b, off, ha, hlo, hl, g, o, c, hinj, fun i hi => ?_⟩⟩
  obtain ⟨m0, m1, m2, m3, m4, m5, m6, m7, ⟨m8, m9⟩, mc⟩ := hc i hi
  exact ⟨m0, m1, m2, by rw [m3, e1 i hi], by rw [m4, e2 i hi], m5, m6, m7, ⟨fun q hq => by rw [m8 q hq, e i hi q hq], m9⟩, mc⟩
/-- The marks of pages from m on. -/
def mZ (m : Int) (L : Nat → Nat) (i : Nat) : Nat → Int := bk (m + sumL L i)
def pre {α : Type} (f g : Nat → α) (j i : Nat) : α := if i < j then f i else g i
theorem pre_upd {α : Type} (f g : Nat → α) (j : Nat) : upd (pre f g j) j (f j) = pre f g (j + 1) := by
  funext i
  by_cases e : i = j
  · subst e; simp [upd, pre]
  · by_cases h : i < j
    · have : i < j + 1 := by omega
      simp [upd, pre, e, h, this]
    · have : ¬ i < j + 1 := by omega
      simp [upd, pre, e, h, this]
theorem pre_at {α : Type} (f g : Nat → α) (j : Nat) : pre f g j j = g j := by simp [pre]
theorem pre_lt {α : Type} (f g : Nat → α) {j i : Nat} (h : i < j) : pre f g j i = f i := by simp [pre, h]
theorem sumL_le (L : Nat → Nat) {n : Nat} : ∀ {i}, i ≤ n → sumL L i ≤ sumL L n := by
  induction n with
  | zero => intro i h; have : i = 0 := by omega
            subst this; exact Nat.le_refl _
  | succ n ih =>
    intro i h
    by_cases e : i = n + 1
    · subst e; exact Nat.le_refl _
    · have := ih (i := i) (by omega); simp only [sumL]; omega
set_option maxHeartbeats 400000 in
theorem markByteSS_any (n : Nat) (L : Nat → Nat) (Z : Nat → Nat → Int) (a : Option Addr) (cap lo hi : Nat) (m : Int) (w : World) (hn : n ≤ 1048576) (hs : sumL L n ≤ 1048576) (hm1 : 0 ≤ m) (hm2 : m ≤ 8388608) (h : OwnP w lo hi a n L Z) :
    Calls Tryz.prog 79 #[.slice a n cap, .int .i64 m] w fun e w' => e = .returned (.int .i64 (m + sumL L n)) ∧ Writes lo hi w w' ∧ OwnP w' lo hi a n L (mZ m L) := by
  have HO : Hid (OwnP w lo hi a n L Z) := h
  clear h
  go_enter Tryz.func79, Tryz.ntmps79
  go_wp2
  go_loopw [1, 5] (fun q i wr => ∃ k : Nat, k ≤ n ∧ i = .int .i64 k ∧ q = .int .i64 (m + sumL L k) ∧ Writes lo hi w wr ∧ OwnP wr lo hi a n L (pre (mZ m L) Z k)) (fun _ i _ => n - (intOf i).toNat)
  case atStart => exact ⟨0, Nat.zero_le _, rfl, by simp [sumL], Writes.refl _ _ _, HO.out.congr fun i _ q _ => by simp [pre]⟩
  case round =>
    obtain ⟨k, hk0, rfl, rfl, hb, ho⟩ := hrel
    by_cases hlt : k < n
    · obtain ⟨b, off, g, o, c, rfl, h1, h2, h3, h4, h5⟩ := ho.pick hlt
      rw [pre_at] at h4
      have hLk := sumL_ge L n k hlt
      have hsk := sumL_le L (n := n) (i := k) (by omega)
      have hstep : (sumL L (k + 1) : Int) = sumL L k + L k := by simp [sumL]
      have HR : Hid (Row1 wr g o (L k) (Z k)) := h4
      have H5 : Hid (∀ w1 z, Writes g (g + 1) wr w1 → Row1 w1 g o (L k) z → OwnP w1 lo hi (some ⟨b, off, none⟩) n L (upd (pre (mZ m L) Z k) k z)) := h5
      have HB : Hid (Writes lo hi w wr) := hb
      have HG : Hid (lo ≤ g ∧ g < hi) := ⟨h2, h3⟩
      have HM : Hid (mZ m L k = bk (m + sumL L k)) := rfl
      generalize hS : (sumL L k : Int) = S at *
      clear ho hb h2 h3 h4 h5
      go_wp2_with fail
      refine (markByteS_some (L k) (Z k) g o c g (g + 1) (m + S) wr (by omega) (by omega) (by omega) (Nat.le_refl _) (by omega) HR.out).mono ?_
      rintro e w1 ⟨rfl, hw, hr⟩
      have HW : Hid (Writes g (g + 1) wr w1) := hw
      have HR1 : Hid (Row1 w1 g o (L k) (mZ m L k)) := by
        refine ⟨fun i hi => ?_, hr.2⟩
        rw [hr.1 i hi, HM.out]; simp [mkb, hi]
      clear hw hr
      go_wp2_with fail
      go_roundw
      case rel =>
        refine ⟨k + 1, hlt, by go_num, by rw [hstep]; go_num, ?_, by rw [← pre_upd]; exact H5.out _ _ HW.out HR1.out⟩
        have h1 := HG.out.1
        have h2 := HG.out.2
        exact HB.out.trans ⟨HW.out.os, HW.out.tape, HW.out.output, HW.out.size, fun q hq hd => HW.out.block q hq (by omega)⟩
      case measure => simp [intOf]; omega
    · have hkn : k = n := by omega
      have HO2 : Hid (OwnP wr lo hi a n L (mZ m L)) := ho.congr fun i hi q _ => by rw [pre_lt _ _ (by omega)]
      clear ho
      go_wp2
      go_ret
      exact ⟨ret_int (by rw [hkn]), hb, HO2.out⟩
/-- The marks of loose writes from m on. -/
def s2 (L : Nat → Nat) (i : Nat) : Nat := sumL (fun i => L i + 2) i
def mP (m : Int) (L : Nat → Nat) (i : Nat) : Int := m + s2 L i
def mT (m : Int) (L : Nat → Nat) (i : Nat) : Int := m + s2 L i + 1
def mY (m : Int) (L : Nat → Nat) (i : Nat) : Nat → Int := bk (m + s2 L i + 2)
theorem s2_eq (L : Nat → Nat) : ∀ n, s2 L n = sumL L n + 2 * n
  | 0 => rfl
  | n + 1 => by have := s2_eq L n; simp only [s2, sumL] at *; omega
set_option maxHeartbeats 400000 in
theorem markLooseS_any (n : Nat) (P T : Nat → Int) (L : Nat → Nat) (Z : Nat → Nat → Int) (a : Option Addr) (cap lo hi : Nat) (m : Int) (w : World) (hn : n ≤ 1048576) (hs : sumL L n ≤ 1048576) (hm1 : 0 ≤ m) (hm2 : m ≤ 8388608) (h : OwnL w lo hi a n P T L Z) :
    Calls Tryz.prog 80 #[.slice a n cap, .int .i64 m] w fun e w' => e = .returned (.int .i64 (m + s2 L n)) ∧ Writes lo hi w w' ∧ OwnL w' lo hi a n (mP m L) (mT m L) L (mY m L) := by
  have HO : Hid (OwnL w lo hi a n P T L Z) := h
  clear h
  go_enter Tryz.func80, Tryz.ntmps80
  go_wp2
  go_loopw [1, 5] (fun q i wr => ∃ k : Nat, k ≤ n ∧ i = .int .i64 k ∧ q = .int .i64 (m + s2 L k) ∧ Writes lo hi w wr ∧ OwnL wr lo hi a n (pre (mP m L) P k) (pre (mT m L) T k) L (pre (mY m L) Z k)) (fun _ i _ => n - (intOf i).toNat)
  case atStart => exact ⟨0, Nat.zero_le _, rfl, by simp [s2, sumL], Writes.refl _ _ _, HO.out.congr (fun i _ => by simp [pre]) (fun i _ => by simp [pre]) fun i _ q _ => by simp [pre]⟩
  case round =>
    obtain ⟨k, hk0, rfl, rfl, hb, ho⟩ := hrel
    by_cases hlt : k < n
    · obtain ⟨b, off, g, o, c, rfl, hb1, hb2, hgb, h1, h2, h3, h4, h5, h6, h7, h8, h9⟩ := ho.pick hlt
      rw [pre_at] at h8 h1 h2
      have hLk := sumL_ge L n k hlt
      have hsk := sumL_le L (n := n) (i := k) (by omega)
      have hstep : (s2 L (k + 1) : Int) = s2 L k + L k + 2 := by simp [s2, sumL]; omega
      have hbd : s2 L k = sumL L k + 2 * k := s2_eq L k
      have HR : Hid (Row1 wr g o (L k) (Z k)) := h8
      have H9 : Hid (∀ p t w1 z, Writes g (g + 1) ((wr.setCell ⟨b, off + k * 3, none⟩ (.int .i64 p)).setCell ⟨b, off + k * 3 + 1, none⟩ (.int .i64 t)) w1 → Row1 w1 g o (L k) z → OwnL w1 lo hi (some ⟨b, off, none⟩) n (upd (pre (mP m L) P k) k p) (upd (pre (mT m L) T k) k t) L (upd (pre (mY m L) Z k) k z)) := h9
      have HB : Hid (Writes lo hi w wr) := hb
      have HG : Hid (lo ≤ g ∧ g < hi ∧ lo ≤ b ∧ b < hi ∧ g ≠ b) := ⟨h6, h7, hb1, hb2, hgb⟩
      have HM1 : Hid (mP m L k = m + s2 L k) := rfl
      have HM2 : Hid (mT m L k = m + s2 L k + 1) := rfl
      have HM3 : Hid (mY m L k = bk (m + s2 L k + 2)) := rfl
      have hSb : (s2 L k : Int) ≤ 3145728 := by omega
      have hS0 : 0 ≤ (s2 L k : Int) := by omega
      generalize hS : (s2 L k : Int) = S at *
      clear ho hb h6 h7 hb1 hb2 hgb h8 h9 hbd hS
      go_wp2_with fail
      refine (markByteS_some (L k) (Z k) g o c g (g + 1) (m + S + 1 + 1) _ (by omega) (by omega) (by omega) (Nat.le_refl _) (by omega) (HR.out.block ?_)).mono ?_
      · rw [blk_setCell_other _ _ _ _ (by show g ≠ b; exact HG.out.2.2.2.2), blk_setCell_other _ _ _ _ (by show g ≠ b; exact HG.out.2.2.2.2)]
      rintro e w1 ⟨rfl, hw, hr⟩
      have HW : Hid (Writes g (g + 1) ((wr.setCell ⟨b, off + k * 3, none⟩ (.int .i64 (m + S))).setCell ⟨b, off + k * 3 + 1, none⟩ (.int .i64 (m + S + 1))) w1) := hw
      have HR1 : Hid (Row1 w1 g o (L k) (mY m L k)) := by
        refine ⟨fun i hi => ?_, hr.2⟩
        rw [hr.1 i hi, HM3.out]; simp [mkb, hi]; congr 1; omega
      clear hw hr
      go_wp2_with fail
      go_roundw
      case rel =>
        have H := H9.out (m + S) (m + S + 1) w1 (mY m L k) HW.out HR1.out
        rw [← HM2.out, ← HM1.out, pre_upd, pre_upd, pre_upd] at H
        refine ⟨k + 1, hlt, by go_num, by rw [hstep]; go_num, ?_, H⟩
        obtain ⟨g1, g2, g3, g4, g5⟩ := HG.out
        refine HB.out.trans (Writes.trans (Writes.setCell (Writes.setCell (Writes.refl _ _ _) (p := ⟨b, off + k * 3, none⟩) g3 g4 (.int .i64 (m + S))) (p := ⟨b, off + k * 3 + 1, none⟩) g3 g4 (.int .i64 (m + S + 1))) ?_)
        exact ⟨HW.out.os, HW.out.tape, HW.out.output, HW.out.size, fun q hq hd => HW.out.block q hq (by omega)⟩
      case measure => simp [intOf]; omega
    · have hkn : k = n := by omega
      have HO2 : Hid (OwnL wr lo hi a n (mP m L) (mT m L) L (mY m L)) := ho.congr (fun i hi => by rw [pre_lt _ _ (by omega)]) (fun i hi => by rw [pre_lt _ _ (by omega)]) fun i hi q _ => by rw [pre_lt _ _ (by omega)]
      clear ho
      go_wp2
      go_ret
      exact ⟨ret_int (by rw [hkn]), hb, HO2.out⟩
set_option maxHeartbeats 400000 in
theorem heldByteSS_any (n : Nat) (L : Nat → Nat) (a : Option Addr) (cap : Nat) (m : Int) (w : World) (hn : n ≤ 1048576) (hs : sumL L n ≤ 1048576) (hm1 : 0 ≤ m) (hm2 : m ≤ 8388608) (h : PagesAt w a n L (mZ m L)) :
    Calls Tryz.prog 82 #[.slice a n cap, .int .i64 m] w fun e w' => e = .returned (.int .i64 (m + sumL L n)) ∧ w' = w := by
  have HA : Hid (PagesAt w a n L (mZ m L)) := h
  clear h
  go_enter Tryz.func82, Tryz.ntmps82
  go_wp2
  go_loop [1, 5] (fun q i => ∃ k : Nat, k ≤ n ∧ i = .int .i64 k ∧ q = .int .i64 (m + sumL L k)) (fun _ i => n - (intOf i).toNat)
  case atStart => exact ⟨0, Nat.zero_le _, rfl, by simp [sumL]⟩
  case round =>
    obtain ⟨k, hk0, rfl, rfl⟩ := hrel
    by_cases hlt : k < n
    · rcases HA.out with h | ⟨b, off, rfl, hl, hc⟩
      · omega
      obtain ⟨ai, ci, h1, hy, -⟩ := hc k hlt
      have HY : Hid (BytesAt w ai (L k) (bk (m + sumL L k))) := hy
      have hLk := sumL_ge L n k hlt
      have hsk := sumL_le L (n := n) (i := k) (by omega)
      have hstep : (sumL L (k + 1) : Int) = sumL L k + L k := by simp [sumL]
      generalize hS : (sumL L k : Int) = S at *
      have hneg : ¬ (m + S + (L k : Int) < 0) := by omega
      clear hc hy
      go_wp2_with fail
      refine (heldByteS_any (L k) ai ci (m + S) _ (by omega) (by omega) (by omega) HY.out).mono ?_
      rintro e w' ⟨rfl, rfl⟩
      go_wp2_with fail
      go_round
      case rel => exact ⟨k + 1, hlt, by go_num, by rw [hstep]; go_num⟩
      case measure => simp [intOf]; omega
    · have hkn : k = n := by omega
      go_wp2
      go_ret
      exact ⟨by first | rfl | (rw [hkn]), rfl⟩
set_option maxHeartbeats 400000 in
theorem heldLooseS_any (n : Nat) (L : Nat → Nat) (a : Option Addr) (cap : Nat) (m : Int) (w : World) (hn : n ≤ 1048576) (hs : sumL L n ≤ 1048576) (hm1 : 0 ≤ m) (hm2 : m ≤ 8388608) (h : LoosesAt w a n (mP m L) (mT m L) L (mY m L)) :
    Calls Tryz.prog 83 #[.slice a n cap, .int .i64 m] w fun e w' => e = .returned (.int .i64 (m + s2 L n)) ∧ w' = w := by
  have HA : Hid (LoosesAt w a n (mP m L) (mT m L) L (mY m L)) := h
  clear h
  go_enter Tryz.func83, Tryz.ntmps83
  go_wp2
  go_loop [1, 5] (fun q i => ∃ k : Nat, k ≤ n ∧ i = .int .i64 k ∧ q = .int .i64 (m + s2 L k)) (fun _ i => n - (intOf i).toNat)
  case atStart => exact ⟨0, Nat.zero_le _, rfl, by simp [s2, sumL]⟩
  case round =>
    obtain ⟨k, hk0, rfl, rfl⟩ := hrel
    by_cases hlt : k < n
    · rcases HA.out with h | ⟨b, off, rfl, hl, hc⟩
      · omega
      obtain ⟨h1, h2, ai, ci, h3, hy, -⟩ := hc k hlt
      have HY : Hid (BytesAt w ai (L k) (bk (m + s2 L k + 2))) := hy
      have hLk := sumL_ge L n k hlt
      have hsk := sumL_le L (n := n) (i := k) (by omega)
      have hstep : (s2 L (k + 1) : Int) = s2 L k + L k + 2 := by simp [s2, sumL]; omega
      have hbd : s2 L k = sumL L k + 2 * k := s2_eq L k
      have hSb : (s2 L k : Int) ≤ 3145728 := by omega
      have hS0 : 0 ≤ (s2 L k : Int) := by omega
      unfold mP at h1
      unfold mT at h2
      generalize hS : (s2 L k : Int) = S at *
      have hneg : ¬ (m + S + 1 + 1 + (L k : Int) < 0) := by omega
      clear hc hy hbd hS
      go_wp2_with fail
      refine (heldByteS_any (L k) ai ci (m + S + 1 + 1) _ (by omega) (by omega) (by omega) (by have h := HY.out; rw [show m + S + 2 = m + S + 1 + 1 by omega] at h; exact h)).mono ?_
      rintro e w' ⟨rfl, rfl⟩
      go_wp2_with fail
      go_round
      case rel => exact ⟨k + 1, hlt, by go_num, by rw [hstep]; go_num⟩
      case measure => simp [intOf]; omega
    · have hkn : k = n := by omega
      go_wp2
      go_ret
      exact ⟨by first | rfl | (rw [hkn]), rfl⟩
/-- Only blocks of the set P are written, and new ones. -/
structure WritesP (P : Nat → Prop) (w w' : World) : Prop where
  os : w'.os = w.os
  tape : w'.tape = w.tape
  output : w'.output = w.output
  size : w.heap.size ≤ w'.heap.size
  block : ∀ k, k < w.heap.size → ¬ P k → w'.heap[k]? = w.heap[k]?
theorem WritesP.refl (P : Nat → Prop) (w : World) : WritesP P w w := ⟨rfl, rfl, rfl, Nat.le_refl _, fun _ _ _ => rfl⟩
theorem WritesP.trans {P : Nat → Prop} {a b c : World} (h : WritesP P a b) (k : WritesP P b c) : WritesP P a c :=
  ⟨k.os.trans h.os, k.tape.trans h.tape, k.output.trans h.output, Nat.le_trans h.size k.size, fun q hq hn => (k.block q (Nat.lt_of_lt_of_le hq h.size) hn).trans (h.block q hq hn)⟩
theorem WritesP.of {P : Nat → Prop} {lo hi : Nat} {w w' : World} (h : Writes lo hi w w') (hp : ∀ x, lo ≤ x → x < hi → P x) : WritesP P w w' :=
  ⟨h.os, h.tape, h.output, h.size, fun q hq hn => h.block q hq (by
    by_cases c : q < lo
    · exact .inl c
    · by_cases d : hi ≤ q
      · exact .inr d
      · exact absurd (hp q (by omega) (by omega)) hn)⟩
theorem WritesP.to {P : Nat → Prop} {lo hi : Nat} {w w' : World} (h : WritesP P w w') (hp : ∀ x, P x → lo ≤ x ∧ x < hi) : Writes lo hi w w' :=
  ⟨h.os, h.tape, h.output, h.size, fun q hq hn => h.block q hq fun c => by have := hp q c; omega⟩
theorem WritesP.below {P : Nat → Prop} {w w' : World} (h : Below w.heap.size w w') : WritesP P w w' :=
  WritesP.of (Writes.of_below (lo := w.heap.size) (hi := w.heap.size) h) fun x h1 h2 => by omega
/-! ### what is kept -/
theorem Own.keep {w w' : World} {lo hi : Nat} {a : Option Addr} {n : Nat} {K V : Nat → Int} (h : Own w lo hi a n K V) (hs : w.heap.size ≤ w'.heap.size) (hk : ∀ x, lo ≤ x → x < hi → x < w.heap.size → w'.heap[x]? = w.heap[x]?) : Own w' lo hi a n K V := by
  obtain ⟨h0, h1 | ⟨b, off, ha, h2, hl, hk', hv, hf, hg⟩⟩ := h
  · exact ⟨Nat.le_trans h0 hs, .inl h1⟩
  · have hb := hk b h2 hl (by omega)
    exact ⟨Nat.le_trans h0 hs, .inr ⟨b, off, ha, h2, hl, fun i hi => (World.cell?_of_block (w := w) (a := ⟨b, _, none⟩) hb).trans (hk' i hi), fun i hi => (World.cell?_of_block (w := w) (a := ⟨b, _, none⟩) hb).trans (hv i hi),
      fun i hi => (World.frozen?_of_block (w := w) (a := ⟨b, _, none⟩) hb).trans (hf i hi), fun i hi => (World.frozen?_of_block (w := w) (a := ⟨b, _, none⟩) hb).trans (hg i hi)⟩⟩
theorem OwnI.keep {w w' : World} {lo hi : Nat} {a : Option Addr} {n : Nat} {z : Nat → Int} (h : OwnI w lo hi a n z) (hs : w.heap.size ≤ w'.heap.size) (hk : ∀ x, lo ≤ x → x < hi → x < w.heap.size → w'.heap[x]? = w.heap[x]?) : OwnI w' lo hi a n z := by
  obtain ⟨h0, h1 | ⟨g, off, ha, h2, hl, hc, hf⟩⟩ := h
  · exact ⟨Nat.le_trans h0 hs, .inl h1⟩
  · have hb := hk g h2 hl (by omega)
    exact ⟨Nat.le_trans h0 hs, .inr ⟨g, off, ha, h2, hl, fun i hi => (World.cell?_of_block (w := w) (a := ⟨g, _, none⟩) hb).trans (hc i hi), fun i hi => (World.frozen?_of_block (w := w) (a := ⟨g, _, none⟩) hb).trans (hf i hi)⟩⟩
theorem OwnB.keep {w w' : World} {lo hi : Nat} {a : Option Addr} {n : Nat} {z : Nat → Int} (h : OwnB w lo hi a n z) (hs : w.heap.size ≤ w'.heap.size) (hk : ∀ x, lo ≤ x → x < hi → x < w.heap.size → w'.heap[x]? = w.heap[x]?) : OwnB w' lo hi a n z := by
  obtain ⟨h0, h1 | ⟨g, off, ha, h2, hl, hc, hf⟩⟩ := h
  · exact ⟨Nat.le_trans h0 hs, .inl h1⟩
  · have hb := hk g h2 hl (by omega)
    exact ⟨Nat.le_trans h0 hs, .inr ⟨g, off, ha, h2, hl, fun i hi => (World.cell?_of_block (w := w) (a := ⟨g, _, none⟩) hb).trans (hc i hi), fun i hi => (World.frozen?_of_block (w := w) (a := ⟨g, _, none⟩) hb).trans (hf i hi)⟩⟩
theorem OwnG.keep {w w' : World} {lo hi : Nat} {a1 a2 : Option Addr} {L : Lo} (h : OwnG w lo hi a1 a2 L) (hs : w.heap.size ≤ w'.heap.size) (hk : ∀ x, lo ≤ x → x < hi → x < w.heap.size → w'.heap[x]? = w.heap[x]?) : OwnG w' lo hi a1 a2 L := by
  obtain ⟨h0, l1, h1, l2, h2, k1, k2, k3, k4, k5, hp, hl⟩ := h
  exact ⟨Nat.le_trans h0 hs, l1, h1, l2, h2, k1, k2, k3, k4, k5, hp.keep hs fun x x1 x2 x3 => hk x (by omega) (by omega) x3, hl.keep hs fun x x1 x2 x3 => hk x (by omega) (by omega) x3⟩
theorem OwnP.keep {w w' : World} {lo hi : Nat} {a : Option Addr} {n : Nat} {L : Nat → Nat} {Z : Nat → Nat → Int} (h : OwnP w lo hi a n L Z) (hs : w.heap.size ≤ w'.heap.size) (hk : ∀ x, lo ≤ x → x < hi → x < w.heap.size → w'.heap[x]? = w.heap[x]?) : OwnP w' lo hi a n L Z := by
  obtain ⟨h0, h1 | ⟨b, off, ha, hlo, hl, g, o, c, hj, hc⟩⟩ := h
  · exact ⟨Nat.le_trans h0 hs, .inl h1⟩
  · have e := hk b hlo hl (by omega)
    refine ⟨Nat.le_trans h0 hs, .inr ⟨b, off, ha, hlo, hl, g, o, c, hj, fun i hi => ?_⟩⟩
    obtain ⟨k0, k1, k2, k3, k4, k5⟩ := hc i hi
    exact ⟨k0, k1, k2, (World.cell?_of_block (w := w) (a := ⟨b, _, none⟩) e).trans k3, k4.block (hk _ k1 k2 (by omega)), k5⟩
theorem OwnL.keep {w w' : World} {lo hi : Nat} {a : Option Addr} {n : Nat} {P T : Nat → Int} {L : Nat → Nat} {Z : Nat → Nat → Int} (h : OwnL w lo hi a n P T L Z) (hs : w.heap.size ≤ w'.heap.size) (hk : ∀ x, lo ≤ x → x < hi → x < w.heap.size → w'.heap[x]? = w.heap[x]?) : OwnL w' lo hi a n P T L Z := by
  obtain ⟨h0, h1 | ⟨b, off, ha, hlo, hl, g, o, c, hj, hc⟩⟩ := h
  · exact ⟨Nat.le_trans h0 hs, .inl h1⟩
  · have e := hk b hlo hl (by omega)
    refine ⟨Nat.le_trans h0 hs, .inr ⟨b, off, ha, hlo, hl, g, o, c, hj, fun i hi => ?_⟩⟩
    obtain ⟨k0, k1, k2, k3, k4, k5, k6, k7, k8, k9⟩ := hc i hi
    have ec : ∀ q, w'.cell? ⟨b, q, none⟩ = w.cell? ⟨b, q, none⟩ := fun q => World.cell?_of_block (w := w) (a := ⟨b, q, none⟩) e
    exact ⟨k0, k1, k2, (ec _).trans k3, (ec _).trans k4, (ec _).trans k5, (World.frozen?_of_block (w := w) (a := ⟨b, _, none⟩) e).trans k6, (World.frozen?_of_block (w := w) (a := ⟨b, _, none⟩) e).trans k7, k8.block (hk _ k1 k2 (by omega)), k9⟩
theorem OwnD.keep {w w' : World} {lo hi : Nat} {a a' : Option Addr} {D : Dk} (h : OwnD w lo hi a a' D) (hs : w.heap.size ≤ w'.heap.size) (hk : ∀ x, lo ≤ x → x < hi → x < w.heap.size → w'.heap[x]? = w.heap[x]?) : OwnD w' lo hi a a' D := by
  obtain ⟨h0, l1, h1, l2, h2, k1, k2, k3, k4, k5, hp, hl⟩ := h
  exact ⟨Nat.le_trans h0 hs, l1, h1, l2, h2, k1, k2, k3, k4, k5, hp.keep hs fun x x1 x2 x3 => hk x (by omega) (by omega) x3, hl.keep hs fun x x1 x2 x3 => hk x (by omega) (by omega) x3⟩
/-! ### pages in sets of blocks -/
def hdPg (w : World) (b o : Nat) (t : Pg) : World := (w.setCell ⟨b, o, none⟩ (.int .i64 t.id)).setCell ⟨b, o + 1, none⟩ (.int .i64 t.lsn)
theorem hdPg_size {w : World} {b o : Nat} {t : Pg} : (hdPg w b o t).heap.size = w.heap.size := by simp [hdPg, World.setCell]
theorem hdPg_far {w : World} {b o o' : Nat} {t : Pg} (h : o' < o ∨ o + 1 < o') : (hdPg w b o t).cell? ⟨b, o', none⟩ = w.cell? ⟨b, o', none⟩ := by
  unfold hdPg
  rw [setO (by omega), setO (by omega)]
theorem hdPg_frozen {w : World} {b o : Nat} {t : Pg} {p : Addr} : (hdPg w b o t).frozen? p = w.frozen? p := by
  unfold hdPg
  rw [World.frozen?_setCell, World.frozen?_setCell]
theorem hdPg_same {w : World} {b o : Nat} {t t0 : Pg} {ai : Option Addr} {ci : Nat} (h : CPg w b o t0 ai ci) (hn : t.cn = t0.cn) : CPg (hdPg w b o t) b o t ai ci := by
  obtain ⟨h0, h1, h2⟩ := h
  refine ⟨?_, ?_, ?_⟩
  · unfold hdPg; rw [setO (by omega)]; exact setS h0
  · unfold hdPg; exact setS (by rw [setO (by omega)]; exact h1)
  · rw [hn, hdPg_far (by omega)]; exact h2
theorem hdPg_writes {lo hi : Nat} {w wr : World} {b o : Nat} {t : Pg} (h : Writes lo hi w wr) (h1 : lo ≤ b) (h2 : b < hi) : Writes lo hi w (hdPg wr b o t) := by
  unfold hdPg
  exact (h.setCell (p := ⟨b, _, none⟩) h1 h2 _).setCell (p := ⟨b, _, none⟩) h1 h2 _
/-- Pages in blocks of their own, all of the set P. -/
def OwnPgP (w : World) (P : Nat → Prop) (a : Option Addr) (n : Nat) (T : Nat → Pg) : Prop :=
  n = 0 ∨ ∃ b off, a = some ⟨b, off, none⟩ ∧ P b ∧ b < w.heap.size ∧ (∀ i, w.frozen? ⟨b, i, none⟩ = false) ∧ ∃ l h : Nat → Nat, (∀ i j, i < n → j < n → i ≠ j → h i ≤ l j ∨ h j ≤ l i) ∧
    ∀ i, i < n → (b < l i ∨ h i ≤ b) ∧ (∀ x, l i ≤ x → x < h i → P x) ∧ ∃ ai ci, CPg w b (off + i * 3) (T i) ai ci ∧ (T i).cn ≤ ci ∧ Own w (l i) (h i) ai (T i).cn (T i).cK (T i).cV
theorem OwnPgP.at {w : World} {P : Nat → Prop} {a : Option Addr} {n : Nat} {T : Nat → Pg} (h : OwnPgP w P a n T) : PgsAt w a n T := by
  obtain h1 | ⟨b, off, ha, _, hl, _, l, h, _, hc⟩ := h
  · exact .inl h1
  · refine .inr ⟨b, off, ha, hl, fun i hi => ?_⟩
    obtain ⟨_, _, ai, ci, k1, k2, k3⟩ := hc i hi
    exact ⟨ai, ci, k1, ⟨k3.at, trivial⟩, k2⟩
theorem OwnPgP.keep {w w' : World} {P : Nat → Prop} {a : Option Addr} {n : Nat} {T : Nat → Pg} (h : OwnPgP w P a n T) (hs : w.heap.size ≤ w'.heap.size) (hk : ∀ x, P x → x < w.heap.size → w'.heap[x]? = w.heap[x]?) : OwnPgP w' P a n T := by
  obtain h1 | ⟨b, off, ha, hp, hl, hf, l, h, hj, hc⟩ := h
  · exact .inl h1
  · have e := hk b hp hl
    refine .inr ⟨b, off, ha, hp, Nat.lt_of_lt_of_le hl hs, fun i => (World.frozen?_of_block (w := w) (a := ⟨b, i, none⟩) e).trans (hf i), l, h, hj, fun i hi => ?_⟩
    obtain ⟨k0, k1, ai, ci, k2, k3, k4⟩ := hc i hi
    exact ⟨k0, k1, ai, ci, k2.block e, k3, k4.keep hs fun x h1 h2 h3 => hk x (k1 x h1 h2) h3⟩
theorem OwnPgP.mono {w : World} {P P' : Nat → Prop} {a : Option Addr} {n : Nat} {T : Nat → Pg} (h : OwnPgP w P a n T) (hp : ∀ x, P x → P' x) : OwnPgP w P' a n T := by
  obtain h1 | ⟨b, off, ha, h2, hl, hf, l, h, hj, hc⟩ := h
  · exact .inl h1
  · refine .inr ⟨b, off, ha, hp _ h2, hl, hf, l, h, hj, fun i hi => ?_⟩
    obtain ⟨k0, k1, r⟩ := hc i hi
    exact ⟨k0, fun x x1 x2 => hp x (k1 x x1 x2), r⟩
theorem OwnPgP.congr {w : World} {P : Nat → Prop} {a : Option Addr} {n : Nat} {T T' : Nat → Pg} (h : OwnPgP w P a n T) (e : ∀ i, i < n → T i = T' i) : OwnPgP w P a n T' := by
  obtain h1 | ⟨b, off, ha, h2, hl, hf, l, h, hj, hc⟩ := h
  · exact .inl h1
  · exact .inr ⟨b, off, ha, h2, hl, hf, l, h, hj, fun i hi => by rw [← e i hi]; exact hc i hi⟩
theorem OwnPg.toP {w : World} {lo hi : Nat} {a : Option Addr} {n : Nat} {T : Nat → Pg} (h : OwnPg w lo hi a n T) : OwnPgP w (fun x => lo ≤ x ∧ x < hi) a n T := by
  obtain ⟨h0, h1 | ⟨b, off, ha, hlo, hl, hf, l, h, hj, hc⟩⟩ := h
  · exact .inl h1
  · refine .inr ⟨b, off, ha, ⟨hlo, hl⟩, by omega, hf, l, h, hj, fun i hi => ?_⟩
    obtain ⟨k0, k1, ai, ci, k2, k3, m0, m1, g0, g1, g2, gz, k4⟩ := hc i hi
    exact ⟨k0, fun x x1 x2 => by omega, ai, ci, k2, k3, k4.wide g0 g2 (by omega)⟩
theorem OwnPgP.pick {w : World} {P : Nat → Prop} {a : Option Addr} {n : Nat} {T : Nat → Pg} (h : OwnPgP w P a n T) {j : Nat} (hj : j < n) :
    ∃ b off ai ci l h, a = some ⟨b, off, none⟩ ∧ P b ∧ b < w.heap.size ∧ (∀ i, w.frozen? ⟨b, i, none⟩ = false) ∧ CPg w b (off + j * 3) (T j) ai ci ∧ (T j).cn ≤ ci ∧ (b < l ∨ h ≤ b) ∧ (∀ x, l ≤ x → x < h → P x) ∧ Own w l h ai (T j).cn (T j).cK (T j).cV ∧
      ∀ t w1, t.cn = (T j).cn → Writes l h (hdPg w b (off + j * 3) t) w1 → Own w1 l h ai t.cn t.cK t.cV → OwnPgP w1 P a n (upf9 T j t) := by
  obtain h1 | ⟨b, off, ha, hlo, hl, hf, l, h, hd, hc⟩ := h
  · omega
  obtain ⟨k0, k1, ai, ci, k2, k3, k4⟩ := hc j hj
  refine ⟨b, off, ai, ci, l j, h j, ha, hlo, hl, hf, k2, k3, k0, k1, k4, fun t w1 hn hw hr => ?_⟩
  have hsz : w.heap.size ≤ w1.heap.size := by have := hw.size; rw [hdPg_size] at this; exact this
  have eb : w1.heap[b]? = (hdPg w b (off + j * 3) t).heap[b]? := hw.block b (by rw [hdPg_size]; omega) (by omega)
  have cb : ∀ q, w1.cell? ⟨b, q, none⟩ = (hdPg w b (off + j * 3) t).cell? ⟨b, q, none⟩ := fun q => World.cell?_of_block (w := hdPg w b (off + j * 3) t) (a := ⟨b, q, none⟩) eb
  refine .inr ⟨b, off, ha, hlo, Nat.lt_of_lt_of_le hl hsz, fun i => ?_, l, h, hd, fun i hi => ?_⟩
  · rw [World.frozen?_of_block (w := hdPg w b (off + j * 3) t) (a := ⟨b, i, none⟩) eb, hdPg_frozen]; exact hf i
  · obtain ⟨m0, m1, ai', ci', m2, m3, m4⟩ := hc i hi
    by_cases e : i = j
    · subst e
      rw [upf9_eq]
      exact ⟨m0, m1, ai, ci, (hdPg_same k2 hn).block eb, by rw [hn]; exact k3, hr⟩
    · rw [upf9_ne _ _ e]
      refine ⟨m0, m1, ai', ci', ?_, m3, ?_⟩
      · have g : ∀ q, q < 3 → w1.cell? ⟨b, off + i * 3 + q, none⟩ = w.cell? ⟨b, off + i * 3 + q, none⟩ := fun q hq => (cb _).trans (hdPg_far (by omega))
        obtain ⟨h0, h1, h2⟩ := m2
        exact ⟨(g 0 (by omega)).trans h0, (g 1 (by omega)).trans h1, (g 2 (by omega)).trans h2⟩
      · have hdd := hd i j hi hj e
        have m5 := m4.writes (w' := hdPg w b (off + j * 3) t) (lo' := b) (hi' := b + 1) (hdPg_writes (Writes.refl _ _ _) (Nat.le_refl _) (Nat.lt_succ_self _)) (by omega)
        exact m5.writes hw (by omega)
def sPg (T : Nat → Pg) (i : Nat) : Nat := smf9 (fun i => (T i).cn * 2 + 2) i
theorem sPg_eq (T : Nat → Pg) (i : Nat) : sPg T i = smPg T i * 2 + i * 2 := smf9_add _ _ _ _
def mPg (m : Int) (T : Nat → Pg) (i : Nat) : Pg := ⟨m + sPg T i, m + sPg T i + 1, (T i).cn, mK (m + sPg T i + 2), mK (m + sPg T i + 2 + 1)⟩
set_option maxHeartbeats 2000000 in
theorem markPageS_P (n : Nat) (T : Nat → Pg) (a : Option Addr) (cap : Nat) (P : Nat → Prop) (m : Int) (w : World) (hn : n ≤ 1048576) (hs : smPg T n ≤ 1048576) (hm1 : 0 ≤ m) (hm2 : m ≤ 16777216) (h : OwnPgP w P a n T) :
    Calls Tryz.prog 35 #[.slice a n cap, .int .i64 m] w fun e w' => e = .returned (.int .i64 (m + sPg T n)) ∧ WritesP P w w' ∧ OwnPgP w' P a n (mPg m T) := by
  have HO : Hid (OwnPgP w P a n T) := h
  clear h
  go_enter Tryz.func35, Tryz.ntmps35
  go_wp2
  go_loopw [1, 5] (fun q i wr => ∃ k : Nat, k ≤ n ∧ i = .int .i64 k ∧ q = .int .i64 (m + sPg T k) ∧ Hid (WritesP P w wr) ∧ Hid (OwnPgP wr P a n (pref9 (mPg m T) T k))) (fun _ i _ => n - (intOf i).toNat)
  case atStart => exact ⟨0, Nat.zero_le _, rfl, by simp [sPg, smf9], WritesP.refl _ _, by rw [pref9_zero]; exact HO⟩
  case round =>
    obtain ⟨k, hk0, rfl, rfl, HB, HP⟩ := hrel
    by_cases hlt : k < n
    · obtain ⟨b, off, ai, ci, l, h, rfl, hb1, hb2, hf, hC, hci, hbd, hr, hO, hU⟩ := HP.out.pick hlt
      rw [pref9_at] at hC hci hO hU
      have hLk := smf9_ge (fun i => szPg (T i)) n k hlt
      have hsk := smf9_le (fun i => szPg (T i)) (n := n) (i := k) (by omega)
      have hstep : (sPg T (k + 1) : Int) = sPg T k + (T k).cn * 2 + 2 := by simp [sPg, smf9]; omega
      have hbS : sPg T k = smPg T k * 2 + k * 2 := sPg_eq T k
      have HM : Hid (mPg m T k = ⟨m + sPg T k, m + sPg T k + 1, (T k).cn, mK (m + sPg T k + 2), mK (m + sPg T k + 2 + 1)⟩) := rfl
      have hSb : (sPg T k : Int) ≤ 4194304 := by unfold smPg szPg at *; omega
      have hS0 : 0 ≤ (sPg T k : Int) := by omega
      have hTk : (T k).cn ≤ 1048576 := by unfold smPg szPg at *; omega
      generalize hS : (sPg T k : Int) = S at *
      have HU : Hid (∀ t w1, t.cn = (T k).cn → Writes l h (hdPg wr b (off + k * 3) t) w1 → Own w1 l h ai t.cn t.cK t.cV → OwnPgP w1 P (some ⟨b, off, none⟩) n (upf9 (pref9 (mPg m T) T k) k t)) := hU
      have HO2 : Hid (Own (hdPg wr b (off + k * 3) ⟨m + S, m + S + 1, (T k).cn, mK (m + S + 2), mK (m + S + 2 + 1)⟩) l h ai (T k).cn (T k).cK (T k).cV) := hO.writes (hdPg_writes (Writes.refl _ _ _) (Nat.le_refl _) (Nat.lt_succ_self _)) (by omega)
      have HG : Hid (P b ∧ ∀ x, l ≤ x → x < h → P x) := ⟨hb1, hr⟩
      obtain ⟨q0, q1, q2⟩ := hC
      have g1 : IntKind.i64.wrap (m + S + 1) = m + S + 1 := by rw [IntKind.wrap_i64]; omega
      have g2 : IntKind.i64.wrap (m + S + 1 + 1) = m + S + 2 := by rw [IntKind.wrap_i64]; omega
      clear HP hO hU hb1 hb2 hbd hr hbS hS hLk hsk
      go_wp2_with fail
      refine (markCellS_any (T k).cn (T k).cK (T k).cV ai ci l h (m + S + 2) _ (by omega) (by omega) (by omega) HO2.out).mono ?_
      rintro e w1 ⟨rfl, hw, hr⟩
      have HW : Hid (Writes l h (hdPg wr b (off + k * 3) ⟨m + S, m + S + 1, (T k).cn, mK (m + S + 2), mK (m + S + 2 + 1)⟩) w1) := hw
      have HR1 : Hid (Own w1 l h ai (T k).cn (mK (m + S + 2)) (mK (m + S + 2 + 1))) := hr
      clear hw hr
      go_wp2_with fail
      go_roundw
      case rel =>
        have H := HU.out ⟨m + S, m + S + 1, (T k).cn, mK (m + S + 2), mK (m + S + 2 + 1)⟩ w1 rfl HW.out HR1.out
        rw [← HM.out, pref9_upf] at H
        obtain ⟨g1, g2⟩ := HG.out
        have HB2 : WritesP P wr (hdPg wr b (off + k * 3) ⟨m + S, m + S + 1, (T k).cn, mK (m + S + 2), mK (m + S + 2 + 1)⟩) := WritesP.of (hdPg_writes (Writes.refl _ _ _) (Nat.le_refl b) (Nat.lt_succ_self b)) fun x x1 x2 => (show x = b by omega) ▸ g1
        exact ⟨k + 1, hlt, by go_num, by rw [hstep]; go_num, HB.out.trans (HB2.trans (WritesP.of HW.out g2)), H⟩
      case measure => simp [intOf]; omega
    · have hkn : k = n := by omega
      have HO2 : Hid (OwnPgP wr P a n (mPg m T)) := HP.out.congr fun i hi => pref9_lt _ _ (by omega)
      have hnl : ¬ ((k : Int) < (n : Int)) := by omega
      go_wp2_with fail
      go_ret
      exact ⟨ret_int (by first | rfl | rw [hkn]), HB.out, HO2.out⟩
/-- A disk with marks from m on. -/
def mD (m : Int) (D : Dk) : Dk := ⟨D.n, D.L, mZ m D.L, D.m, mP (m + sumL D.L D.n) D.M, mT (m + sumL D.L D.n) D.M, D.M, mY (m + sumL D.L D.n) D.M⟩
/-- How many marks a disk takes. -/
def tot (D : Dk) : Nat := sumL D.L D.n + s2 D.M D.m
theorem tot_le {D : Dk} (h : Small D) : tot D ≤ 4194304 := by
  have := s2_eq D.M D.m
  have h1 := h.s
  have h2 := h.t
  have h3 := h.m
  unfold tot; omega
theorem OwnD.mk' {w : World} {lo hi l1 h1 l2 h2 : Nat} {a a' : Option Addr} {D : Dk} (e0 : hi ≤ w.heap.size) (e1 : lo ≤ l1) (e2 : h1 ≤ hi) (e3 : lo ≤ l2) (e4 : h2 ≤ hi) (e5 : h1 ≤ l2 ∨ h2 ≤ l1) (hp : OwnP w l1 h1 a D.n D.L D.Z) (hl : OwnL w l2 h2 a' D.m D.P D.T D.M D.Y) : OwnD w lo hi a a' D :=
  ⟨e0, l1, h1, l2, h2, e1, e2, e3, e4, e5, hp, hl⟩
theorem Writes.wide {lo hi lo' hi' : Nat} {w w' : World} (h : Writes lo hi w w') (e1 : lo' ≤ lo) (e2 : hi ≤ hi') : Writes lo' hi' w w' :=
  ⟨h.os, h.tape, h.output, h.size, fun k hk hd => h.block k hk (by omega)⟩
set_option maxHeartbeats 400000 in
theorem markDisk_any (D : Dk) (a a' : Option Addr) (cap cap' lo hi : Nat) (m : Int) (w : World) (hs : Small D) (hm1 : 0 ≤ m) (hm2 : m ≤ 1048576) (h : OwnD w lo hi a a' D) :
    Calls Tryz.prog 36 #[.agg #[.slice a D.n cap, .slice a' D.m cap'], .int .i64 m] w fun e w' => e = .returned (.int .i64 (m + tot D)) ∧ Writes lo hi w w' ∧ OwnD w' lo hi a a' (mD m D) := by
  have HS : Hid (Small D) := hs
  have hsum := hs.s
  unfold tot mD
  obtain ⟨n, L, Z, n', P, T, M, Y⟩ := D
  obtain ⟨h0, l1, h1, l2, h2, e1, e2, e3, e4, e5, hp, hl⟩ := h
  dsimp only at *
  have HP : Hid (OwnP w l1 h1 a n L Z) := hp
  have HL : Hid (OwnL w l2 h2 a' n' P T M Y) := hl
  clear hs hp hl
  go_enter Tryz.func36, Tryz.ntmps36
  go_wp2_with fail
  refine (markByteSS_any n L Z a cap l1 h1 m _ HS.out.n HS.out.s hm1 (by omega) (HP.out.below (below_new _ _))).mono ?_
  rintro e w1 ⟨rfl, hw1, ho1⟩
  have HW : Hid (Writes l1 h1 w w1) := (Writes.of_below (below_new _ _)).trans hw1
  have hlt : h1 ≤ w.heap.size := HP.out.1
  have q1 : w1.cell? ⟨w.heap.size, 1, none⟩ = some (.slice a' n' cap') := by
    rw [hw1.cell (by simp) (by omega) _]; simp [go_sem]
  have HO1 : Hid (OwnP w1 l1 h1 a n L (mZ m L)) := ho1
  have hz1 : w.heap.size ≤ w1.heap.size := HW.out.size
  clear hw1 ho1
  go_wp2_with fail
  refine (markLooseS_any n' P T M Y a' cap' l2 h2 (m + sumL L n) _ HS.out.m HS.out.t (by omega) (by omega) (HL.out.writes HW.out (by omega))).mono ?_
  rintro e w2 ⟨rfl, hw2, ho2⟩
  have hz2 : w1.heap.size ≤ w2.heap.size := hw2.size
  go_wp2_with fail
  go_ret
  refine ⟨ret_int (by rw [Int.natCast_add]; omega), (HW.out.wide e1 e2).trans (hw2.wide e3 e4), ?_⟩
  exact OwnD.mk' (by omega) e1 e2 e3 e4 e5 (HO1.out.writes hw2 (by omega)) ho2
theorem heldDisk_any (D : Dk) (a a' : Option Addr) (cap cap' : Nat) (m : Int) (w : World) (hs : Small D) (hm1 : 0 ≤ m) (hm2 : m ≤ 1048576) (h : DiskAt w a a' (mD m D)) :
    Calls Tryz.prog 39 #[.agg #[.slice a D.n cap, .slice a' D.m cap'], .int .i64 m] w fun e w' => e = .returned (.int .i64 (m + tot D)) ∧ Below w.heap.size w w' := by
  have HS : Hid (Small D) := hs
  have hsum := hs.s
  have htot : (tot D : Int) = sumL D.L D.n + s2 D.M D.m := by simp [tot]
  unfold mD at h
  obtain ⟨n, L, Z, n', P, T, M, Y⟩ := D
  obtain ⟨hp, hl⟩ := h
  dsimp only at *
  have HP : Hid (PagesAt w a n L (mZ m L)) := hp
  have HL : Hid (LoosesAt w a' n' (mP (m + sumL L n) M) (mT (m + sumL L n) M) M (mY (m + sumL L n) M)) := hl
  have HT : Hid ((tot ⟨n, L, Z, n', P, T, M, Y⟩ : Int) = sumL L n + s2 M n') := htot
  generalize (tot ⟨n, L, Z, n', P, T, M, Y⟩ : Int) = tt at *
  clear hs hp hl htot
  have hneg : ¬ (m + (sumL L n : Int) < 0) := by omega
  have hneg2 : ¬ (m + (sumL L n : Int) + (s2 M n' : Int) < 0) := by omega
  go_enter Tryz.func39, Tryz.ntmps39
  go_wp2_with fail
  refine (heldByteSS_any n L a cap m _ HS.out.n HS.out.s hm1 (by omega) (HP.out.below (below_new _ _))).mono ?_
  rintro e w1 ⟨rfl, rfl⟩
  go_wp2_with fail
  refine (heldLooseS_any n' M a' cap' (m + sumL L n) _ HS.out.m HS.out.t (by omega) (by omega) (HL.out.below (below_new _ _))).mono ?_
  rintro e w2 ⟨rfl, rfl⟩
  go_wp2_with fail
  go_ret
  exact ⟨ret_int (by rw [HT.out]; omega), below_new _ _⟩
/-- Behind the first append: what is needed for the second. -/
theorem all_step {w w6 : World} {L : Lo} {a1 a2 : Option Addr} {c1 c2 : Nat} {v6 : Value} (h : LogAt w a1 a2 L)
    (hg : ((w.alloc (.cells #[.slice a1 L.n1 c1, .slice a2 L.n2 c2] 38)).alloc (.cells #[] 5)).drew.grownBy w6 (some (w.heap.size + 1))) :
    w6.cell? ⟨w.heap.size, 1, none⟩ = some (.slice a2 L.n2 c2) ∧ BytesAt w6 a2 L.n2 L.z2 ∧ Below w.heap.size w w6 ∧ w.heap.size + 1 ≤ w6.heap.size := by
  have hsz : ((w.alloc (.cells #[.slice a1 L.n1 c1, .slice a2 L.n2 c2] 38)).alloc (.cells #[] 5)).drew.heap.size = w.heap.size + 2 := by show ((w.alloc _).alloc _).heap.size = _; rw [World.size_alloc, World.size_alloc]
  have hblk : ∀ q, q < w.heap.size + 1 → w6.heap[q]? = (w.alloc (.cells #[.slice a1 L.n1 c1, .slice a2 L.n2 c2] 38)).heap[q]? := fun q hq => by
    rw [hg.block q (by rw [hsz]; omega) (by intro e; simp at e; omega)]
    show ((w.alloc _).alloc _).heap[q]? = _
    rw [Below.heap_alloc _ _ _ (by rw [World.size_alloc]; omega)]
  have hB : Below w.heap.size w w6 := ⟨hg.os, hg.tape, hg.output, by have := hg.size; rw [hsz] at this; omega, fun q hq => (hblk q (by omega)).trans (Below.heap_alloc _ _ _ hq)⟩
  refine ⟨?_, h.2.below hB, hB, by have := hg.size; rw [hsz] at this; omega⟩
  rw [World.cell?_of_block (w := w.alloc (.cells #[.slice a1 L.n1 c1, .slice a2 L.n2 c2] 38)) (a := ⟨w.heap.size, 1, none⟩) (hblk w.heap.size (by omega))]
  simp
theorem all_own0 (w : World) (o : Obj) : ((w.alloc o).alloc (.cells #[] 5)).drew.ownsRow (w.heap.size + 1) 5 1 (.slice (some ⟨w.heap.size + 1, 0, none⟩) 0 0) ([] : List Int).length (bl []) := by
  have h := World.ownsRow_lit (base := w.heap.size + 1) (size := 1) (e := 5) (w.alloc o) #[] 0 (by simp) (by unfold maxLen; omega) rfl
  rw [World.size_alloc] at h
  exact h
set_option maxHeartbeats 4000000 in
theorem l3All_any (L : Lo) (a1 a2 : Option Addr) (c1 c2 : Nat) (w : World) (hs : L.n1 + L.n2 ≤ 90000) (h : LogAt w a1 a2 L) :
    Calls Tryz.prog 88 #[.agg #[.slice a1 L.n1 c1, .slice a2 L.n2 c2]] w fun e w' => ∃ v, e = .returned v ∧ Below w.heap.size w w' ∧ AllAt w' w.heap.size v L := by
  have HA : Hid (LogAt w a1 a2 L) := h
  have hba1 : BytesAt ((w.alloc (.cells #[.slice a1 L.n1 c1, .slice a2 L.n2 c2] 38)).alloc (.cells #[] 5)).drew a1 L.n1 L.z1 := (h.1.below (below_new _ _)).below ((below_new _ _).drew)
  have hl1 : ([] : List Int).length + L.n1 ≤ 100000 := by simp; omega
  have hl2 : ([] ++ zL L.z1 L.n1).length + L.n2 ≤ 100000 := by simp [zL_len]; omega
  have hbs : w.heap.size + 1 ≤ ((w.alloc (.cells #[.slice a1 L.n1 c1, .slice a2 L.n2 c2] 38)).alloc (.cells #[] 5)).drew.heap.size := by show _ ≤ ((w.alloc _).alloc _).heap.size; rw [World.size_alloc, World.size_alloc]; omega
  have b0 : (w.alloc (.cells #[.slice a1 L.n1 c1, .slice a2 L.n2 c2] 38)).cell? ⟨w.heap.size, 0, none⟩ = some (.slice a1 L.n1 c1) := by simp
  have b1 : (w.alloc (.cells #[.slice a1 L.n1 c1, .slice a2 L.n2 c2] 38)).cell? ⟨w.heap.size, 1, none⟩ = some (.slice a2 L.n2 c2) := by simp
  have HBA : Hid (BytesAt ((w.alloc (.cells #[.slice a1 L.n1 c1, .slice a2 L.n2 c2] 38)).alloc (.cells #[] 5)).drew a1 L.n1 L.z1) := hba1
  have HL1 : Hid (([] : List Int).length + L.n1 ≤ 100000) := hl1
  have HL2 : Hid (([] ++ zL L.z1 L.n1).length + L.n2 ≤ 100000) := hl2
  have HBS : Hid (w.heap.size + 1 ≤ ((w.alloc (.cells #[.slice a1 L.n1 c1, .slice a2 L.n2 c2] 38)).alloc (.cells #[] 5)).drew.heap.size) := hbs
  clear h hba1 hl1 hl2 hbs b0 b1
  go_enter Tryz.func88, Tryz.ntmps88
  go_wp2_with fail
  go_region_law (first | (refine step_appZ _ rfl (.tmp 3) (.tmp 5) rfl (w.heap.size + 1) (.slice (some ⟨w.heap.size + 1, 0, none⟩) 0 0) [] rfl (all_own0 _ _) a1 L.n1 c1 L.z1 rfl HBA.out HL1.out HBS.out ?_; intro v6 w6 ho6 hg6; obtain ⟨k1, hba2, hB6, hz6⟩ := all_step (v6 := v6) HA.out hg6) | (refine step_appZ _ rfl (.tmp 6) (.tmp 8) rfl (w.heap.size + 1) v6 ([] ++ zL L.z1 L.n1) rfl ho6 a2 L.n2 c2 L.z2 rfl hba2 HL2.out hz6 ?_; intro v9 w9 ho9 hg9; have HB9 : Hid (Below w.heap.size w w9) := hB6.grown hg9 hB6.size (fun q hq => by have := (ho6.lt q hq).1; omega); have HO9 : Hid (w9.ownsRow (w.heap.size + 1) 5 1 v9 (([] ++ zL L.z1 L.n1) ++ zL L.z2 L.n2).length (bl (([] ++ zL L.z1 L.n1) ++ zL L.z2 L.n2))) := ho9))
  all_goals
    clear ho6 hg6 k1 hba2 hB6 hz6 ho9 hg9
    go_wp2_with fail
    go_ret
    exact ⟨v9, rfl, HB9.out, allAt_of (rowB_down HO9.out (by omega))⟩
set_option maxHeartbeats 4000000 in
theorem specLf_any (L : Lo) (a1 a2 : Option Addr) (c1 c2 : Nat) (w : World) (hn1 : L.n1 ≤ 1048576) (hn2 : L.n2 ≤ 1048576) (hby : LogByt L) (h : LogAt w a1 a2 L) :
    Calls Tryz.prog 48 #[.agg #[.slice a1 L.n1 c1, .slice a2 L.n2 c2]] w fun e w' => e = .returned (.int .i64 (lgC L)) ∧ Below w.heap.size w w' := by
  have HA : Hid (LogAt w a1 a2 L) := h
  have HY : Hid (LogByt L) := hby
  have hwr : IntKind.i64.wrap ((L.n1 : Int) + (L.n2 : Int)) = (L.n1 : Int) + (L.n2 : Int) := by rw [IntKind.wrap_i64]; omega
  clear h hby
  by_cases hm : 4000 < L.n1 + L.n2
  · have hm' : 4000 < (L.n1 : Int) + (L.n2 : Int) := by omega
    have HC : Hid (lgC L = 2) := lgC_many hm
    go_enter Tryz.func48, Tryz.ntmps48
    go_wp2_with fail
    go_ret
    exact ⟨ret_int HC.out.symm, below_new _ _⟩
  · have hm' : ¬ (4000 < (L.n1 : Int) + (L.n2 : Int)) := by omega
    go_enter Tryz.func48, Tryz.ntmps48
    go_wp2_with fail
    refine (l3All_any L a1 a2 c1 c2 _ (by omega) (HA.out.below (below_new _ _))).mono ?_
    rintro e w1 ⟨v1, rfl, hb1, hall⟩
    obtain ⟨ra, rc, rfl, hrc, ho1, hcond⟩ := hall
    obtain ⟨b, hcd⟩ := AllAt.cond (rc := rc) hcond
    have HB1 : Hid (Below w.heap.size w w1) := below_then (below_new _ _) hb1
    have HCD : Hid (L.n1 + L.n2 = 0 ∨ ra = some ⟨b, 0, none⟩ ∧ b < w1.heap.size ∧ BA w1 b 0 (L.n1 + L.n2) (aZ L)) := hcd
    clear hb1 ho1 hcond hcd
    go_wp2_with fail
    refine (l3Recs_any (L.n1 + L.n2) (aZ L) ra b 0 rc w1 hrc (by omega) (aZ_byt HY.out) HCD.out).mono ?_
    rintro e w2 ⟨rb, rcp, rfl, hb2, ho2⟩
    have HB2 : Hid (Below w.heap.size w w2) := below_then HB1.out hb2
    clear hb2 ho2
    by_cases hc : 13 * cnt (aZ L) (L.n1 + L.n2) = L.n1 + L.n2
    · have HC : Hid (lgC L = 0) := lgC_ok hm hc
      have hd : (13 * (cnt (aZ L) (L.n1 + L.n2) : Int) != ((L.n1 + L.n2 : Nat) : Int)) = false := by simp; omega
      generalize cnt (aZ L) (L.n1 + L.n2) = m at *
      clear hc
      go_wp2_with fail
      go_ret
      exact ⟨ret_int HC.out.symm, HB2.out⟩
    · have HC : Hid (lgC L = 5) := lgC_text hm hc
      have hd : (13 * (cnt (aZ L) (L.n1 + L.n2) : Int) != ((L.n1 + L.n2 : Nat) : Int)) = true := by simp; omega
      generalize cnt (aZ L) (L.n1 + L.n2) = m at *
      clear hc
      go_wp2_with fail
      go_ret
      exact ⟨ret_int HC.out.symm, HB2.out⟩
theorem field_code3 (c u : Int) (v : Value) (w : World) : (Instr.field 113 (.agg #[.int .i64 c, .int .i64 u, v]) 0).run Tryz.prog w = .ok (.int .i64 c) w := by kernel_rfl
theorem implLf_any (L : Lo) (a1 a2 : Option Addr) (c1 c2 : Nat) (w : World) (hn1 : L.n1 ≤ 1048576) (hn2 : L.n2 ≤ 1048576) (hby : LogByt L) (h : LogAt w a1 a2 L) :
    Calls Tryz.prog 63 #[.agg #[.slice a1 L.n1 c1, .slice a2 L.n2 c2]] w fun e w' => e = .returned (.int .i64 (lgC L)) ∧ Below w.heap.size w w' := by
  have HA : Hid (LogAt w a1 a2 L) := h
  have HY : Hid (LogByt L) := hby
  have hfc := field_code3
  clear h hby
  go_enter Tryz.func63, Tryz.ntmps63
  go_wp2_with fail
  refine (readLog_any L a1 a2 c1 c2 _ hn1 hn2 HY.out (HA.out.below (below_new _ _))).mono ?_
  rintro e w1 ⟨ra, rcp, u, m, rfl, -, hb1, -⟩
  go_wp2_with fail
  go_ret
  exact ⟨rfl, below_then (below_new _ _) hb1⟩
theorem l3Count_any (L : Lo) (a1 a2 : Option Addr) (c1 c2 : Nat) (w : World) (hn : L.n1 + L.n2 ≤ 1048576) :
    Calls Tryz.prog 52 #[.agg #[.slice a1 L.n1 c1, .slice a2 L.n2 c2]] w fun e w' => e = .returned (.int .i64 ((L.n1 + L.n2 : Nat) / 13 : Nat)) ∧ Below w.heap.size w w' := by
  have hwr : IntKind.i64.wrap ((L.n1 : Int) + (L.n2 : Int)) = ((L.n1 + L.n2 : Nat) : Int) := by rw [IntKind.wrap_i64]; omega
  have hq : (((L.n1 + L.n2 : Nat) : Int)).tdiv 13 = (((L.n1 + L.n2) / 13 : Nat) : Int) := by rw [Int.tdiv_eq_ediv_of_nonneg (by omega)]; omega
  have hw2 : IntKind.i64.wrap (((L.n1 + L.n2) / 13 : Nat) : Int) = (((L.n1 + L.n2) / 13 : Nat) : Int) := by rw [IntKind.wrap_i64]; omega
  generalize L.n1 + L.n2 = t at *
  go_enter Tryz.func52, Tryz.ntmps52
  go_wp2_with fail
  go_ret
  exact ⟨rfl, below_new _ _⟩
end Go.Proofs.YtldnfiadafmomaaGreat
