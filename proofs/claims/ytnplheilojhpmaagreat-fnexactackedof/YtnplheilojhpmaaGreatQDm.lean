/- Marks in disks, and what is held of them. -/
import Derived.Test.YtnplheilojhpmaaGreatQDe
namespace Go.Proofs.YtnplheilojhpmaaGreat
open Go.RowKit Go.Deep
set_option linter.unusedVariables false
set_option maxRecDepth 20000

def upd {α : Type} (f : Nat → α) (j : Nat) (x : α) (i : Nat) : α := if i = j then x else f i
theorem upd_eq {α : Type} (f : Nat → α) (j : Nat) (x : α) : upd f j x j = x := by simp [upd]
theorem upd_ne {α : Type} (f : Nat → α) {j i : Nat} (x : α) (h : i ≠ j) : upd f j x i = f i := by simp [upd, h]
/-- One page of them, and what a change of its bytes alone leaves. -/
theorem OwnP.pick {w : World} {lo hi : Nat} {a : Option Addr} {n : Nat} {L : Nat → Nat} {Z : Nat → Nat → Int} (h : OwnP w lo hi a n L Z) {j : Nat} (hj : j < n) :
    ∃ b off g o c, a = some ⟨b, off, none⟩ ∧ w.cell? ⟨b, off + j, none⟩ = some (.slice (some ⟨g, o, none⟩) (L j) c) ∧ lo ≤ g ∧ g < hi ∧ Row1 w g o (L j) (Z j) ∧
      ∀ w1 z, Writes g (g + 1) w w1 → Row1 w1 g o (L j) z → OwnP w1 lo hi a n L (upd Z j z) := by
  obtain ⟨h0, h1 | ⟨b, off, ha, hlo, hl, g, o, c, hinj, hc⟩⟩ := h
  · omega
  obtain ⟨k0, k1, k2, k3, k4, -⟩ := hc j hj
  refine ⟨b, off, g j, o j, c j, ha, k3, k1, k2, k4, fun w1 z hw hr => ⟨Nat.le_trans h0 hw.size, .inr ⟨b, off, ha, hlo, hl, g, o, c, hinj, fun i hi => ?_⟩⟩⟩
  obtain ⟨m0, m1, m2, m3, m4, mc⟩ := hc i hi
  refine ⟨m0, m1, m2, (hw.cell (by omega) (by omega) _).trans m3, ?_, mc⟩
  by_cases e : i = j
  · subst e; rw [upd_eq]; exact hr
  · rw [upd_ne _ _ e]
    have : g i ≠ g j := fun q => e (hinj i j hi hj q)
    exact m4.block (hw.block _ (by omega) (by omega))
theorem OwnL.pick {w : World} {lo hi : Nat} {a : Option Addr} {n : Nat} {P T : Nat → Int} {L : Nat → Nat} {Z : Nat → Nat → Int} (h : OwnL w lo hi a n P T L Z) {j : Nat} (hj : j < n) :
    ∃ b off g o c, a = some ⟨b, off, none⟩ ∧ lo ≤ b ∧ b < hi ∧ g ≠ b ∧ w.cell? ⟨b, off + j * 3, none⟩ = some (.int .i64 (P j)) ∧ w.cell? ⟨b, off + j * 3 + 1, none⟩ = some (.int .i64 (T j)) ∧ w.cell? ⟨b, off + j * 3 + 2, none⟩ = some (.slice (some ⟨g, o, none⟩) (L j) c) ∧
      w.frozen? ⟨b, off + j * 3, none⟩ = false ∧ w.frozen? ⟨b, off + j * 3 + 1, none⟩ = false ∧ lo ≤ g ∧ g < hi ∧ Row1 w g o (L j) (Z j) ∧
      ∀ p t w1 z, Writes g (g + 1) ((w.setCell ⟨b, off + j * 3, none⟩ (.int .i64 p)).setCell ⟨b, off + j * 3 + 1, none⟩ (.int .i64 t)) w1 → Row1 w1 g o (L j) z → OwnL w1 lo hi a n (upd P j p) (upd T j t) L (upd Z j z) := by
  obtain ⟨h0, h1 | ⟨b, off, ha, hlo, hl, g, o, c, hinj, hc⟩⟩ := h
  · omega
  obtain ⟨k0, k1, k2, k3, k4, k5, k6, k7, k8, -⟩ := hc j hj
  refine ⟨b, off, g j, o j, c j, ha, hlo, hl, k0, k3, k4, k5, k6, k7, k1, k2, k8, fun p t w1 z hw hr => ?_⟩
  have hs : ((w.setCell ⟨b, off + j * 3, none⟩ (.int .i64 p)).setCell ⟨b, off + j * 3 + 1, none⟩ (.int .i64 t)).heap.size = w.heap.size := by simp [World.setCell]
  have hsz : w.heap.size ≤ w1.heap.size := by have := hw.size; omega
  refine ⟨Nat.le_trans h0 hsz, .inr ⟨b, off, ha, hlo, hl, g, o, c, hinj, fun i hi => ?_⟩⟩
  obtain ⟨m0, m1, m2, m3, m4, m5, m6, m7, m8, mc⟩ := hc i hi
  have cb : ∀ q, w1.cell? ⟨b, q, none⟩ = ((w.setCell ⟨b, off + j * 3, none⟩ (.int .i64 p)).setCell ⟨b, off + j * 3 + 1, none⟩ (.int .i64 t)).cell? ⟨b, q, none⟩ := fun q => hw.cell (by omega) (by omega) _
  have fb : ∀ q, w1.frozen? ⟨b, q, none⟩ = w.frozen? ⟨b, q, none⟩ := fun q => by
    rw [World.frozen?_of_block (w := ((w.setCell ⟨b, off + j * 3, none⟩ (.int .i64 p)).setCell ⟨b, off + j * 3 + 1, none⟩ (.int .i64 t))) (a := ⟨b, q, none⟩) (hw.block b (by omega) (by omega))]
    simp
  refine ⟨m0, m1, m2, ?_, ?_, ?_, by rw [fb]; exact m6, by rw [fb]; exact m7, ?_, mc⟩
  · rw [cb]
    by_cases e : i = j
    · subst e; rw [upd_eq, setO (by omega)]; exact setS m3
    · rw [upd_ne _ _ e, setO (by omega), setO (by omega)]; exact m3
  · rw [cb]
    by_cases e : i = j
    · subst e; rw [upd_eq]; exact setS ((setO (by omega)).trans m4)
    · rw [upd_ne _ _ e, setO (by omega), setO (by omega)]; exact m4
  · rw [cb, setO (by omega), setO (by omega)]; exact m5
  · by_cases e : i = j
    · subst e; rw [upd_eq]; exact hr
    · rw [upd_ne _ _ e]
      have : g i ≠ g j := fun q => e (hinj i j hi hj q)
      refine m8.block ((hw.block _ (by omega) (by omega)).trans ?_)
      rw [blk_setCell_other _ _ _ _ (by show g i ≠ b; exact m0), blk_setCell_other _ _ _ _ (by show g i ≠ b; exact m0)]
theorem OwnP.congr {w : World} {lo hi : Nat} {a : Option Addr} {n : Nat} {L : Nat → Nat} {Z Z' : Nat → Nat → Int} (h : OwnP w lo hi a n L Z) (e : ∀ i, i < n → ∀ q, q < L i → Z i q = Z' i q) : OwnP w lo hi a n L Z' := by
  obtain ⟨h0, h1 | ⟨b, off, ha, hlo, hl, g, o, c, hinj, hc⟩⟩ := h
  · exact ⟨h0, .inl h1⟩
  refine ⟨h0, .inr ⟨b, off, ha, hlo, hl, g, o, c, hinj, fun i hi => ?_⟩⟩
  obtain ⟨m0, m1, m2, m3, ⟨m4, m5⟩, mc⟩ := hc i hi
  exact ⟨m0, m1, m2, m3, ⟨fun q hq => by rw [m4 q hq, e i hi q hq], m5⟩, mc⟩
theorem OwnL.congr {w : World} {lo hi : Nat} {a : Option Addr} {n : Nat} {P T P' T' : Nat → Int} {L : Nat → Nat} {Z Z' : Nat → Nat → Int} (h : OwnL w lo hi a n P T L Z) (e1 : ∀ i, i < n → P i = P' i) (e2 : ∀ i, i < n → T i = T' i) (e : ∀ i, i < n → ∀ q, q < L i → Z i q = Z' i q) : OwnL w lo hi a n P' T' L Z' := by
  obtain ⟨h0, h1 | ⟨b, off, ha, hlo, hl, g, o, c, hinj, hc⟩⟩ := h
  · exact ⟨h0, .inl h1⟩
  refine ⟨h0, .inr ⟨b, off, ha, hlo, hl, g, o, c, hinj, fun i hi => ?_⟩⟩
  obtain ⟨m0, m1, m2, m3, m4, m5, m6, m7, ⟨m8, m9⟩, mc⟩ := hc i hi
  exact ⟨m0, m1, m2, by rw [m3, e1 i hi], by rw [m4, e2 i hi], m5, m6, m7, ⟨fun q hq => by rw [m8 q hq, e i hi q hq], m9⟩, mc⟩
/-- The marks of pages from m on. -/
def mZ (m : Int) (L : Nat → Nat) (i : Nat) : Nat → Int := bk (m + sumL L i)
def pre {α : Type} (f g : Nat → α) (j i : Nat) : α := if i < j then f i else g i
theorem pre_upd {α : Type} (f g : Nat → α) (j : Nat) : upd (pre f g j) j (f j) = pre f g (j + 1) := by
  funext i
  by_cases e : i = j
  · subst e; simp [upd, pre]
  · by_cases h : i < j
    · have : i < j + 1 := by omega
      simp [upd, pre, e, h, this]
    · have : ¬ i < j + 1 := by omega
      simp [upd, pre, e, h, this]
theorem pre_at {α : Type} (f g : Nat → α) (j : Nat) : pre f g j j = g j := by simp [pre]
theorem pre_lt {α : Type} (f g : Nat → α) {j i : Nat} (h : i < j) : pre f g j i = f i := by simp [pre, h]
theorem sumL_le (L : Nat → Nat) {n : Nat} : ∀ {i}, i ≤ n → sumL L i ≤ sumL L n := by
  induction n with
  | zero => intro i h; have : i = 0 := by omega
            subst this; exact Nat.le_refl _
  | succ n ih =>
    intro i h
    by_cases e : i = n + 1
    · subst e; exact Nat.le_refl _
    · have := ih (i := i) (by omega); simp only [sumL]; omega
set_option maxHeartbeats 400000 in
theorem markByteSS_any (n : Nat) (L : Nat → Nat) (Z : Nat → Nat → Int) (a : Option Addr) (cap lo hi : Nat) (m : Int) (w : World) (hn : n ≤ 1048576) (hs : sumL L n ≤ 1048576) (hm1 : 0 ≤ m) (hm2 : m ≤ 8388608) (h : OwnP w lo hi a n L Z) :
    Calls Tryz.prog 74 #[.slice a n cap, .int .i64 m] w fun e w' => e = .returned (.int .i64 (m + sumL L n)) ∧ Writes lo hi w w' ∧ OwnP w' lo hi a n L (mZ m L) := by
  have HO : Hid (OwnP w lo hi a n L Z) := h
  clear h
  go_enter Tryz.func74, Tryz.ntmps74
  go_wp2
  go_loopw [1, 5] (fun q i wr => ∃ k : Nat, k ≤ n ∧ i = .int .i64 k ∧ q = .int .i64 (m + sumL L k) ∧ Writes lo hi w wr ∧ OwnP wr lo hi a n L (pre (mZ m L) Z k)) (fun _ i _ => n - (intOf i).toNat)
  case atStart => exact ⟨0, Nat.zero_le _, rfl, by simp [sumL], Writes.refl _ _ _, HO.out.congr fun i _ q _ => by simp [pre]⟩
  case round =>
    obtain ⟨k, hk0, rfl, rfl, hb, ho⟩ := hrel
    by_cases hlt : k < n
    · obtain ⟨b, off, g, o, c, rfl, h1, h2, h3, h4, h5⟩ := ho.pick hlt
      rw [pre_at] at h4
      have hLk := sumL_ge L n k hlt
      have hsk := sumL_le L (n := n) (i := k) (by omega)
      have hstep : (sumL L (k + 1) : Int) = sumL L k + L k := by simp [sumL]
      have HR : Hid (Row1 wr g o (L k) (Z k)) := h4
      have H5 : Hid (∀ w1 z, Writes g (g + 1) wr w1 → Row1 w1 g o (L k) z → OwnP w1 lo hi (some ⟨b, off, none⟩) n L (upd (pre (mZ m L) Z k) k z)) := h5
      have HB : Hid (Writes lo hi w wr) := hb
      have HG : Hid (lo ≤ g ∧ g < hi) := ⟨h2, h3⟩
      have HM : Hid (mZ m L k = bk (m + sumL L k)) := rfl
      generalize hS : (sumL L k : Int) = S at *
      clear ho hb h2 h3 h4 h5
      go_wp2_with fail
      refine (markByteS_some (L k) (Z k) g o c g (g + 1) (m + S) wr (by omega) (by omega) (by omega) (Nat.le_refl _) (by omega) HR.out).mono ?_
      rintro e w1 ⟨rfl, hw, hr⟩
      have HW : Hid (Writes g (g + 1) wr w1) := hw
      have HR1 : Hid (Row1 w1 g o (L k) (mZ m L k)) := by
        refine ⟨fun i hi => ?_, hr.2⟩
        rw [hr.1 i hi, HM.out]; simp [mkb, hi]
      clear hw hr
      go_wp2_with fail
      go_roundw
      case rel =>
        refine ⟨k + 1, hlt, by go_num, by rw [hstep]; go_num, ?_, by rw [← pre_upd]; exact H5.out _ _ HW.out HR1.out⟩
        have h1 := HG.out.1
        have h2 := HG.out.2
        exact HB.out.trans ⟨HW.out.os, HW.out.tape, HW.out.output, HW.out.size, fun q hq hd => HW.out.block q hq (by omega)⟩
      case measure => simp [intOf]; omega
    · have hkn : k = n := by omega
      have HO2 : Hid (OwnP wr lo hi a n L (mZ m L)) := ho.congr fun i hi q _ => by rw [pre_lt _ _ (by omega)]
      clear ho
      go_wp2
      go_ret
      exact ⟨ret_int (by rw [hkn]), hb, HO2.out⟩
/-- The marks of loose writes from m on. -/
def s2 (L : Nat → Nat) (i : Nat) : Nat := sumL (fun i => L i + 2) i
def mP (m : Int) (L : Nat → Nat) (i : Nat) : Int := m + s2 L i
def mT (m : Int) (L : Nat → Nat) (i : Nat) : Int := m + s2 L i + 1
def mY (m : Int) (L : Nat → Nat) (i : Nat) : Nat → Int := bk (m + s2 L i + 2)
theorem s2_eq (L : Nat → Nat) : ∀ n, s2 L n = sumL L n + 2 * n
  | 0 => rfl
  | n + 1 => by have := s2_eq L n; simp only [s2, sumL] at *; omega
set_option maxHeartbeats 400000 in
theorem markLooseS_any (n : Nat) (P T : Nat → Int) (L : Nat → Nat) (Z : Nat → Nat → Int) (a : Option Addr) (cap lo hi : Nat) (m : Int) (w : World) (hn : n ≤ 1048576) (hs : sumL L n ≤ 1048576) (hm1 : 0 ≤ m) (hm2 : m ≤ 8388608) (h : OwnL w lo hi a n P T L Z) :
    Calls Tryz.prog 75 #[.slice a n cap, .int .i64 m] w fun e w' => e = .returned (.int .i64 (m + s2 L n)) ∧ Writes lo hi w w' ∧ OwnL w' lo hi a n (mP m L) (mT m L) L (mY m L) := by
  have HO : Hid (OwnL w lo hi a n P T L Z) := h
  clear h
  go_enter Tryz.func75, Tryz.ntmps75
  go_wp2
  go_loopw [1, 5] (fun q i wr => ∃ k : Nat, k ≤ n ∧ i = .int .i64 k ∧ q = .int .i64 (m + s2 L k) ∧ Writes lo hi w wr ∧ OwnL wr lo hi a n (pre (mP m L) P k) (pre (mT m L) T k) L (pre (mY m L) Z k)) (fun _ i _ => n - (intOf i).toNat)
  case atStart => exact ⟨0, Nat.zero_le _, rfl, by simp [s2, sumL], Writes.refl _ _ _, HO.out.congr (fun i _ => by simp [pre]) (fun i _ => by simp [pre]) fun i _ q _ => by simp [pre]⟩
  case round =>
    obtain ⟨k, hk0, rfl, rfl, hb, ho⟩ := hrel
    by_cases hlt : k < n
    · obtain ⟨b, off, g, o, c, rfl, hb1, hb2, hgb, h1, h2, h3, h4, h5, h6, h7, h8, h9⟩ := ho.pick hlt
      rw [pre_at] at h8 h1 h2
      have hLk := sumL_ge L n k hlt
      have hsk := sumL_le L (n := n) (i := k) (by omega)
      have hstep : (s2 L (k + 1) : Int) = s2 L k + L k + 2 := by simp [s2, sumL]; omega
      have hbd : s2 L k = sumL L k + 2 * k := s2_eq L k
      have HR : Hid (Row1 wr g o (L k) (Z k)) := h8
      have H9 : Hid (∀ p t w1 z, Writes g (g + 1) ((wr.setCell ⟨b, off + k * 3, none⟩ (.int .i64 p)).setCell ⟨b, off + k * 3 + 1, none⟩ (.int .i64 t)) w1 → Row1 w1 g o (L k) z → OwnL w1 lo hi (some ⟨b, off, none⟩) n (upd (pre (mP m L) P k) k p) (upd (pre (mT m L) T k) k t) L (upd (pre (mY m L) Z k) k z)) := h9
      have HB : Hid (Writes lo hi w wr) := hb
      have HG : Hid (lo ≤ g ∧ g < hi ∧ lo ≤ b ∧ b < hi ∧ g ≠ b) := ⟨h6, h7, hb1, hb2, hgb⟩
      have HM1 : Hid (mP m L k = m + s2 L k) := rfl
      have HM2 : Hid (mT m L k = m + s2 L k + 1) := rfl
      have HM3 : Hid (mY m L k = bk (m + s2 L k + 2)) := rfl
      have hSb : (s2 L k : Int) ≤ 3145728 := by omega
      have hS0 : 0 ≤ (s2 L k : Int) := by omega
      generalize hS : (s2 L k : Int) = S at *
      clear ho hb h6 h7 hb1 hb2 hgb h8 h9 hbd hS
      go_wp2_with fail
      refine (markByteS_some (L k) (Z k) g o c g (g + 1) (m + S + 1 + 1) _ (by omega) (by omega) (by omega) (Nat.le_refl _) (by omega) (HR.out.block ?_)).mono ?_
      · rw [blk_setCell_other _ _ _ _ (by show g ≠ b; exact HG.out.2.2.2.2), blk_setCell_other _ _ _ _ (by show g ≠ b; exact HG.out.2.2.2.2)]
      rintro e w1 ⟨rfl, hw, hr⟩
      have HW : Hid (Writes g (g + 1) ((wr.setCell ⟨b, off + k * 3, none⟩ (.int .i64 (m + S))).setCell ⟨b, off + k * 3 + 1, none⟩ (.int .i64 (m + S + 1))) w1) := hw
      have HR1 : Hid (Row1 w1 g o (L k) (mY m L k)) := by
        refine ⟨fun i hi => ?_, hr.2⟩
        rw [hr.1 i hi, HM3.out]; simp [mkb, hi]; congr 1; omega
      clear hw hr
      go_wp2_with fail
      go_roundw
      case rel =>
        have H := H9.out (m + S) (m + S + 1) w1 (mY m L k) HW.out HR1.out
        rw [← HM2.out, ← HM1.out, pre_upd, pre_upd, pre_upd] at H
        refine ⟨k + 1, hlt, by go_num, by rw [hstep]; go_num, ?_, H⟩
        obtain ⟨g1, g2, g3, g4, g5⟩ := HG.out
        refine HB.out.trans (Writes.trans (Writes.setCell (Writes.setCell (Writes.refl _ _ _) (p := ⟨b, off + k * 3, none⟩) g3 g4 (.int .i64 (m + S))) (p := ⟨b, off + k * 3 + 1, none⟩) g3 g4 (.int .i64 (m + S + 1))) ?_)
        exact ⟨HW.out.os, HW.out.tape, HW.out.output, HW.out.size, fun q hq hd => HW.out.block q hq (by omega)⟩
      case measure => simp [intOf]; omega
    · have hkn : k = n := by omega
      have HO2 : Hid (OwnL wr lo hi a n (mP m L) (mT m L) L (mY m L)) := ho.congr (fun i hi => by rw [pre_lt _ _ (by omega)]) (fun i hi => by rw [pre_lt _ _ (by omega)]) fun i hi q _ => by rw [pre_lt _ _ (by omega)]
      clear ho
      go_wp2
      go_ret
      exact ⟨ret_int (by rw [hkn]), hb, HO2.out⟩
end Go.Proofs.YtnplheilojhpmaaGreat
