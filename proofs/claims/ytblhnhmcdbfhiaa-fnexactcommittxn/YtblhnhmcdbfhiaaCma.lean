/- Rows that are committed in place: impl.commitRows. -/
import Derived.Test.YtblhnhmcdbfhiaaKz
import Derived.Test.YtblhnhmcdbfhiaaVo
namespace Go.Proofs.Ytblhnhmcdbfhiaa
open Go.RowKit Go.Deep
set_option linter.unusedVariables false
set_option maxRecDepth 20000

/-- One of them, and what a change of its slice's elements leaves. -/
theorem OwnRw.chain {w : World} {lo hi : Nat} {a : Option Addr} {n : Nat} {T : Nat → Rw} (h : OwnRw w lo hi a n T) {j : Nat} (hj : j < n) :
    ∃ b off ai ci l h, a = some ⟨b, off, none⟩ ∧ lo ≤ b ∧ b < hi ∧ CRw w b (off + j * 2) (T j) ai ci ∧ (T j).n ≤ ci ∧ (h = 0 ∨ lo ≤ l ∧ h ≤ hi) ∧ Own4 w l h ai (T j).n (T j).U ∧
      ∀ U w1, Writes l h w w1 → Own4 w1 l h ai (T j).n U → OwnRw w1 lo hi a n (upf T j ⟨(T j).key, (T j).n, U⟩) := by
  obtain ⟨h0, h1 | ⟨b, off, ha, hlo, hl, hf, l, h, hd, hc⟩⟩ := h
  · omega
  obtain ⟨k0, k1, ai, ci, k2, k3, k4⟩ := hc j hj
  refine ⟨b, off, ai, ci, l j, h j, ha, hlo, hl, k2, k3, k1, k4, fun U w1 hw hr => ?_⟩
  have hsz : w.heap.size ≤ w1.heap.size := hw.size
  have eb : w1.heap[b]? = w.heap[b]? := hw.block b (by omega) (by omega)
  refine ⟨Nat.le_trans h0 hsz, .inr ⟨b, off, ha, hlo, hl, fun i => ?_, l, h, hd, fun i hi => ?_⟩⟩
  · rw [World.frozen?_of_block (w := w) (a := ⟨b, i, none⟩) eb]; exact hf i
  · obtain ⟨m0, m1, ai', ci', m2, m3, m4⟩ := hc i hi
    by_cases e : i = j
    · subst e
      rw [upf_eq]
      exact ⟨m0, m1, ai, ci, k2.block eb, k3, hr⟩
    · rw [upf_ne _ _ e]
      exact ⟨m0, m1, ai', ci', m2.block eb, m3, m4.writes hw (by have := hd i j hi hj e; omega)⟩
/-- A row of which the open version of 'id' is committed at y; the first k rows so. -/
def cmR (r : Rw) (id y : Int) : Rw := if fob r.n r.U id = true then ⟨r.key, r.n, coS r.U y⟩ else r
def cmk (R : Nat → Rw) (id y : Int) (k i : Nat) : Rw := if i < k then cmR (R i) id y else R i
theorem cmk_zero (R : Nat → Rw) (id y : Int) : cmk R id y 0 = R := by funext i; simp [cmk]
theorem cmk_at (R : Nat → Rw) (id y : Int) (k : Nat) : cmk R id y k k = R k := if_neg (Nat.lt_irrefl _)
theorem cmk_step (R : Nat → Rw) (id y : Int) (k i : Nat) : upf (cmk R id y k) k (cmR (R k) id y) i = cmk R id y (k + 1) i := by
  by_cases e : i = k
  · subst e; rw [upf_eq]; exact (if_pos (Nat.lt_succ_self _)).symm
  · rw [upf_ne _ _ e]; unfold cmk
    have : (i < k + 1) ↔ (i < k) := by omega
    simp only [this]
theorem cmk_skip {R : Nat → Rw} {id y : Int} {k : Nat} (h : fob (R k).n (R k).U id = false) (i : Nat) : cmk R id y k i = cmk R id y (k + 1) i := by
  rw [← cmk_step]
  by_cases e : i = k
  · subst e; rw [upf_eq, cmk_at]; exact (if_neg (by simp [h])).symm
  · rw [upf_ne _ _ e]
set_option maxHeartbeats 2000000 in
theorem commitRows_any (q : Nat) (R : Nat → Rw) (a : Option Addr) (cap : Nat) (id y : Int) (lo hi : Nat) (w : World) (hq : q ≤ 1048576) (h : OwnRw w lo hi a q R) :
    Calls Try.prog 103 #[.slice a q cap, .int .i64 id, .int .i64 y] w fun e w' => e = .returned (.tuple #[]) ∧ Writes lo hi w w' ∧ OwnRw w' lo hi a q (cmk R id y q) := by
  have HO0 : Hid (OwnRw w lo hi a q (cmk R id y 0)) := by rw [cmk_zero]; exact h
  clear h
  go_enter Try.func103, Try.ntmps103
  go_wp2_with fail
  go_loopw [6, 7, 10] (fun _ _ i wr => ∃ k : Nat, k ≤ q ∧ i = .int .i64 k ∧ Hid (Writes lo hi w wr) ∧ Hid (OwnRw wr lo hi a q (cmk R id y k))) (fun _ _ i _ => q - (intOf i).toNat)
  case atStart => exact ⟨0, Nat.zero_le _, rfl, Writes.refl _ _ _, HO0⟩
  case round =>
    obtain ⟨k, hk, rfl, HW, HO⟩ := hrel
    by_cases hlt : k < q
    · have hlt' : (k : Int) < (q : Int) := by omega
      have hk0 : (0 : Int) ≤ (k : Int) := by omega
      obtain ⟨b, off, ai, ci, l, hh, rfl, hlo, hhi, hC, hci, hlr, hown, hput⟩ := HO.out.chain hlt
      rw [cmk_at] at hC hci hown hput
      have HV : Hid (VersAt wr ai (R k).n (R k).U) := hown.at
      have HOW : Hid (Own4 wr l hh ai (R k).n (R k).U) := hown
      have HPT : Hid (∀ U w1, Writes l hh wr w1 → Own4 w1 l hh ai (R k).n U → OwnRw w1 lo hi (some ⟨b, off, none⟩) q (upf (cmk R id y k) k ⟨(R k).key, (R k).n, U⟩)) := hput
      obtain ⟨x0, x1⟩ := hC
      clear hown hput HO0
      go_wp2_with fail
      refine (firstIsOpenBy_any (R k).n (R k).U ai ci id wr HV.out).mono ?_
      rintro e w1 ⟨rfl, hb1⟩
      have HW1 : Hid (Writes lo hi w w1) := HW.out.trans (Writes.of_below hb1)
      have HO1 : Hid (OwnRw w1 lo hi (some ⟨b, off, none⟩) q (cmk R id y k)) := HO.out.below hb1
      have HOW1 : Hid (Own4 w1 l hh ai (R k).n (R k).U) := HOW.out.below hb1
      have HPT1 : Hid (∀ U w2, Writes l hh w1 w2 → Own4 w2 l hh ai (R k).n U → OwnRw w2 lo hi (some ⟨b, off, none⟩) q (upf (cmk R id y k) k ⟨(R k).key, (R k).n, U⟩)) := fun U w2 hw ho => HPT.out U w2 ((Writes.of_below hb1).trans hw) ho
      clear hb1 HW HO HV HOW HPT x0 x1
      obtain hf | hf := bool_or2 (fob (R k).n (R k).U id)
      · have hp : 0 < (R k).n := by
          unfold fob at hf
          simp only [Bool.and_eq_true, decide_eq_true_eq] at hf
          exact hf.1
        have hp1 : (0 : Int) < ((R k).n : Int) := by omega
        have hcm : cmR (R k) id y = ⟨(R k).key, (R k).n, coS (R k).U y⟩ := if_pos hf
        obtain ⟨ho0, ho1 | ⟨vb, vo, rfl, hv1, hv2, hrow⟩⟩ := HOW1.out
        · omega
        obtain ⟨c0, c1, c2, c3⟩ := hrow.1 0 hp
        have cf := hrow.2
        rw [Nat.zero_mul, Nat.add_zero] at c0 c1 c2 c3
        have hws : Writes l hh w1 (w1.setCell ⟨vb, vo + 1, none⟩ (.int .i64 y)) := Writes.setCell (Writes.refl _ _ _) (p := ⟨vb, vo + 1, none⟩) hv1 hv2 _
        have HO2 : Hid (OwnRw (w1.setCell ⟨vb, vo + 1, none⟩ (.int .i64 y)) lo hi (some ⟨b, off, none⟩) q (cmk R id y (k + 1))) := by
          have h := HPT1.out (coS (R k).U y) _ hws ⟨Nat.le_trans ho0 hws.size, .inr ⟨vb, vo, rfl, hv1, hv2, row4_at hp hrow⟩⟩
          rw [← hcm] at h
          exact h.congr fun i _ => cmk_step R id y k i
        have HW2 : Hid (Writes lo hi w (w1.setCell ⟨vb, vo + 1, none⟩ (.int .i64 y))) := HW1.out.setCell (p := ⟨vb, vo + 1, none⟩) (by show lo ≤ vb; omega) (by show vb < hi; omega) _
        rw [hf]
        clear hf hcm hrow hws HW1 HO1 HOW1 HPT1
        go_wp2_with fail
        go_roundw
        case rel => exact ⟨k + 1, hlt, by go_num, HW2, HO2⟩
        case measure => simp [intOf]; omega
      · have HO2 : Hid (OwnRw w1 lo hi (some ⟨b, off, none⟩) q (cmk R id y (k + 1))) := HO1.out.congr fun i _ => cmk_skip hf i
        rw [hf]
        clear hf HO1 HOW1 HPT1
        go_wp2_with fail
        go_roundw
        case rel => exact ⟨k + 1, hlt, by go_num, HW1, HO2⟩
        case measure => simp [intOf]; omega
    · have hkn : k = q := by omega
      have hnl : ¬ ((k : Int) < (q : Int)) := by omega
      subst hkn
      clear HO0
      go_wp2_with fail
      go_end0
      exact ⟨rfl, HW.out, HO.out⟩
/-- The j-th transaction's numbers are written, its undos taken away. -/
theorem OwnTx.put {w w1 : World} {lo hi b off n j : Nat} {T : Nat → Tx} {t : Tx} {ui : Option Addr} {uc : Nat} (h : OwnTx w lo hi (some ⟨b, off, none⟩) n T) (hj : j < n) (hw : Writes b (b + 1) w w1)
    (hfar : ∀ o', (o' < off + j * 5 ∨ off + j * 5 + 4 < o') → w1.cell? ⟨b, o', none⟩ = w.cell? ⟨b, o', none⟩) (hfr : ∀ i, w1.frozen? ⟨b, i, none⟩ = w.frozen? ⟨b, i, none⟩) (hC : CTx w1 b (off + j * 5) t ui uc) (hn : t.n = 0) :
    OwnTx w1 lo hi (some ⟨b, off, none⟩) n (upf T j t) := by
  obtain ⟨h0, h1 | ⟨b1, off1, ha, hlo, hl, hf, l, h, hd, hc⟩⟩ := h
  · omega
  simp only [Option.some.injEq, Addr.mk.injEq, and_true] at ha
  obtain ⟨rfl, rfl⟩ := ha
  have hsz := hw.size
  refine ⟨Nat.le_trans h0 hsz, .inr ⟨b, off, rfl, hlo, hl, fun i => (hfr i).trans (hf i), l, h, hd, fun i hi => ?_⟩⟩
  obtain ⟨k0, k1, ai, ci, k2, k3, k4⟩ := hc i hi
  by_cases e : i = j
  · subst e
    rw [upf_eq]
    refine ⟨k0, k1, ui, uc, hC, by omega, ?_⟩
    rw [hn]
    exact ⟨Nat.le_trans k4.1 hsz, .inl rfl⟩
  · rw [upf_ne _ _ e]
    refine ⟨k0, k1, ai, ci, ?_, k3, k4.writes hw (by omega)⟩
    have g : ∀ q, q < 5 → w1.cell? ⟨b, off + i * 5 + q, none⟩ = w.cell? ⟨b, off + i * 5 + q, none⟩ := fun q hq => hfar _ (by omega)
    obtain ⟨g0, g1, g2, g3, g4⟩ := k2
    exact ⟨(g 0 (by omega)).trans g0, (g 1 (by omega)).trans g1, (g 2 (by omega)).trans g2, (g 3 (by omega)).trans g3, (g 4 (by omega)).trans g4⟩
/-- The j-th transaction's numbers are written, its undos left. -/
theorem OwnTx.num {w w1 : World} {lo hi b off n j : Nat} {T : Nat → Tx} {t : Tx} (h : OwnTx w lo hi (some ⟨b, off, none⟩) n T) (hj : j < n) (hw : Writes b (b + 1) w w1)
    (hfar : ∀ o', (o' < off + j * 5 ∨ off + j * 5 + 4 < o') → w1.cell? ⟨b, o', none⟩ = w.cell? ⟨b, o', none⟩) (hfr : ∀ i, w1.frozen? ⟨b, i, none⟩ = w.frozen? ⟨b, i, none⟩) (hC : ∀ ui uc, CTx w b (off + j * 5) (T j) ui uc → CTx w1 b (off + j * 5) t ui uc) (hn : t.n = (T j).n) (hU : t.U = (T j).U) :
    OwnTx w1 lo hi (some ⟨b, off, none⟩) n (upf T j t) := by
  obtain ⟨h0, h1 | ⟨b1, off1, ha, hlo, hl, hf, l, h, hd, hc⟩⟩ := h
  · omega
  simp only [Option.some.injEq, Addr.mk.injEq, and_true] at ha
  obtain ⟨rfl, rfl⟩ := ha
  have hsz := hw.size
  refine ⟨Nat.le_trans h0 hsz, .inr ⟨b, off, rfl, hlo, hl, fun i => (hfr i).trans (hf i), l, h, hd, fun i hi => ?_⟩⟩
  obtain ⟨k0, k1, ai, ci, k2, k3, k4⟩ := hc i hi
  by_cases e : i = j
  · subst e
    rw [upf_eq]
    refine ⟨k0, k1, ai, ci, hC _ _ k2, by omega, ?_⟩
    rw [hn, hU]
    exact k4.writes hw (by omega)
  · rw [upf_ne _ _ e]
    refine ⟨k0, k1, ai, ci, ?_, k3, k4.writes hw (by omega)⟩
    have g : ∀ q, q < 5 → w1.cell? ⟨b, off + i * 5 + q, none⟩ = w.cell? ⟨b, off + i * 5 + q, none⟩ := fun q hq => hfar _ (by omega)
    obtain ⟨g0, g1, g2, g3, g4⟩ := k2
    exact ⟨(g 0 (by omega)).trans g0, (g 1 (by omega)).trans g1, (g 2 (by omega)).trans g2, (g 3 (by omega)).trans g3, (g 4 (by omega)).trans g4⟩
theorem Writes.drew1 {lo hi : Nat} {w w' : World} (h : Writes lo hi w w') : Writes lo hi w w'.drew := h.trans (Writes.of_below ((Below.refl _ _).drew))
end Go.Proofs.Ytblhnhmcdbfhiaa
