/- Trees in memory: marked. -/
import Derived.Test.YtbnehgpefjbheaaTnb
namespace Go.Proofs.Ytbnehgpefjbheaa
open Go.RowKit Go.Deep
set_option linter.unusedVariables false
set_option maxRecDepth 20000

def sNd (T : Nat → Nd) (i : Nat) : Nat := smf (fun i => (T i).kn + (T i).dn + 1) i
theorem sNd_eq (T : Nat → Nd) : ∀ i, sNd T i = smNd T i + i
  | 0 => rfl
  | i + 1 => by
    have := sNd_eq T i
    unfold sNd smNd at *
    simp only [smf]
    omega
def mBl (m : Int) : Bool := m.tmod 3 == 0
def mNd (m : Int) (t : Nd) : Nd := ⟨mBl m, t.kn, ik (m + 1), t.dn, ik (m + 1 + t.kn)⟩
def mT (m : Int) (T : Nat → Nd) (i : Nat) : Nd := mNd (m + sNd T i) (T i)
/-- One of the nodes, and what a change of it leaves. -/
theorem OwnNd.pick {w : World} {lo hi : Nat} {a : Option Addr} {n : Nat} {T : Nat → Nd} (h : OwnNd w lo hi a n T) {j : Nat} (hj : j < n) :
    ∃ b off ak ck ad cd l h, a = some ⟨b, off, none⟩ ∧ lo ≤ b ∧ b < hi ∧ (∀ i, w.frozen? ⟨b, i, none⟩ = false) ∧ CNd w b (off + j * 3) (T j) ak ck ad cd ∧ (b < l ∨ h ≤ b) ∧ (h = 0 ∨ lo ≤ l ∧ h ≤ hi) ∧ OwnKD w l h ak ad (T j) ∧
      ∀ t w1, t.kn = (T j).kn → t.dn = (T j).dn → Writes l h (w.setCell ⟨b, off + j * 3, none⟩ (.bool t.lf)) w1 → OwnKD w1 l h ak ad t → OwnNd w1 lo hi a n (upf T j t) := by
  obtain ⟨h0, h1 | ⟨b, off, ha, hlo, hl, hf, l, h, hd, hc⟩⟩ := h
  · omega
  obtain ⟨k0, k1, ak, ck, ad, cd, k2, k3, k3', k4⟩ := hc j hj
  refine ⟨b, off, ak, ck, ad, cd, l j, h j, ha, hlo, hl, hf, k2, k0, k1, k4, fun t w1 hn hn2 hw hr => ?_⟩
  have hsz : w.heap.size ≤ w1.heap.size := by have := hw.size; simpa [World.setCell] using this
  have hs0 : (w.setCell ⟨b, off + j * 3, none⟩ (.bool t.lf)).heap.size = w.heap.size := by simp [World.setCell]
  have eb : w1.heap[b]? = (w.setCell ⟨b, off + j * 3, none⟩ (.bool t.lf)).heap[b]? := hw.block b (by rw [hs0]; omega) (by omega)
  have cb : ∀ q, w1.cell? ⟨b, q, none⟩ = (w.setCell ⟨b, off + j * 3, none⟩ (.bool t.lf)).cell? ⟨b, q, none⟩ := fun q => World.cell?_of_block (a := ⟨b, q, none⟩) eb
  refine ⟨Nat.le_trans h0 hsz, .inr ⟨b, off, ha, hlo, hl, fun i => ?_, l, h, hd, fun i hi => ?_⟩⟩
  · rw [World.frozen?_of_block (a := ⟨b, i, none⟩) eb, World.frozen?_setCell]; exact hf i
  · obtain ⟨m0, m1, ak', ck', ad', cd', m2, m3, m3', m4⟩ := hc i hi
    by_cases e : i = j
    · subst e
      rw [upf_eq]
      refine ⟨m0, m1, ak, ck, ad, cd, ⟨(cb _).trans (setS k2.1), ?_, ?_⟩, by rw [hn]; exact k3, by rw [hn2]; exact k3', hr⟩
      · rw [cb, setO (by omega), hn]; exact k2.2.1
      · rw [cb, setO (by omega), hn2]; exact k2.2.2
    · rw [upf_ne _ _ e]
      have m9 := m4.lt
      have k9 := k4.lt
      refine ⟨m0, m1, ak', ck', ad', cd', ⟨?_, ?_, ?_⟩, m3, m3', ?_⟩
      · rw [cb, setO (by omega)]; exact m2.1
      · rw [cb, setO (by omega)]; exact m2.2.1
      · rw [cb, setO (by omega)]; exact m2.2.2
      · have hdd := hd i j hi hj e
        have m5 := m4.writes (w' := w.setCell ⟨b, off + j * 3, none⟩ (.bool t.lf)) (lo' := b) (hi' := b + 1) ((Writes.refl _ _ _).setCell (p := ⟨b, _, none⟩) (Nat.le_refl _) (Nat.lt_succ_self _) _) (by omega)
        exact m5.writes hw (by omega)
theorem wide3 {lo hi lo' hi' : Nat} {w w' : World} (h : Writes lo hi w w') (e : hi ≤ lo ∨ lo' ≤ lo ∧ hi ≤ hi') : Writes lo' hi' w w' :=
  ⟨h.os, h.tape, h.output, h.size, fun k hk hd => h.block k hk (by omega)⟩
set_option maxHeartbeats 4000000 in
theorem markNodeS_any (n : Nat) (T : Nat → Nd) (a : Option Addr) (cap lo hi : Nat) (m : Int) (w : World) (hn : n ≤ 1048576) (hs : smNd T n ≤ 1048576) (hm1 : 0 ≤ m) (hm2 : m ≤ 16777216) (h : OwnNd w lo hi a n T) :
    Calls Try.prog 57 #[.slice a n cap, .int .i64 m] w fun e w' => e = .returned (.int .i64 (m + sNd T n)) ∧ Writes lo hi w w' ∧ OwnNd w' lo hi a n (mT m T) := by
  have HO : Hid (OwnNd w lo hi a n T) := h
  clear h
  go_enter Try.func57, Try.ntmps57
  go_wp2
  go_loopw [1, 5] (fun q i wr => ∃ k : Nat, k ≤ n ∧ i = .int .i64 k ∧ q = .int .i64 (m + sNd T k) ∧ Hid (Writes lo hi w wr) ∧ Hid (OwnNd wr lo hi a n (pref (mT m T) T k))) (fun _ i _ => n - (intOf i).toNat)
  case atStart => exact ⟨0, Nat.zero_le _, rfl, by simp [sNd, smf], Writes.refl _ _ _, by rw [pref_zero]; exact HO⟩
  case round =>
    obtain ⟨k, hk0, rfl, rfl, HB, HP⟩ := hrel
    by_cases hlt : k < n
    · obtain ⟨b, off, ak, ck, ad, cd, l, h, rfl, hb1, hb2, hf, hC, hbd, hr, hO, hU⟩ := HP.out.pick hlt
      rw [pref_at] at hC hO hU
      have hLk := smf_ge (fun i => (T i).kn + (T i).dn) n k hlt
      have hsk := smf_le (fun i => (T i).kn + (T i).dn) (n := n) (i := k) (by omega)
      have hstep : (sNd T (k + 1) : Int) = sNd T k + (T k).kn + (T k).dn + 1 := by simp [sNd, smf]; omega
      have hbS : sNd T k = smNd T k + k := sNd_eq T k
      have HM : Hid (mT m T k = mNd (m + sNd T k) (T k)) := rfl
      have hSb : (sNd T k : Int) ≤ 2097152 := by unfold smNd at *; omega
      have hS0 : 0 ≤ (sNd T k : Int) := by omega
      have hTk : (T k).kn ≤ 1048576 := by unfold smNd at *; omega
      have hTd : (T k).dn ≤ 1048576 := by unfold smNd at *; omega
      generalize hS : (sNd T k : Int) = S at *
      have HU : Hid (∀ t w1, t.kn = (T k).kn → t.dn = (T k).dn → Writes l h (wr.setCell ⟨b, off + k * 3, none⟩ (.bool t.lf)) w1 → OwnKD w1 l h ak ad t → OwnNd w1 lo hi (some ⟨b, off, none⟩) n (upf (pref (mT m T) T k) k t)) := hU
      obtain ⟨md, e1, e2, hk1, hk2⟩ := hO
      have HK1 : Hid (OwnI wr l md ak (T k).kn (T k).K) := hk1
      have HK2 : Hid (OwnI wr md h ad (T k).dn (T k).D) := hk2
      have HBD : Hid ((b < l ∨ h ≤ b) ∧ (h = 0 ∨ lo ≤ l ∧ h ≤ hi) ∧ l ≤ md ∧ md ≤ h ∧ lo ≤ b ∧ b < hi) := ⟨hbd, hr, e1, e2, hb1, hb2⟩
      obtain ⟨q0, q1, q2⟩ := hC
      have HBN : Hid (b < wr.heap.size) := Go.block_lt_of_cell q0
      have hlt' : (k : Int) < (n : Int) := by omega
      have hk0' : (0 : Int) ≤ (k : Int) := by omega
      have hbl3 : ((m + S) % 3 == 0) = mBl (m + S) := by unfold mBl; rw [Int.tmod_eq_emod_of_nonneg (by omega)]
      clear hk1 hk2 hbd hr e1 e2 hb1 hb2 hU hsk hLk hbS
      generalize T k = t at *
      go_upto_region 5 with fail
      obtain ⟨W1, hW1⟩ : ∃ y, y = wr.setCell ⟨b, off + k * 3, none⟩ (.bool (mBl (m + S))) := ⟨_, rfl⟩
      have HW1 : Hid (Writes b (b + 1) wr W1) := by rw [hW1]; exact (Writes.refl _ _ _).setCell (p := ⟨b, _, none⟩) (Nat.le_refl _) (Nat.lt_succ_self _) _
      have p1 : W1.cell? ⟨b, off + k * 3 + 1, none⟩ = some (.slice ak t.kn ck) := by rw [hW1, setO (by omega)]; exact q1
      have p2 : W1.cell? ⟨b, off + k * 3 + 2, none⟩ = some (.slice ad t.dn cd) := by rw [hW1, setO (by omega)]; exact q2
      have HWE : Hid (W1 = wr.setCell ⟨b, off + k * 3, none⟩ (.bool (mBl (m + S)))) := hW1
      have HSZ : Hid (W1.heap.size = wr.heap.size) := by rw [hW1]; simp [Hid, World.setCell]
      rw [← hW1]
      have HJ1 : Hid (OwnI W1 l md ak t.kn t.K) := HK1.out.writes HW1.out (by have := HBD.out; omega)
      have HJ2 : Hid (OwnI W1 md h ad t.dn t.D) := HK2.out.writes HW1.out (by have := HBD.out; omega)
      clear hW1 q0 q1 q2 HK1 HK2 hf HP
      go_wp2_with fail
      refine (markInt64S_any t.kn t.K ak ck l md (m + S + 1) W1 hTk (by omega) (by omega) HJ1.out).mono ?_
      rintro e w1 ⟨rfl, hw1, ho1⟩
      have HX1 : Hid (Writes l md W1 w1) := hw1
      have HO1 : Hid (OwnI w1 l md ak t.kn (ik (m + S + 1))) := ho1
      have HJ3 : Hid (OwnI w1 md h ad t.dn t.D) := HJ2.out.writes hw1 (.inr (Nat.le_refl _))
      have r2 : w1.cell? ⟨b, off + k * 3 + 2, none⟩ = some (.slice ad t.dn cd) := cell_writes p2 hw1 (by have := HBD.out; omega)
      clear hw1 ho1 p1 p2 HJ1 HJ2
      go_wp2_with fail
      refine (markInt64S_any t.dn t.D ad cd md h (m + S + 1 + t.kn) w1 hTd (by omega) (by omega) HJ3.out).mono ?_
      rintro e w2 ⟨rfl, hw2, ho2⟩
      have HX2 : Hid (Writes md h w1 w2) := hw2
      have HO2 : Hid (OwnI w2 md h ad t.dn (ik (m + S + 1 + t.kn))) := ho2
      have HO3 : Hid (OwnI w2 l md ak t.kn (ik (m + S + 1))) := HO1.out.writes hw2 (.inl (Nat.le_refl _))
      have HWA : Hid (Writes l h W1 w2) := (wide3 HX1.out (.inr ⟨Nat.le_refl _, HBD.out.2.2.2.1⟩)).trans (wide3 hw2 (.inr ⟨HBD.out.2.2.1, Nat.le_refl _⟩))
      have HFIN : Hid (OwnNd w2 lo hi (some ⟨b, off, none⟩) n (pref (mT m T) T (k + 1))) := by
        have hX : OwnNd w2 lo hi (some ⟨b, off, none⟩) n (upf (pref (mT m T) T k) k (mNd (m + S) t)) := HU.out (mNd (m + S) t) w2 rfl rfl (by show Writes l h (wr.setCell ⟨b, off + k * 3, none⟩ (.bool (mBl (m + S)))) w2; rw [← HWE.out]; exact HWA.out) ⟨md, HBD.out.2.2.1, HBD.out.2.2.2.1, HO3.out, HO2.out⟩
        rw [← HM.out, pref_upf] at hX
        exact hX
      have HBF : Hid (Writes lo hi w w2) := by
        refine HB.out.trans ((wide3 HW1.out (.inr ⟨HBD.out.2.2.2.2.1, HBD.out.2.2.2.2.2⟩)).trans (wide3 HWA.out ?_))
        have := HBD.out
        omega
      clear hw2 ho2 r2 HX1 HX2 HU HWE
      go_wp2_with fail
      go_roundw
      case rel => exact ⟨k + 1, hlt, by go_num, by rw [hstep]; congr 1; omega, HBF, HFIN⟩
      case measure => simp [intOf]; omega
    · have hkn : k = n := by omega
      have HT : Hid (OwnNd wr lo hi a n (mT m T)) := HP.out.congr fun i hi => pref_lt _ _ (by omega)
      have hnl : ¬ ((k : Int) < (n : Int)) := by omega
      go_wp2_with fail
      go_ret
      exact ⟨by first | rfl | rw [hkn], HB.out, HT.out⟩
/-- How many marks a tree takes. -/
def totT (t : Tr) : Nat := sNd t.T t.n
theorem totT_le {t : Tr} (h : SmallT t) : totT t ≤ 13631488 := by
  have h1 := sNd_eq t.T t.n
  have h2 := h.s
  have h3 := h.n
  unfold totT
  omega
theorem markTree_any (t : Tr) (a : Option Addr) (cap lo hi : Nat) (m : Int) (w : World) (hs : SmallT t) (hm1 : 0 ≤ m) (hm2 : m ≤ 1048576) (h : OwnNd w lo hi a t.n t.T) :
    Calls Try.prog 24 #[.agg #[.int .i64 t.root, .slice a t.n cap], .int .i64 m] w fun e w' => e = .returned (.int .i64 (m + totT t)) ∧ Writes lo hi w w' ∧ OwnNd w' lo hi a t.n (mT m t.T) := by
  have HO : Hid (∀ o : Obj, OwnNd (w.alloc o) lo hi a t.n t.T) := fun o => h.below (below_new _ _)
  have HE : Hid (m + (totT t : Int) = m + (sNd t.T t.n : Int)) := rfl
  clear h
  go_enter Try.func24, Try.ntmps24
  go_wp2_with fail
  refine (markNodeS_any t.n t.T a cap lo hi m _ hs.n hs.s hm1 (by omega) (HO.out _)).mono ?_
  rintro e w1 ⟨rfl, hw, ho⟩
  have HW : Hid (Writes lo hi w w1) := ((Writes.refl lo hi w).alloc _).trans hw
  have HO1 : Hid (OwnNd w1 lo hi a t.n (mT m t.T)) := ho
  clear hw ho
  go_wp2_with fail
  go_ret
  exact ⟨ret_int HE.out.symm, HW.out, HO1.out⟩
end Go.Proofs.Ytbnehgpefjbheaa
