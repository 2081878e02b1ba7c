/- impl.TreeFault. -/
import Derived.Test.YtbnehgpefjbheaaTng
namespace Go.Proofs.Ytbnehgpefjbheaa
open Go.RowKit Go.Deep
set_option linter.unusedVariables false
set_option maxRecDepth 20000

set_option maxHeartbeats 4000000 in
theorem implTf_any (t : Tr) (a : Option Addr) (ca : Nat) (w : World) (hs : SmallT t) (h : NdsAt w a t.n t.T) :
    Calls Try.prog 14 #[.agg #[.int .i64 t.root, .slice a t.n ca]] w fun e w' => e = .returned (.int .i64 (trF t)) ∧ Below w.heap.size w w' := by
  have HA : Hid (NdsAt w a t.n t.T) := h
  have HS : Hid (SmallT t) := hs
  have hn9 := hs.n
  clear h hs
  cases hin : inB (t.n : Int) 1 60
  · have HE : Hid (trF t = 2) := if_pos (by simp [inB] at hin; omega)
    go_enter Try.func14, Try.ntmps14
    go_wp2_with (go_at_call 46; refine (within_any _ _ _ _).mono ?_; rintro e w' ⟨rfl, rfl⟩; rw [hin])
    go_ret
    exact ⟨ret_int HE.out.symm, below_new _ _⟩
  have hnn : 1 ≤ t.n ∧ t.n ≤ 60 := by simp [inB] at hin; omega
  have HE0 : Hid (trF t = if nsF t.n t.T t.n 0 ≠ 0 then nsF t.n t.T t.n 0 else if inB t.root 0 ((t.n : Int) - 1) = false then 3 else if hng t = true then 0 else 1) := if_neg (by omega)
  go_enter Try.func14, Try.ntmps14
  go_wp2_with fail
  refine (within_any _ _ _ _).mono ?_
  rintro e w' ⟨rfl, hw⟩
  have hw1 := hw.symm
  clear hw
  subst hw1
  rw [hin]
  obtain ⟨W, hW⟩ : ∃ y, y = w.alloc (.cells #[.int .i64 t.root, .slice a t.n ca] 29) := ⟨_, rfl⟩
  have b0 : W.cell? ⟨w.heap.size, 0, none⟩ = some (.int .i64 t.root) := by rw [hW]; simp [go_sem]
  have b1 : W.cell? ⟨w.heap.size, 1, none⟩ = some (.slice a t.n ca) := by rw [hW]; simp [go_sem]
  have HB : Hid (Below w.heap.size w W) := by rw [hW]; exact below_new _ _
  rw [← hW]
  clear hW hin
  go_wp2_with fail
  go_loopw [4, 5, 15] (fun _ _ i wr => ∃ k : Nat, k ≤ t.n ∧ i = .int .i64 k ∧ Hid (nsF t.n t.T t.n 0 = nsF t.n t.T (t.n - k) k) ∧ Hid (∃ m, wr = W.drewN m)) (fun _ _ i _ => t.n - (intOf i).toNat)
  case atStart => exact ⟨0, Nat.zero_le _, rfl, rfl, 0, rfl⟩
  case round =>
    obtain ⟨k, hk, rfl, HI, HM⟩ := hrel
    obtain ⟨cw, fw, sw, HBw⟩ := quiet_facts HM.out HB.out
    have c0 := cw _ _ _ b0
    have c1 := cw _ _ _ b1
    clear cw fw
    by_cases hlt : k < t.n
    · have hlt' : (k : Int) < (t.n : Int) := by omega
      have hk0' : (0 : Int) ≤ (k : Int) := by omega
      rcases HA.out.below HBw.out with h | ⟨b, off, rfl, hl, hc⟩
      · omega
      obtain ⟨ak, ck, ad, cd, hC, hy, hz, -⟩ := hc k hlt
      have HC : Hid (CNd wr b (off + k * 3) (t.T k) ak ck ad cd) := hC
      have HY : Hid (IntsAt wr ak (t.T k).kn (t.T k).K) := hy
      have HZ : Hid (IntsAt wr ad (t.T k).dn (t.T k).D) := hz
      have HSk : Hid ((t.T k).kn ≤ 1048576 ∧ (t.T k).dn ≤ 1048576) := HS.out.k k hlt
      have HD : Hid (nsF t.n t.T t.n 0 = _) := HI.out.trans (nsF_at hlt)
      clear hc hC hy hz HI
      generalize t.T k = nd at *
      go_wp2_with fail
      refine (nodeFault_any t.n nd b (off + k * 3) ak ad ck cd wr hn9 HSk.out.1 HSk.out.2 HC.out HY.out HZ.out).mono ?_
      rintro e w1 ⟨rfl, hq⟩
      have HM1 : Hid (∃ m, w1 = W.drewN m) := by
        obtain ⟨m1, e1⟩ := hq
        obtain ⟨m2, e2⟩ := HM.out
        exact ⟨_, by rw [e1, e2]; exact World.drewN_drewN ..⟩
      have HB1 : Hid (Below w.heap.size w w1) := by
        obtain ⟨m1, e1⟩ := HM1.out
        rw [e1]; exact below_drewN HB.out _
      clear hq
      by_cases hz0 : ndF t.n nd = 0
      · have HI : Hid (nsF t.n t.T t.n 0 = nsF t.n t.T (t.n - (k + 1)) (k + 1)) := HD.out.trans (if_pos hz0)
        rw [hz0]
        clear HD hz0
        go_wp2_with fail
        go_roundw
        case rel => exact ⟨k + 1, hlt, by go_num, HI, HM1⟩
        case measure => simp [intOf]; omega
      · have HI : Hid (nsF t.n t.T t.n 0 = ndF t.n nd) := HD.out.trans (if_neg hz0)
        have HE : Hid (trF t = ndF t.n nd) := by
          show trF t = _
          rw [HE0.out, if_pos (by rw [HI.out]; exact hz0), HI.out]
        have hnz : (ndF t.n nd != 0) = true := by simp [hz0]
        clear HD HI HE0 hz0
        generalize ndF t.n nd = fc at *
        go_wp2_with fail
        go_ret
        exact ⟨ret_int HE.out.symm, HB1.out⟩
    · have hnl : ¬ ((k : Int) < (t.n : Int)) := by omega
      have HI0 : Hid (nsF t.n t.T t.n 0 = 0) := by
        refine HI.out.trans ?_
        rw [show t.n - k = 0 by omega, nsF]
      have HGN : Hid (GoodN t.T t.n) := goodN_of fun i hi => nsF_all t.n 0 HI0.out i (by omega) (by omega)
      have HE1 : Hid (trF t = if inB t.root 0 ((t.n : Int) - 1) = false then 3 else if hng t = true then 0 else 1) := HE0.out.trans (if_neg (by rw [HI0.out]; simp))
      clear HI HI0 HE0
      have HAr : Hid (NdsAt wr a t.n t.T) := HA.out.below HBw.out
      cases hri : inB t.root 0 ((t.n : Int) - 1)
      · have HE : Hid (trF t = 3) := HE1.out.trans (if_pos hri)
        clear HE1
        go_wp2_with (go_at_call 48; refine (isPlace_any _ t.n _ hn9).mono ?_; rintro e w' ⟨rfl, hw⟩; have hw1 := hw.symm; clear hw; subst hw1; rw [hri])
        go_ret
        exact ⟨ret_int HE.out.symm, HBw.out⟩
      · have HE2 : Hid (trF t = if hng t = true then 0 else 1) := HE1.out.trans (if_neg (by rw [hri]; simp))
        have HRI : Hid (0 ≤ t.root ∧ t.root < t.n) := by simp [inB] at hri; exact ⟨by omega, by omega⟩
        clear HE1
        go_wp2_with (go_at_call 48; refine (isPlace_any _ t.n _ hn9).mono ?_; rintro e w' ⟨rfl, hw⟩; have hw1 := hw.symm; clear hw; subst hw1; rw [hri])
        refine (hangs_any t w.heap.size ca a wr hnn.1 hnn.2 HGN.out HRI.out.1 HRI.out.2 c0 c1 HAr.out).mono ?_
        rintro e w2 ⟨rfl, hb2⟩
        have HB2 : Hid (Below w.heap.size w w2) := below_then HBw.out hb2
        clear hb2
        cases hh : hng t
        · have HE : Hid (trF t = 1) := HE2.out.trans (if_neg (by rw [hh]; simp))
          clear HE2
          go_wp2_with fail
          go_ret
          exact ⟨ret_int HE.out.symm, HB2.out⟩
        · have HE : Hid (trF t = 0) := HE2.out.trans (if_pos hh)
          clear HE2
          go_wp2_with fail
          go_ret
          exact ⟨ret_int HE.out.symm, HB2.out⟩
end Go.Proofs.Ytbnehgpefjbheaa
