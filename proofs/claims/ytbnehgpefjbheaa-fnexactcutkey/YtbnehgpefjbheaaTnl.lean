/- spec.TreeFault. -/
import Derived.Test.YtbnehgpefjbheaaTnk
namespace Go.Proofs.Ytbnehgpefjbheaa
open Go.RowKit Go.Deep
set_option linter.unusedVariables false
set_option maxRecDepth 20000

theorem sg_start (w : World) (n : Nat) : Sg w n (w.alloc (.cells #[.slice none 0 0, .int .i64 0, .bool false] 66)) s0 [] (.slice none 0 0) :=
  ⟨below_new _ _, by simp, by simp [go_sem], ⟨by simp [il], .inl ⟨rfl, rfl⟩⟩, by simp [go_sem, s0], by simp [go_sem], fun i => by simp [go_sem], fun i hi => by simp [s0], rfl⟩
set_option maxHeartbeats 4000000 in
theorem specTf_any (t : Tr) (a : Option Addr) (ca : Nat) (w : World) (hs : SmallT t) (h : NdsAt w a t.n t.T) :
    Calls Try.prog 12 #[.agg #[.int .i64 t.root, .slice a t.n ca]] w fun e w' => e = .returned (.int .i64 (trF t)) ∧ Below w.heap.size w w' := by
  have HA : Hid (NdsAt w a t.n t.T) := h
  have HS : Hid (SmallT t) := hs
  have hn9 := hs.n
  clear h hs
  by_cases hlo : t.n < 1
  · have HE : Hid (trF t = 2) := if_pos (.inl hlo)
    have hd : decide ((t.n : Int) < 1) = true := decide_eq_true (by omega)
    go_enter Try.func12, Try.ntmps12
    go_wp2_with fail
    go_ret
    exact ⟨ret_int HE.out.symm, below_new _ _⟩
  have hd0 : decide ((t.n : Int) < 1) = false := decide_eq_false (by omega)
  by_cases hhi : 60 < t.n
  · have HE : Hid (trF t = 2) := if_pos (.inr hhi)
    have hd : decide ((60 : Int) < (t.n : Int)) = true := decide_eq_true (by omega)
    go_enter Try.func12, Try.ntmps12
    go_wp2_with fail
    go_ret
    exact ⟨ret_int HE.out.symm, below_new _ _⟩
  have hd1 : decide ((60 : Int) < (t.n : Int)) = false := decide_eq_false (by omega)
  have hnn : 1 ≤ t.n ∧ t.n ≤ 60 := by omega
  have HE0 : Hid (trF t = if nsF t.n t.T t.n 0 ≠ 0 then nsF t.n t.T t.n 0 else if inB t.root 0 ((t.n : Int) - 1) = false then 3 else if hng t = true then 0 else 1) := if_neg (by omega)
  clear hlo hhi
  go_enter Try.func12, Try.ntmps12
  go_wp2_with fail
  obtain ⟨W, hW⟩ : ∃ y, y = w.alloc (.cells #[.int .i64 t.root, .slice a t.n ca] 29) := ⟨_, rfl⟩
  have b0 : W.cell? ⟨w.heap.size, 0, none⟩ = some (.int .i64 t.root) := by rw [hW]; simp [go_sem]
  have b1 : W.cell? ⟨w.heap.size, 1, none⟩ = some (.slice a t.n ca) := by rw [hW]; simp [go_sem]
  have HB : Hid (Below w.heap.size w W) := by rw [hW]; exact below_new _ _
  have hwn : IntKind.i64.wrap ((t.n : Int) - 1) = (t.n : Int) - 1 := by rw [IntKind.wrap_i64]; omega
  rw [← hW]
  clear hW hd0 hd1
  go_loopw [3, 4] (fun i _ wr => ∃ k : Nat, k ≤ t.n ∧ i = .int .i64 k ∧ Hid (nsF t.n t.T t.n 0 = nsF t.n t.T (t.n - k) k) ∧ Hid (∃ m, wr = W.drewN m)) (fun i _ _ => t.n - (intOf i).toNat)
  case atStart => exact ⟨0, Nat.zero_le _, rfl, rfl, 0, rfl⟩
  case round =>
    obtain ⟨k, hk, rfl, HI, HM⟩ := hrel
    obtain ⟨cw, fw, sw, HBw⟩ := quiet_facts HM.out HB.out
    have c0 := cw _ _ _ b0
    have c1 := cw _ _ _ b1
    clear cw fw sw
    by_cases hlt : k < t.n
    · have hlt' : (k : Int) < (t.n : Int) := by omega
      have hk0' : (0 : Int) ≤ (k : Int) := by omega
      rcases HA.out.below HBw.out with h | ⟨b, off, rfl, hl, hc⟩
      · omega
      obtain ⟨ak, ck, ad, cd, hC, hy, hz, -⟩ := hc k hlt
      have HC : Hid (CNd wr b (off + k * 3) (t.T k) ak ck ad cd) := hC
      have HY : Hid (IntsAt wr ak (t.T k).kn (t.T k).K) := hy
      have HZ : Hid (IntsAt wr ad (t.T k).dn (t.T k).D) := hz
      have HSk : Hid ((t.T k).kn ≤ 1048576 ∧ (t.T k).dn ≤ 1048576) := HS.out.k k hlt
      have HD : Hid (nsF t.n t.T t.n 0 = _) := HI.out.trans (nsF_at hlt)
      clear hc hC hy hz HI
      generalize t.T k = nd at *
      go_wp2_with fail
      refine (l4Node_any t.n nd w.heap.size b (off + k * 3) _ ak ad ca ck cd wr hnn.1 hn9 HSk.out.1 HSk.out.2 c1 HC.out HY.out HZ.out).mono ?_
      rintro e w1 ⟨rfl, hq⟩
      have HM1 : Hid (∃ m, w1 = W.drewN m) := by
        obtain ⟨m1, e1⟩ := hq
        obtain ⟨m2, e2⟩ := HM.out
        exact ⟨_, by rw [e1, e2]; exact World.drewN_drewN ..⟩
      have HB1 : Hid (Below w.heap.size w w1) := by
        obtain ⟨m1, e1⟩ := HM1.out
        rw [e1]; exact below_drewN HB.out _
      clear hq
      by_cases hz0 : ndF t.n nd = 0
      · have HI : Hid (nsF t.n t.T t.n 0 = nsF t.n t.T (t.n - (k + 1)) (k + 1)) := HD.out.trans (if_pos hz0)
        rw [hz0]
        clear HD hz0
        go_wp2_with fail
        go_roundw
        case rel => exact ⟨k + 1, hlt, by go_num, HI, HM1⟩
        case measure => simp [intOf]; omega
      · have HI : Hid (nsF t.n t.T t.n 0 = ndF t.n nd) := HD.out.trans (if_neg hz0)
        have HE : Hid (trF t = ndF t.n nd) := by
          show trF t = _
          rw [HE0.out, if_pos (by rw [HI.out]; exact hz0), HI.out]
        have hnz : (ndF t.n nd != 0) = true := by simp [hz0]
        clear HD HI HE0 hz0
        generalize ndF t.n nd = fc at *
        go_wp2_with fail
        go_ret
        exact ⟨ret_int HE.out.symm, HB1.out⟩
    · have hnl : ¬ ((k : Int) < (t.n : Int)) := by omega
      have HI0 : Hid (nsF t.n t.T t.n 0 = 0) := by
        refine HI.out.trans ?_
        rw [show t.n - k = 0 by omega, nsF]
      have HGN : Hid (GoodN t.T t.n) := goodN_of fun i hi => nsF_all t.n 0 HI0.out i (by omega) (by omega)
      have HE1 : Hid (trF t = if inB t.root 0 ((t.n : Int) - 1) = false then 3 else if hng t = true then 0 else 1) := HE0.out.trans (if_neg (by rw [HI0.out]; simp))
      clear HI HI0 HE0
      have HAr : Hid (NdsAt wr a t.n t.T) := HA.out.below HBw.out
      cases hri : inB t.root 0 ((t.n : Int) - 1)
      · have HE : Hid (trF t = 3) := HE1.out.trans (if_pos hri)
        clear HE1
        go_wp2_with (go_at_call 43; refine (l1In_any _ _ _ _).mono ?_; rintro e w' ⟨rfl, hw⟩; have hw1 := hw.symm; clear hw; subst hw1; rw [hri])
        go_ret
        exact ⟨ret_int HE.out.symm, HBw.out⟩
      · have HE2 : Hid (trF t = if hng t = true then 0 else 1) := HE1.out.trans (if_neg (by rw [hri]; simp))
        have HRI : Hid (0 ≤ t.root ∧ t.root < t.n) := by simp [inB] at hri; exact ⟨by omega, by omega⟩
        clear HE1
        obtain ⟨q, hq⟩ : ∃ q : Nat, t.root = q := ⟨t.root.toNat, by have := HRI.out.1; omega⟩
        have hqn : q < t.n := by have := HRI.out.2; omega
        have HTR : Hid (t.root.toNat = q) := by show _ = _; omega
        have C0 := fun o : Obj => cell_alloc c0 o
        have C1 := fun o : Obj => cell_alloc c1 o
        have hu := unm_s0 t.n
        have HWK : Hid (∀ o : Obj, o = .cells #[.slice none 0 0, .int .i64 0, .bool false] 66 → Calls Try.prog 44 #[.pointer (some ⟨w.heap.size, 0, none⟩), .pointer (some ⟨wr.heap.size, 0, none⟩), .int .i64 q, .int .i64 0, .int .i64 10001, .int .i64 1] (wr.alloc o) (WkS wr t.n (wr.alloc o) (.slice none 0 0) (vis t.T (t.n + 1) s0 q 0 10001 1))) := by
          rintro o rfl
          exact walkS wr w.heap.size t.n ca a t.T hnn.2 HGN.out c1 HAr.out (t.n + 1) s0 [] (.slice none 0 0) q 0 10001 1 _ (sg_start wr t.n) hqn (by rw [hu]; show 0 + t.n = t.n; omega) (by omega) (by omega) (by omega)
        have HN : Hid (hng t = match vis t.T (t.n + 1) s0 q 0 10001 1 with
          | none => false
          | some s => s.cnt == t.n) := by show hng t = _; unfold hng; rw [HTR.out]; rfl
        rw [hq] at c0 C0
        rw [hq] at hri
        clear hu HGN HAr hnl
        generalize vis t.T (t.n + 1) s0 q 0 10001 1 = r at *
        rw [hq] at b0
        clear hq
        go_wp2_with (go_at_call 43; refine (l1In_any _ _ _ _).mono ?_; rintro e w' ⟨rfl, hw⟩; have hw1 := hw.symm; clear hw; subst hw1; rw [hri])
        refine (HWK.out _ rfl).mono ?_
        intro e w2 hpost
        obtain ⟨rfl, hf2, hrest⟩ := hpost
        cases r with
        | none =>
          have hb : Sb wr w2 := hrest
          have g2 := hb.bad
          have HB2 : Hid (Below w.heap.size w w2) := below_then HBw.out hb.below
          have HE : Hid (trF t = 1) := HE2.out.trans (if_neg (by rw [HN.out]; simp))
          clear hb HE2 hrest hf2 C0 C1 HWK
          go_wp2_with fail
          go_ret
          exact ⟨ret_int HE.out.symm, HB2.out⟩
        | some s =>
          obtain ⟨L2, v2, hS2, -⟩ := hrest
          obtain ⟨a2, cp2, rfl, -⟩ := rowI_shape hS2.own
          have g0 := hS2.seen
          have g2 := hS2.bad
          have t1 := cell_below c1 hS2.below
          have hl2 := hS2.len
          have HB2 : Hid (Below w.heap.size w w2) := below_then HBw.out hS2.below
          clear hS2 hf2 C0 C1 HWK
          by_cases he : L2.length = t.n
          · have HE : Hid (trF t = 0) := HE2.out.trans (if_pos (by rw [HN.out]; show (s.cnt == t.n) = true; simp; omega))
            have hne : ((L2.length : Int) != (t.n : Int)) = false := by simp; omega
            clear HE2 he hl2
            go_wp2_with fail
            go_ret
            exact ⟨ret_int HE.out.symm, HB2.out⟩
          · have HE : Hid (trF t = 1) := HE2.out.trans (if_neg (by rw [HN.out]; show ¬ (s.cnt == t.n) = true; simp; omega))
            have hne : ((L2.length : Int) != (t.n : Int)) = true := by simp; omega
            clear HE2 he hl2
            go_wp2_with fail
            go_ret
            exact ⟨ret_int HE.out.symm, HB2.out⟩
end Go.Proofs.Ytbnehgpefjbheaa
