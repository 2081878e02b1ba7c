/- spec.l4Node; the model of the tree's walk. -/
import Derived.Test.YtbnehgpefjbheaaTnc
namespace Go.Proofs.Ytbnehgpefjbheaa
open Go.RowKit Go.Deep
set_option linter.unusedVariables false
set_option maxRecDepth 20000

set_option maxHeartbeats 4000000 in
theorem l4Node_any (n : Nat) (t : Nd) (tb b o : Nat) (a ak ad : Option Addr) (ca ck cd : Nat) (w : World) (hn1 : 1 ≤ n) (hn : n ≤ 1048576) (hk : t.kn ≤ 1048576) (hd : t.dn ≤ 1048576) (ht : w.cell? ⟨tb, 1, none⟩ = some (.slice a n ca)) (h : CNd w b o t ak ck ad cd) (hy : IntsAt w ak t.kn t.K) (hz : IntsAt w ad t.dn t.D) :
    Calls Try.prog 42 #[.pointer (some ⟨tb, 0, none⟩), .pointer (some ⟨b, o, none⟩)] w fun e w' => e = .returned (.int .i64 (ndF n t)) ∧ ∃ m, w' = w.drewN m := by
  have HC : Hid (CNd w b o t ak ck ad cd) := h
  have HY : Hid (IntsAt w ak t.kn t.K) := hy
  have HZ : Hid (IntsAt w ad t.dn t.D) := hz
  clear h hy hz
  go_enter Try.func42, Try.ntmps42
  go_wp2_with fail
  refine (l4Counts_any t b o ak ad ck cd w hk hd HC.out).mono ?_
  rintro e w1 ⟨rfl, m1, rfl⟩
  cases hcnt : cntB t
  · have HE : Hid (ndF n t = 1) := if_pos hcnt
    go_wp2_with fail
    go_ret
    exact ⟨ret_int HE.out.symm, _, rfl⟩
  obtain ⟨hk3, hd4⟩ := cntB_le hcnt
  have HE0 : Hid (ndF n t = if inf t.K 10001 t.kn 0 = false then 3 else if inf t.D n t.dn 0 = false then 3 else if rsf t.K t.kn 0 = false then 1 else 0) := if_neg (by simp [hcnt])
  have HB : Hid (Below w.heap.size w (w.drewN m1)) := below_drewN (Below.refl _ _) _
  obtain ⟨W, hW⟩ : ∃ y, y = w.drewN m1 := ⟨_, rfl⟩
  have HC1 : Hid (CNd W b o t ak ck ad cd) := by rw [hW]; exact HC.out.block ((below_drewN (Below.refl _ _) m1 : Below w.heap.size w (w.drewN m1)).block _ (Go.block_lt_of_cell HC.out.1))
  have HY1 : Hid (IntsAt W ak t.kn t.K) := by rw [hW]; exact HY.out.below HB.out
  have HZ1 : Hid (IntsAt W ad t.dn t.D) := by rw [hW]; exact HZ.out.below HB.out
  have ht1 : W.cell? ⟨tb, 1, none⟩ = some (.slice a n ca) := by rw [hW]; exact ht
  have HW : Hid (W = w.drewN m1) := hW
  rw [← hW]
  clear hW HC HY HZ HB ht
  obtain ⟨q0, q1, q2⟩ := HC1.out
  generalize t.lf = lf at q0
  generalize hkn : t.kn = kn at *
  generalize hdn : t.dn = dn at *
  clear hkn hdn hcnt
  go_wp2_with fail
  go_loop [5] (fun i => ∃ k : Nat, k ≤ kn ∧ i = .int .i64 k ∧ Hid (inf t.K 10001 kn 0 = inf t.K 10001 (kn - k) k)) (fun i => kn - (intOf i).toNat)
  case atStart => exact ⟨0, Nat.zero_le _, rfl, rfl⟩
  case round =>
    obtain ⟨k, hk0, rfl, HI⟩ := hrel
    by_cases hlt : k < kn
    · have hlt' : (k : Int) < (kn : Int) := by omega
      have hk0' : (0 : Int) ≤ (k : Int) := by omega
      rcases HY1.out with h | ⟨b1, o1, rfl, hl1, hc1⟩
      · omega
      have hx := hc1 k hlt
      have HD : Hid (inf t.K 10001 kn 0 = _) := HI.out.trans (inf_at hlt)
      clear HI hc1
      cases hin : inB (t.K k) 0 10000
      · have HI : Hid (inf t.K 10001 kn 0 = false) := HD.out.trans (if_neg (by show ¬ inB (t.K k) 0 10000 = true; rw [hin]; simp))
        have HE : Hid (ndF n t = 3) := HE0.out.trans (if_pos HI.out)
        clear HD HE0
        generalize t.K k = tk at *
        go_wp2_with (go_at_call 55; refine (l4Key_any _ _).mono ?_; rintro e w' ⟨rfl, hw⟩; have hw1 := hw.symm; clear hw; subst hw1; rw [hin])
        go_ret
        exact ⟨ret_int HE.out.symm, _, HW.out⟩
      · have HI : Hid (inf t.K 10001 kn 0 = inf t.K 10001 (kn - (k + 1)) (k + 1)) := HD.out.trans (if_pos hin)
        clear HD
        generalize t.K k = tk at *
        go_wp2_with (go_at_call 55; refine (l4Key_any _ _).mono ?_; rintro e w' ⟨rfl, hw⟩; have hw1 := hw.symm; clear hw; subst hw1; rw [hin])
        go_round
        case rel => exact ⟨k + 1, hlt, by go_num, HI⟩
        case measure => simp [intOf]; omega
    · have hnl : ¬ ((k : Int) < (kn : Int)) := by omega
      have HI0 : Hid (inf t.K 10001 kn 0 = true) := by
        refine HI.out.trans ?_
        rw [show kn - k = 0 by omega, inf]
      have HE1 : Hid (ndF n t = if inf t.D n dn 0 = false then 3 else if rsf t.K kn 0 = false then 1 else 0) := HE0.out.trans (if_neg (by rw [HI0.out]; simp))
      clear HI HI0 HE0
      have hwn : IntKind.i64.wrap ((n : Int) - 1) = (n : Int) - 1 := by rw [IntKind.wrap_i64]; omega
      go_wp2_with fail
      go_loopw [6] (fun i wr => ∃ j : Nat, j ≤ dn ∧ i = .int .i64 j ∧ Hid (inf t.D n dn 0 = inf t.D n (dn - j) j) ∧ Hid (∃ m, wr = W.drewN m)) (fun i _ => dn - (intOf i).toNat)
      case atStart => exact ⟨0, Nat.zero_le _, rfl, rfl, 0, rfl⟩
      case round =>
        obtain ⟨j, hj0, rfl, HI, HM⟩ := hrel
        obtain ⟨cw, fw, sw, HBw⟩ := quiet_facts HM.out (Below.refl W.heap.size W)
        have q1w := cw _ _ _ q1
        have q2w := cw _ _ _ q2
        have t1w := cw _ _ _ ht1
        clear cw fw
        by_cases hjlt : j < dn
        · have hlt' : (j : Int) < (dn : Int) := by omega
          have hj0' : (0 : Int) ≤ (j : Int) := by omega
          rcases HZ1.out.below HBw.out with h | ⟨b1, o1, rfl, hl1, hc1⟩
          · omega
          have hx := hc1 j hjlt
          have HD : Hid (inf t.D n dn 0 = _) := HI.out.trans (inf_at hjlt)
          clear HI hc1
          cases hin : inB (t.D j) 0 ((n : Int) - 1)
          · have HI : Hid (inf t.D n dn 0 = false) := HD.out.trans (if_neg (by rw [hin]; simp))
            have HE : Hid (ndF n t = 3) := HE1.out.trans (if_pos HI.out)
            clear HD HE1
            generalize t.D j = tk at *
            go_wp2_with fail
            go_quiet (first | (go_at_call 43; exact Calls.quiet_of (l1In_q _ _ _ _)))
            go_wp2_with fail
            go_ret
            obtain ⟨m2, rfl⟩ := HM.out
            exact ⟨ret_int HE.out.symm, by rw [HW.out]; exact ⟨_, by rw [World.drewN_drewN, World.drewN_drewN]⟩⟩
          · have HI : Hid (inf t.D n dn 0 = inf t.D n (dn - (j + 1)) (j + 1)) := HD.out.trans (if_pos hin)
            clear HD
            generalize t.D j = tk at *
            go_wp2_with fail
            go_quiet (first | (go_at_call 43; exact Calls.quiet_of (l1In_q _ _ _ _)))
            go_wp2_with fail
            go_roundw
            case rel => exact ⟨j + 1, hjlt, by go_num, HI, quiet_more HM.out⟩
            case measure => simp [intOf]; omega
        · have hnl2 : ¬ ((j : Int) < (dn : Int)) := by omega
          have HI0 : Hid (inf t.D n dn 0 = true) := by
            refine HI.out.trans ?_
            rw [show dn - j = 0 by omega, inf]
          have HE2 : Hid (ndF n t = if rsf t.K kn 0 = false then 1 else 0) := HE1.out.trans (if_neg (by rw [HI0.out]; simp))
          clear HI HI0 HE1
          go_wp2_with fail
          obtain ⟨w9, h9⟩ : ∃ x, x = wr := ⟨wr, rfl⟩
          have HM9 : Hid (∃ m, w9 = W.drewN m) := by rw [h9]; exact HM.out
          rw [← h9]
          rw [← h9] at q1w q2w t1w
          clear h9 HM HBw sw
          go_loopw [7] (fun i wr => ∃ j : Nat, 1 ≤ j ∧ j ≤ kn + 1 ∧ i = .int .i64 j ∧ Hid (rsf t.K kn 0 = rsf t.K (kn - j) j) ∧ Hid (∃ m, wr = W.drewN m)) (fun i _ => kn - (intOf i).toNat)
          case atStart =>
            refine ⟨1, Nat.le_refl _, by omega, rfl, ?_, HM9⟩
            show rsf t.K kn 0 = _
            by_cases e : kn = 0
            · subst e; rfl
            · exact rsf_one (by omega)
          case round =>
            obtain ⟨i, hi1, hi2, rfl, HR, HM2⟩ := hrel
            obtain ⟨cw, fw, sw, HBw⟩ := quiet_facts HM2.out (Below.refl W.heap.size W)
            have q1v := cw _ _ _ q1
            clear cw fw
            by_cases hilt : i < kn
            · have hlt' : (i : Int) < (kn : Int) := by omega
              have hi0' : (0 : Int) ≤ (i : Int) := by omega
              rcases HY1.out.below HBw.out with h | ⟨b1, o1, rfl, hl1, hc1⟩
              · omega
              obtain ⟨p, rfl⟩ : ∃ p, i = p + 1 := ⟨i - 1, by omega⟩
              have hx := hc1 (p + 1) hilt
              have hx2 := hc1 p (by omega)
              have hj1 : (p : Int) < (kn : Int) := by omega
              have hj2 : (0 : Int) ≤ (p : Int) := by omega
              have hj4 : (p : Int) + 1 < (kn : Int) := by omega
              have hj5 : (0 : Int) ≤ (p : Int) + 1 := by omega
              have hwj : IntKind.i64.wrap (p : Int) = (p : Int) := by rw [IntKind.wrap_i64]; omega
              have HD : Hid (rsf t.K kn 0 = _) := HR.out.trans (rsf_at hilt)
              clear HR hc1
              by_cases hle : t.K (p + 1) ≤ t.K p
              · have HI : Hid (rsf t.K kn 0 = false) := HD.out.trans (if_pos ⟨by omega, by simpa using hle⟩)
                have HE : Hid (ndF n t = 1) := HE2.out.trans (if_pos HI.out)
                clear HD HE2
                generalize t.K (p + 1) = tk at *
                generalize t.K p = tp at *
                go_wp2_with fail
                go_quiet (fail)
                go_wp2_with fail
                go_ret
                obtain ⟨m2, rfl⟩ := HM2.out
                exact ⟨ret_int HE.out.symm, by rw [HW.out]; exact ⟨_, by rw [World.drewN_drewN, World.drewN_drewN]⟩⟩
              · have HI : Hid (rsf t.K kn 0 = rsf t.K (kn - (p + 1 + 1)) (p + 1 + 1)) := HD.out.trans (if_neg (fun x => hle (by simpa using x.2)))
                clear HD
                generalize t.K (p + 1) = tk at *
                generalize t.K p = tp at *
                go_wp2_with fail
                go_quiet (fail)
                go_wp2_with fail
                go_roundw
                case rel => exact ⟨p + 1 + 1, by omega, by omega, by go_num, HI, quiet_more HM2.out⟩
                case measure => simp [intOf]; omega
            · have hnl3 : ¬ ((i : Int) < (kn : Int)) := by omega
              have HI0 : Hid (rsf t.K kn 0 = true) := by
                refine HR.out.trans ?_
                rw [show kn - i = 0 by omega, rsf]
              have HE : Hid (ndF n t = 0) := HE2.out.trans (if_neg (by rw [HI0.out]; simp))
              clear HR HI0 HE2
              go_wp2_with fail
              go_ret
              obtain ⟨m2, rfl⟩ := HM2.out
              exact ⟨ret_int HE.out.symm, by rw [HW.out]; exact ⟨_, by rw [World.drewN_drewN]⟩⟩
end Go.Proofs.Ytbnehgpefjbheaa
