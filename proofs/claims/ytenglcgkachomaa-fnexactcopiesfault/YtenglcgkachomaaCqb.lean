/- Faults of copies: the walks of spec.l9Copied and spec.CopiesFault. -/
import Derived.Test.YtenglcgkachomaaCqa
namespace Go.Proofs.Ytenglcgkachomaa
open Go.ChangeShapes Go.WideShapes Go.ChangeAt Go.RowKit Go.Deep Go.Joins
set_option linter.unusedVariables false
set_option maxRecDepth 20000

set_option maxHeartbeats 4000000 in
theorem l9Copied_any (t : Cs) (k B : Nat) (a0 : Option Addr) (c0 : Nat) (a1 : Option Addr) (c1 : Nat) (a2 : Option Addr) (c2 : Nat) (w : World) (hk : k < t.tn) (hS : SmCs t) (hN : 1 ≤ t.nx ∧ t.nx ≤ 999) (hb : Box5 w B (.int .i64 t.nx) (.int .i64 t.ck) (.slice a0 t.wn c0) (.slice a1 t.ln c1) (.slice a2 t.tn c2)) (h : InCs w a0 a1 a2 t) :
    Calls Try.prog 47 #[.pointer (some ⟨B, 0, none⟩), .int .i64 (k : Int)] w fun e w' => e = .returned (.int .i64 (cdF t.nx t.ck t.tT k)) ∧ Below w.heap.size w w' := by
  obtain ⟨b0, b1, b2, b3, b4⟩ := hb
  have HSm := hS.2.2.2
  have htn := hS.2.2.1
  rcases h.2.2 with h0 | ⟨b, off, rfl, hl, hc⟩
  · omega
  obtain ⟨x0, y0, x1, y1, x2, y2, ⟨q0, q1, q2, q3, q4, q5⟩, hI, -⟩ := hc k hk
  have HCC : Hid (∀ i, i < t.tn → w.cell? ⟨b, off + i * 6, none⟩ = some (.int .i64 (t.tT i).id)) := fun i hi => by obtain ⟨_, _, _, _, _, _, ⟨h, _⟩, _⟩ := hc i hi; exact h
  have HIN : Hid (InCd w x0 x1 x2 (t.tT k)) := hI
  have HSK : Hid (SmCd (t.tT k)) := HSm k hk
  have hBl : B < w.heap.size := Go.block_lt_of_cell b0
  have hk' : (k : Int) < (t.tn : Int) := by omega
  have hk0 : (0 : Int) ≤ (k : Int) := by omega
  have hwn : IntKind.i64.wrap (t.nx - 1) = t.nx - 1 := by rw [IntKind.wrap_i64]; omega
  have HI : Hid (cdIn t.nx t.ck (t.tT k) = (inB (t.tT k).id 1 (t.nx - 1) && inB (t.tT k).am 0 t.ck && inB (t.tT k).st 1 3)) := rfl
  generalize hC : cdF t.nx t.ck t.tT k = C
  have HE : Hid (C = _) := hC.symm.trans (show cdF t.nx t.ck t.tT k = if cdIn t.nx t.ck (t.tT k) = true then (if (cdB1 t.tT k || cdB2 (t.tT k)) = true then 1 else if cff (t.tT k).sK (t.tT k).sV (t.tT k).sn 0 = 0 then (if cff (t.tT k).wK (t.tT k).wV (t.tT k).wn 0 = 0 then wrF (t.tT k).rn (t.tT k).rF else cff (t.tT k).wK (t.tT k).wV (t.tT k).wn 0) else cff (t.tT k).sK (t.tT k).sV (t.tT k).sn 0) else 3 from rfl)
  clear hC hc hI HSm h hS
  go_enter Try.func47, Try.ntmps47
  go_upto_region 2 with fail
  obtain ⟨W, hW⟩ : ∃ x, x = w.alloc (.cells #[.int .i64 (t.tT k).id, .int .i64 (t.tT k).am, .int .i64 (t.tT k).st, .slice x0 (t.tT k).sn y0, .slice x1 (t.tT k).wn y1, .slice x2 (t.tT k).rn y2] 107) := ⟨_, rfl⟩
  have HB : Hid (Below w.heap.size w W) := by rw [hW]; exact below_new _ _
  have p : Box6 W w.heap.size (.int .i64 (t.tT k).id) (.int .i64 (t.tT k).am) (.int .i64 (t.tT k).st) (.slice x0 (t.tT k).sn y0) (.slice x1 (t.tT k).wn y1) (.slice x2 (t.tT k).rn y2) := by rw [hW]; exact Box6.new _ _ _ _ _ _ _ _
  rw [← hW]
  clear hW
  obtain ⟨p0, p1, p2, p3, p4, p5⟩ := p
  replace b0 := cell_below b0 HB.out
  replace b1 := cell_below b1 HB.out
  replace b4 := cell_below b4 HB.out
  replace HCC : Hid (∀ i, i < t.tn → W.cell? ⟨b, off + i * 6, none⟩ = some (.int .i64 (t.tT i).id)) := fun i hi => cell_below (HCC.out i hi) HB.out
  replace HIN : Hid (InCd W x0 x1 x2 (t.tT k)) := HIN.out.below HB.out
  clear b2 b3 q0 q1 q2 q3 q4 q5 hBl
  go_cut [41] (fun cc wx => cc = .bool (!cdIn t.nx t.ck (t.tT k)) ∧ ∃ m, wx = W.drewN m)
  case first =>
    obtain h1 | h1 := bool_or9 (inB (t.tT k).id 1 (t.nx - 1))
    · obtain h2 | h2 := bool_or9 (inB (t.tT k).am 0 t.ck)
      · have HV : Hid (cdIn t.nx t.ck (t.tT k) = inB (t.tT k).st 1 3) := by show _ = _; rw [HI.out, h1, h2]; rfl
        clear HI HE
        go_quiet (first | (go_at_call 45; exact Calls.quiet_of (l1In_q9 _ _ _ _)))
        go_wp2_with fail
        go_meet
        refine ⟨?_, _, by first | rfl | exact World.drewN_drewN _ _ _⟩
        rw [HV.out]
      · have HV : Hid (cdIn t.nx t.ck (t.tT k) = false) := by show _ = _; rw [HI.out, h1, h2]; rfl
        clear HI HE
        go_quiet (first | (go_at_call 45; exact Calls.quiet_of (l1In_q9 _ _ _ _)))
        go_wp2_with fail
        go_meet
        refine ⟨?_, _, by first | rfl | exact World.drewN_drewN _ _ _⟩
        rw [HV.out]
        rfl
    · have HV : Hid (cdIn t.nx t.ck (t.tT k) = false) := by show _ = _; rw [HI.out, h1]; rfl
      clear HI HE
      go_quiet (first | (go_at_call 45; exact Calls.quiet_of (l1In_q9 _ _ _ _)))
      go_wp2_with fail
      go_meet
      refine ⟨?_, _, by first | rfl | exact World.drewN_drewN _ _ _⟩
      rw [HV.out]
      rfl
  case rest =>
  obtain ⟨rfl, m, rfl⟩ := hcut
  obtain ⟨w2, hw2⟩ : ∃ x, x = W.drewN m := ⟨_, rfl⟩
  rw [← hw2]
  have hbw : Below W.heap.size W w2 := by rw [hw2]; exact below_drewN (Below.refl _ _) _
  replace HB : Hid (Below w.heap.size w w2) := by rw [hw2]; exact below_drewN HB.out _
  clear hw2
  replace b0 := cell_below b0 hbw
  replace b4 := cell_below b4 hbw
  replace p0 := cell_below p0 hbw
  replace p1 := cell_below p1 hbw
  replace p2 := cell_below p2 hbw
  replace p3 := cell_below p3 hbw
  replace p4 := cell_below p4 hbw
  replace p5 := cell_below p5 hbw
  replace HCC : Hid (∀ i, i < t.tn → w2.cell? ⟨b, off + i * 6, none⟩ = some (.int .i64 (t.tT i).id)) := fun i hi => cell_below (HCC.out i hi) hbw
  replace HIN : Hid (InCd w2 x0 x1 x2 (t.tT k)) := HIN.out.below hbw
  clear hbw b1 HI W
  obtain hin | hin := bool_or9 (cdIn t.nx t.ck (t.tT k))
  case inr =>
    have HC : Hid (C = 3) := HE.out.trans (if_neg (by simp [hin]))
    rw [hin]
    clear HE hin
    go_wp2_with fail
    go_ret
    exact ⟨ret_int HC.out.symm, HB.out⟩
  replace HE : Hid (C = _) := HE.out.trans (if_pos hin)
  rw [hin]
  clear hin
  go_upto_region 4 with fail
  go_cut [76] (fun cc wx => cc = .bool (cdB1 t.tT k || cdB2 (t.tT k)) ∧ ∃ m, wx = w2.drewN m)
  case first =>
    have h1B : Hid (cdB1 t.tT k = (decide (0 < k) && decide ((t.tT k).id ≤ (t.tT (k - 1)).id))) := rfl
    have h2B : Hid (cdB2 (t.tT k) = (((t.tT k).st != 1) && decide (0 < (t.tT k).sn + (t.tT k).wn + (t.tT k).rn))) := rfl
    obtain ⟨g0, g1, g2⟩ := HSK.out
    have hz1 : IntKind.i64.wrap (((t.tT k).sn : Int) + ((t.tT k).wn : Int)) = ((t.tT k).sn : Int) + ((t.tT k).wn : Int) := by rw [IntKind.wrap_i64]; omega
    have hz2 : IntKind.i64.wrap (((t.tT k).sn : Int) + ((t.tT k).wn : Int) + ((t.tT k).rn : Int)) = ((t.tT k).sn : Int) + ((t.tT k).wn : Int) + ((t.tT k).rn : Int) := by rw [IntKind.wrap_i64]; omega
    clear HE g0 g1 g2
    have hfirst : (∃ j, k = j + 1 ∧ cdB1 t.tT k = decide ((t.tT k).id ≤ (t.tT j).id)) ∨ (decide (0 < k) = false ∧ cdB1 t.tT k = false) := by
      rcases Nat.eq_zero_or_pos k with e | e
      · exact .inr ⟨by simp; omega, by rw [h1B.out, show decide (0 < k) = false by simp; omega]; rfl⟩
      · refine .inl ⟨k - 1, by omega, ?_⟩
        rw [h1B.out, show decide (0 < k) = true by simp; omega]; rfl
    rcases hfirst with ⟨j, rfl, e1⟩ | ⟨hd, e1⟩
    · have y3 := HCC.out j (by omega)
      have hj1 : (j : Int) < (t.tn : Int) := by omega
      have hj2 : j < t.tn := by omega
      have hwj : IntKind.i64.wrap (j : Int) = (j : Int) := by rw [IntKind.wrap_i64]; omega
      obtain hx1 | hx1 := bool_or9 (decide ((t.tT (j + 1)).id ≤ (t.tT j).id))
      · rw [hx1] at e1
        have HV : Hid ((cdB1 t.tT (j + 1) || cdB2 (t.tT (j + 1))) = true) := by show _ = _; rw [e1]; rfl
        clear e1 h1B h2B
        go_quiet (fail)
        go_wp2_with fail
        go_meet
        refine ⟨?_, _, by first | rfl | exact World.drewN_drewN _ _ _⟩
        rw [HV.out]
      · rw [hx1] at e1
        obtain hs | hs := bool_or9 ((t.tT (j + 1)).st != 1)
        · by_cases hn0 : 0 < (t.tT (j + 1)).sn + (t.tT (j + 1)).wn + (t.tT (j + 1)).rn
          · have HV : Hid ((cdB1 t.tT (j + 1) || cdB2 (t.tT (j + 1))) = true) := by show _ = _; rw [e1, h2B.out, hs, show decide (0 < (t.tT (j + 1)).sn + (t.tT (j + 1)).wn + (t.tT (j + 1)).rn) = true by simpa using hn0]; rfl
            have hn1 : (0 : Int) < ((t.tT (j + 1)).sn : Int) + ((t.tT (j + 1)).wn : Int) + ((t.tT (j + 1)).rn : Int) := by omega
            clear e1 h1B h2B hn0
            go_quiet (fail)
            go_wp2_with fail
            go_meet
            refine ⟨?_, _, by first | rfl | exact World.drewN_drewN _ _ _⟩
            rw [HV.out]
          · have HV : Hid ((cdB1 t.tT (j + 1) || cdB2 (t.tT (j + 1))) = false) := by show _ = _; rw [e1, h2B.out, hs, show decide (0 < (t.tT (j + 1)).sn + (t.tT (j + 1)).wn + (t.tT (j + 1)).rn) = false by simpa using hn0]; rfl
            have hn1 : ¬ ((0 : Int) < ((t.tT (j + 1)).sn : Int) + ((t.tT (j + 1)).wn : Int) + ((t.tT (j + 1)).rn : Int)) := by omega
            have hn2 : decide ((0 : Int) < ((t.tT (j + 1)).sn : Int) + ((t.tT (j + 1)).wn : Int) + ((t.tT (j + 1)).rn : Int)) = false := by simpa using hn1
            clear e1 h1B h2B hn0
            go_quiet (fail)
            go_wp2_with fail
            go_meet
            refine ⟨?_, _, by first | rfl | exact World.drewN_drewN _ _ _⟩
            rw [HV.out]
        · have HV : Hid ((cdB1 t.tT (j + 1) || cdB2 (t.tT (j + 1))) = false) := by show _ = _; rw [e1, h2B.out, hs]; rfl
          clear e1 h1B h2B
          go_quiet (fail)
          go_wp2_with fail
          go_meet
          refine ⟨?_, _, by first | rfl | exact World.drewN_drewN _ _ _⟩
          rw [HV.out]
    · obtain hs | hs := bool_or9 ((t.tT k).st != 1)
      · by_cases hn0 : 0 < (t.tT k).sn + (t.tT k).wn + (t.tT k).rn
        · have HV : Hid ((cdB1 t.tT k || cdB2 (t.tT k)) = true) := by show _ = _; rw [e1, h2B.out, hs, show decide (0 < (t.tT k).sn + (t.tT k).wn + (t.tT k).rn) = true by simpa using hn0]; rfl
          have hn1 : (0 : Int) < ((t.tT k).sn : Int) + ((t.tT k).wn : Int) + ((t.tT k).rn : Int) := by omega
          clear e1 h1B h2B hn0
          go_quiet (fail)
          go_wp2_with fail
          go_meet
          refine ⟨?_, _, by first | rfl | exact World.drewN_drewN _ _ _⟩
          rw [HV.out]
        · have HV : Hid ((cdB1 t.tT k || cdB2 (t.tT k)) = false) := by show _ = _; rw [e1, h2B.out, hs, show decide (0 < (t.tT k).sn + (t.tT k).wn + (t.tT k).rn) = false by simpa using hn0]; rfl
          have hn1 : ¬ ((0 : Int) < ((t.tT k).sn : Int) + ((t.tT k).wn : Int) + ((t.tT k).rn : Int)) := by omega
          have hn2 : decide ((0 : Int) < ((t.tT k).sn : Int) + ((t.tT k).wn : Int) + ((t.tT k).rn : Int)) = false := by simpa using hn1
          clear e1 h1B h2B hn0
          go_quiet (fail)
          go_wp2_with fail
          go_meet
          refine ⟨?_, _, by first | rfl | exact World.drewN_drewN _ _ _⟩
          rw [HV.out]
      · have HV : Hid ((cdB1 t.tT k || cdB2 (t.tT k)) = false) := by show _ = _; rw [e1, h2B.out, hs]; rfl
        clear e1 h1B h2B
        go_quiet (fail)
        go_wp2_with fail
        go_meet
        refine ⟨?_, _, by first | rfl | exact World.drewN_drewN _ _ _⟩
        rw [HV.out]
  case rest =>
  obtain ⟨rfl, m, rfl⟩ := hcut
  obtain ⟨w3, hw3⟩ : ∃ x, x = w2.drewN m := ⟨_, rfl⟩
  rw [← hw3]
  have hbw : Below w2.heap.size w2 w3 := by rw [hw3]; exact below_drewN (Below.refl _ _) _
  replace HB : Hid (Below w.heap.size w w3) := by rw [hw3]; exact below_drewN HB.out _
  clear hw3
  replace p3 := cell_below p3 hbw
  replace p4 := cell_below p4 hbw
  replace p5 := cell_below p5 hbw
  replace HIN : Hid (InCd w3 x0 x1 x2 (t.tT k)) := HIN.out.below hbw
  clear hbw b0 b4 p0 p1 p2 HCC w2
  obtain ⟨s0, s1, s2⟩ := HSK.out
  generalize t.tT k = u at *
  obtain hbb | hbb := bool_or9 (cdB1 t.tT k || cdB2 u)
  case inl =>
    have HC : Hid (C = 1) := HE.out.trans (if_pos hbb)
    rw [hbb]
    clear HE hbb
    go_wp2_with fail
    go_ret
    exact ⟨ret_int HC.out.symm, HB.out⟩
  replace HE : Hid (C = _) := HE.out.trans (if_neg (by simp [hbb]))
  rw [hbb]
  clear hbb
  go_wp2_with fail
  refine (l9Cells_any u.sn u.sK u.sV x0 y0 _ (by omega) HIN.out.1).mono ?_
  rintro e w4 ⟨rfl, hb4⟩
  replace HB : Hid (Below w.heap.size w w4) := below_then HB.out hb4
  replace p4 := cell_below p4 hb4
  replace p5 := cell_below p5 hb4
  replace HIN : Hid (InCd w4 x0 x1 x2 u) := HIN.out.below hb4
  clear hb4 p3
  by_cases hz : cff u.sK u.sV u.sn 0 = 0
  case neg =>
    have HC : Hid (C = cff u.sK u.sV u.sn 0) := HE.out.trans (if_neg hz)
    have hd : (cff u.sK u.sV u.sn 0 != 0) = true := by simpa using hz
    generalize cff u.sK u.sV u.sn 0 = z at *
    clear HE hz
    go_wp2_with fail
    go_ret
    exact ⟨ret_int HC.out.symm, HB.out⟩
  replace HE : Hid (C = _) := HE.out.trans (if_pos hz)
  rw [hz]
  clear hz
  go_wp2_with fail
  refine (l9Cells_any u.wn u.wK u.wV x1 y1 _ (by omega) HIN.out.2.1).mono ?_
  rintro e w5 ⟨rfl, hb5⟩
  replace HB : Hid (Below w.heap.size w w5) := below_then HB.out hb5
  replace p5 := cell_below p5 hb5
  replace HIN : Hid (InCd w5 x0 x1 x2 u) := HIN.out.below hb5
  clear hb5 p4
  by_cases hz : cff u.wK u.wV u.wn 0 = 0
  case neg =>
    have HC : Hid (C = cff u.wK u.wV u.wn 0) := HE.out.trans (if_neg hz)
    have hd : (cff u.wK u.wV u.wn 0 != 0) = true := by simpa using hz
    generalize cff u.wK u.wV u.wn 0 = z at *
    clear HE hz
    go_wp2_with fail
    go_ret
    exact ⟨ret_int HC.out.symm, HB.out⟩
  replace HE : Hid (C = wrF u.rn u.rF) := HE.out.trans (if_pos hz)
  rw [hz]
  clear hz
  have HF : Hid (IntsAt w5 x2 u.rn u.rF) := HIN.out.2.2
  have HE3 : Hid (C = if alI 0 31 u.rF u.rn 0 = true then (if rsf u.rF u.rn 0 = true then 0 else 1) else 3) := HE.out
  generalize u.rF = Z at *
  generalize u.rn = n at *
  clear HE HIN
  go_wp2_with fail
  go_loop [8] (fun i => ∃ k : Nat, k ≤ n ∧ i = .int .i64 k ∧ Hid (alI 0 31 Z n 0 = alI 0 31 Z (n - k) k)) (fun i => n - (intOf i).toNat)
  case atStart => exact ⟨0, Nat.zero_le _, rfl, rfl⟩
  case round =>
    obtain ⟨k, hk, rfl, HC⟩ := hrel
    by_cases hlt : k < n
    · rcases HF.out with h | ⟨bb, of, rfl, hl, hc⟩
      · omega
      have h0 := hc k hlt
      have hlt' : (k : Int) < (n : Int) := by omega
      have HD : Hid (alI 0 31 Z n 0 = _) := HC.out.trans (alI_at hlt)
      clear HC hc
      obtain hx | hx := bool_or9 (inB (Z k) 0 31)
      · have HC : Hid (alI 0 31 Z n 0 = alI 0 31 Z (n - (k + 1)) (k + 1)) := HD.out.trans (if_pos hx)
        clear HD
        go_wp2_with (go_at_call 67; refine (l1Key_any _ _).mono ?_; rintro e w' ⟨rfl, rfl⟩; rw [hx])
        go_round
        case rel => exact ⟨k + 1, hlt, by go_num, HC⟩
        case measure => simp [intOf]; omega
      · have HC : Hid (C = 3) := by refine HE3.out.trans (if_neg ?_); rw [HD.out, if_neg (by simp [hx])]; simp
        clear HD HE3
        go_wp2_with (go_at_call 67; refine (l1Key_any _ _).mono ?_; rintro e w' ⟨rfl, rfl⟩; rw [hx])
        go_ret
        exact ⟨ret_int HC.out.symm, HB.out⟩
    · have HA : Hid (alI 0 31 Z n 0 = true) := by refine HC.out.trans ?_; rw [show n - k = 0 by omega, alI]
      have HE2 : Hid (C = if rsf Z n 0 = true then 0 else 1) := HE3.out.trans (if_pos HA.out)
      have hnl : ¬ ((k : Int) < (n : Int)) := by omega
      have hst : rsf Z n 0 = rsf Z (n - 1) 1 := by
        rcases Nat.eq_zero_or_pos n with e | e
        · subst e; rfl
        · have := rsf_at (F := Z) (n := n) (k := 0) e
          rw [if_neg (by omega)] at this
          exact this
      have HST : Hid (rsf Z n 0 = rsf Z (n - 1) 1) := hst
      clear HC HE3 HA hst
      go_wp2_with fail
      go_loopw [9] (fun i wr => ∃ k : Nat, 1 ≤ k ∧ (k ≤ n ∨ k = 1) ∧ i = .int .i64 k ∧ Hid (rsf Z n 0 = rsf Z (n - k) k) ∧ ∃ m, wr = w5.drewN m) (fun i _ => n + 1 - (intOf i).toNat)
      case atStart => exact ⟨1, Nat.le_refl _, .inr rfl, rfl, HST, 0, rfl⟩
      case round =>
        obtain ⟨q, hq1, hq2, rfl, HC, m, rfl⟩ := hrel
        by_cases hql : q < n
        · obtain ⟨j, rfl⟩ : ∃ j, q = j + 1 := ⟨q - 1, by omega⟩
          rcases HF.out with h | ⟨bb, of, rfl, hl, hc⟩
          · omega
          have h0 := hc (j + 1) hql
          have h1 := hc j (by omega)
          have hj1 : (j : Int) < (n : Int) := by omega
          have hj2 : j < n := by omega
          have hj8 : (j : Int) + 1 < (n : Int) := by omega
          have hwj : IntKind.i64.wrap (j : Int) = (j : Int) := by rw [IntKind.wrap_i64]; omega
          have HD : Hid (rsf Z n 0 = _) := HC.out.trans (rsf_at hql)
          clear HC hc
          by_cases hle : Z (j + 1) ≤ Z j
          · have HC : Hid (C = 1) := by refine HE2.out.trans (if_neg ?_); rw [HD.out, if_pos ⟨by omega, by simpa using hle⟩]; simp
            clear HD HE2
            go_wp2_with fail
            go_quiet (fail)
            go_wp2_with fail
            go_ret
            exact ⟨ret_int HC.out.symm, by first | exact below_drewN HB.out _ | exact below_drewN (below_drewN HB.out _) _⟩
          · have HC : Hid (rsf Z n 0 = rsf Z (n - (j + 1 + 1)) (j + 1 + 1)) := by refine HD.out.trans (if_neg ?_); simp; omega
            have hle' : decide (Z (j + 1) ≤ Z j) = false := by simpa using hle
            clear HD
            go_wp2_with fail
            go_quiet (fail)
            go_wp2_with fail
            go_roundw
            case rel => exact ⟨j + 1 + 1, by omega, .inl (by omega), by go_num, HC, _, by first | rfl | exact World.drewN_drewN _ _ _⟩
            case measure => simp [intOf]; omega
        · have HR : Hid (rsf Z n 0 = true) := by refine HC.out.trans ?_; rw [show n - q = 0 by omega, rsf]
          have HC2 : Hid (C = 0) := HE2.out.trans (if_pos HR.out)
          have hnl2 : ¬ ((q : Int) < (n : Int)) := by omega
          clear HC HE2 HR
          go_wp2_with fail
          go_ret
          exact ⟨ret_int HC2.out.symm, below_drewN HB.out _⟩
set_option maxHeartbeats 4000000 in
theorem specCf_any (t : Cs) (a0 : Option Addr) (c0 : Nat) (a1 : Option Addr) (c1 : Nat) (a2 : Option Addr) (c2 : Nat) (w : World) (hS : SmCs t) (h : InCs w a0 a1 a2 t) :
    Calls Try.prog 19 #[.agg #[.int .i64 t.nx, .int .i64 t.ck, .slice a0 t.wn c0, .slice a1 t.ln c1, .slice a2 t.tn c2]] w fun e w' => e = .returned (.int .i64 (csF t)) ∧ Below w.heap.size w w' := by
  generalize hC : csF t = C
  have HE : Hid (C = _) := hC.symm.trans (show csF t = if (inB t.nx 1 999 && inB t.ck 0 1000000) = true then (if 20 < t.tn then 2 else if t.ln = 32 then (if alI 0 t.ck t.lF t.ln 0 = true then (if cff t.wK t.wV t.wn 0 = 0 then ffy (cdF t.nx t.ck t.tT) t.tn 0 else cff t.wK t.wV t.wn 0) else 3) else 1) else 3 from rfl)
  have HA : Hid (InCs w a0 a1 a2 t) := h
  have HSM : Hid (SmCs t) := hS
  have hwn := hS.1
  clear hC h hS
  obtain h1 | h1 := bool_or9 (inB t.nx 1 999)
  case inr =>
    have HC : Hid (C = 3) := HE.out.trans (if_neg (by simp [h1]))
    clear HE
    go_enter Try.func19, Try.ntmps19
    go_wp2_with (first | (go_at_call 44; refine (l5Txn_any _ _).mono ?_; rintro e w' ⟨rfl, rfl⟩; rw [h1]) | (go_at_call 45; refine (l1In_any _ _ _ _).mono ?_; rintro e w' ⟨rfl, rfl⟩))
    go_ret
    exact ⟨ret_int HC.out.symm, below_new _ _⟩
  obtain h2 | h2 := bool_or9 (inB t.ck 0 1000000)
  case inr =>
    have HC : Hid (C = 3) := HE.out.trans (if_neg (by simp [h2]))
    clear HE
    go_enter Try.func19, Try.ntmps19
    go_wp2_with (first | (go_at_call 44; refine (l5Txn_any _ _).mono ?_; rintro e w' ⟨rfl, rfl⟩; rw [h1]) | (go_at_call 45; refine (l1In_any _ _ _ _).mono ?_; rintro e w' ⟨rfl, rfl⟩; rw [h2]))
    go_ret
    exact ⟨ret_int HC.out.symm, below_new _ _⟩
  replace HE : Hid (C = _) := HE.out.trans (if_pos (by rw [h1, h2]; rfl))
  by_cases h3 : 20 < t.tn
  case pos =>
    have HC : Hid (C = 2) := HE.out.trans (if_pos h3)
    clear HE
    go_enter Try.func19, Try.ntmps19
    go_wp2_with (first | (go_at_call 44; refine (l5Txn_any _ _).mono ?_; rintro e w' ⟨rfl, rfl⟩; rw [h1]) | (go_at_call 45; refine (l1In_any _ _ _ _).mono ?_; rintro e w' ⟨rfl, rfl⟩; rw [h2]))
    go_ret
    exact ⟨ret_int HC.out.symm, below_new _ _⟩
  replace HE : Hid (C = _) := HE.out.trans (if_neg h3)
  by_cases h4 : t.ln = 32
  case neg =>
    have HC : Hid (C = 1) := HE.out.trans (if_neg h4)
    have hd : ((t.ln : Int) != 32) = true := by simp; omega
    clear HE h4
    go_enter Try.func19, Try.ntmps19
    go_wp2_with (first | (go_at_call 44; refine (l5Txn_any _ _).mono ?_; rintro e w' ⟨rfl, rfl⟩; rw [h1]) | (go_at_call 45; refine (l1In_any _ _ _ _).mono ?_; rintro e w' ⟨rfl, rfl⟩; rw [h2]))
    go_ret
    exact ⟨ret_int HC.out.symm, below_new _ _⟩
  replace HE : Hid (C = _) := HE.out.trans (if_pos h4)
  have hd4 : ((t.ln : Int) != 32) = false := by simp; omega
  have hlsm : t.ln ≤ 1048576 := by omega
  have hnx := inB_iff.1 h1
  have HNX : Hid (1 ≤ t.nx ∧ t.nx ≤ 999) := hnx
  clear hnx h4
  go_enter Try.func19, Try.ntmps19
  go_wp2_with (first | (go_at_call 44; refine (l5Txn_any _ _).mono ?_; rintro e w' ⟨rfl, rfl⟩; rw [h1]) | (go_at_call 45; refine (l1In_any _ _ _ _).mono ?_; rintro e w' ⟨rfl, rfl⟩; rw [h2]))
  clear h1 h2
  have hbx := Box5.new w (.int .i64 t.nx) (.int .i64 t.ck) (.slice a0 t.wn c0) (.slice a1 t.ln c1) (.slice a2 t.tn c2) 50
  have HB0 : Hid (Below w.heap.size w (w.alloc (.cells #[.int .i64 t.nx, .int .i64 t.ck, .slice a0 t.wn c0, .slice a1 t.ln c1, .slice a2 t.tn c2] 50))) := below_new _ _
  generalize (w.alloc (.cells #[.int .i64 t.nx, .int .i64 t.ck, .slice a0 t.wn c0, .slice a1 t.ln c1, .slice a2 t.tn c2] 50)) = W at *
  have HF : Hid (IntsAt W a1 t.ln t.lF) := HA.out.2.1.below HB0.out
  obtain ⟨e0, e1, e2, e3, e4⟩ := hbx
  go_loopw [3] (fun i wr => ∃ k : Nat, k ≤ t.ln ∧ i = .int .i64 k ∧ Hid (alI 0 t.ck t.lF t.ln 0 = alI 0 t.ck t.lF (t.ln - k) k) ∧ ∃ m, wr = W.drewN m) (fun i _ => t.ln - (intOf i).toNat)
  case atStart => exact ⟨0, Nat.zero_le _, rfl, rfl, 0, rfl⟩
  case round =>
    obtain ⟨k, hk, rfl, HC, m, rfl⟩ := hrel
    obtain ⟨w1, hw1⟩ : ∃ x, x = W.drewN m := ⟨_, rfl⟩
    rw [← hw1]
    have hb1 : Below W.heap.size W w1 := by rw [hw1]; exact below_drewN (Below.refl _ _) _
    have HW1 : Hid (∀ q, ∃ m', w1.drewN q = W.drewN m') := fun q => ⟨m + q, by rw [hw1]; exact World.drewN_drewN _ _ _⟩
    clear hw1
    have e0' := cell_below e0 hb1
    have e1' := cell_below e1 hb1
    have e2' := cell_below e2 hb1
    have e3' := cell_below e3 hb1
    have e4' := cell_below e4 hb1
    have HB1 : Hid (Below w.heap.size w w1) := HB0.out.trans (hb1.mono HB0.out.size)
    have HBW : Hid (Below W.heap.size W w1) := hb1
    clear hb1 e0 e1 e2 e3 e4
    by_cases hlt : k < t.ln
    · rcases HF.out.below HBW.out with h | ⟨b, off, rfl, hl, hc⟩
      · omega
      have h0 := hc k hlt
      have hlt' : (k : Int) < (t.ln : Int) := by omega
      have hk0 : (0 : Int) ≤ (k : Int) := by omega
      have HD : Hid (alI 0 t.ck t.lF t.ln 0 = _) := HC.out.trans (alI_at hlt)
      clear HC hc
      obtain hx | hx := bool_or9 (inB (t.lF k) 0 t.ck)
      · have HC : Hid (alI 0 t.ck t.lF t.ln 0 = alI 0 t.ck t.lF (t.ln - (k + 1)) (k + 1)) := HD.out.trans (if_pos hx)
        have HQ : Hid (∀ q, Calls Try.prog 45 #[.int .i64 (t.lF k), .int .i64 0, .int .i64 t.ck] (w1.drewN q) fun e w' => e = .returned (.bool true) ∧ ∃ m, w' = (w1.drewN q).drewN m) := fun q => by have := l1In_q9 (t.lF k) 0 t.ck (w1.drewN q); rw [hx] at this; exact this
        clear HD hx
        go_wp2_with fail
        go_quiet (first | (go_at_call 45; exact Calls.quiet_of (HQ.out _)))
        go_wp2_with fail
        go_roundw
        case rel => exact ⟨k + 1, hlt, by go_num, HC, HW1.out _⟩
        case measure => simp [intOf]; omega
      · have HC : Hid (C = 3) := by refine HE.out.trans (if_neg ?_); rw [HD.out, if_neg (by simp [hx])]; simp
        have HQ : Hid (∀ q, Calls Try.prog 45 #[.int .i64 (t.lF k), .int .i64 0, .int .i64 t.ck] (w1.drewN q) fun e w' => e = .returned (.bool false) ∧ ∃ m, w' = (w1.drewN q).drewN m) := fun q => by have := l1In_q9 (t.lF k) 0 t.ck (w1.drewN q); rw [hx] at this; exact this
        clear HD hx HE
        go_wp2_with fail
        go_quiet (first | (go_at_call 45; exact Calls.quiet_of (HQ.out _)))
        go_wp2_with fail
        go_ret
        exact ⟨ret_int HC.out.symm, below_drewN HB1.out _⟩
    · have HA2 : Hid (alI 0 t.ck t.lF t.ln 0 = true) := by refine HC.out.trans ?_; rw [show t.ln - k = 0 by omega, alI]
      have HE2 : Hid (C = _) := HE.out.trans (if_pos HA2.out)
      have hnl : ¬ ((k : Int) < (t.ln : Int)) := by omega
      clear HC HE HA2 HF HW1
      have HIN : Hid (InCs w1 a0 a1 a2 t) := HA.out.below HB1.out
      have hB1 : w.heap.size < w1.heap.size := Go.block_lt_of_cell e0'
      go_wp2_with fail
      refine (l9Cells_any t.wn t.wK t.wV a0 c0 _ (by omega) HIN.out.1).mono ?_
      rintro e w2 ⟨rfl, hb2⟩
      have HB2 : Hid (Below w.heap.size w w2) := below_then HB1.out hb2
      have hbx2 : Box5 w2 w.heap.size (.int .i64 t.nx) (.int .i64 t.ck) (.slice a0 t.wn c0) (.slice a1 t.ln c1) (.slice a2 t.tn c2) := Box5.below ⟨e0', e1', e2', e3', e4'⟩ hb2
      have HBX : Hid (Box5 w2 w.heap.size (.int .i64 t.nx) (.int .i64 t.ck) (.slice a0 t.wn c0) (.slice a1 t.ln c1) (.slice a2 t.tn c2)) := hbx2
      have HIN2 : Hid (InCs w2 a0 a1 a2 t) := HIN.out.below hb2
      clear hb2 hbx2 HIN e0' e1' e2' e3' e4' HB1 HBW hB1
      by_cases hz : cff t.wK t.wV t.wn 0 = 0
      case neg =>
        have HC : Hid (C = cff t.wK t.wV t.wn 0) := HE2.out.trans (if_neg hz)
        have hd : (cff t.wK t.wV t.wn 0 != 0) = true := by simpa using hz
        generalize cff t.wK t.wV t.wn 0 = z at *
        clear HE2 hz
        go_wp2_with fail
        go_ret
        exact ⟨ret_int HC.out.symm, HB2.out⟩
      replace HE2 : Hid (C = ffy (cdF t.nx t.ck t.tT) t.tn 0) := HE2.out.trans (if_pos hz)
      rw [hz]
      clear hz
      go_wp2_with fail
      go_loopw [5, 6] (fun i _ wr => ∃ k : Nat, k ≤ t.tn ∧ i = .int .i64 k ∧ Hid (C = ffy (cdF t.nx t.ck t.tT) (t.tn - k) k) ∧ Hid (Below w2.heap.size w2 wr)) (fun i _ _ => t.tn - (intOf i).toNat)
      case atStart => exact ⟨0, Nat.zero_le _, rfl, HE2, Below.refl _ _⟩
      case round =>
        obtain ⟨q, hq, rfl, HC, HBR⟩ := hrel
        have HBXr : Hid (Box5 wr w.heap.size (.int .i64 t.nx) (.int .i64 t.ck) (.slice a0 t.wn c0) (.slice a1 t.ln c1) (.slice a2 t.tn c2)) := HBX.out.below HBR.out
        have HINr : Hid (InCs wr a0 a1 a2 t) := HIN2.out.below HBR.out
        have HBr : Hid (Below w.heap.size w wr) := below_then HB2.out HBR.out
        obtain ⟨e0, e1, e2, e3, e4⟩ := HBXr.out
        by_cases hlt : q < t.tn
        · have hlt' : (q : Int) < (t.tn : Int) := by omega
          have HD : Hid (C = _) := HC.out.trans (ffy_at _ hlt)
          clear HC
          go_wp2_with fail
          refine (l9Copied_any t q w.heap.size a0 c0 a1 c1 a2 c2 _ hlt HSM.out HNX.out HBXr.out HINr.out).mono ?_
          rintro e w3 ⟨rfl, hb3⟩
          have HB3 : Hid (Below w2.heap.size w2 w3) := below_then HBR.out hb3
          have HB3' : Hid (Below w.heap.size w w3) := below_then HBr.out hb3
          clear hb3 e0 e1 e2 e3 e4
          by_cases hz : cdF t.nx t.ck t.tT q = 0
          · have HC : Hid (C = ffy (cdF t.nx t.ck t.tT) (t.tn - (q + 1)) (q + 1)) := HD.out.trans (if_pos hz)
            rw [hz]
            clear HD hz
            go_wp2_with fail
            go_roundw
            case rel => exact ⟨q + 1, hlt, by go_num, HC, HB3⟩
            case measure => simp [intOf]; omega
          · have HC : Hid (C = cdF t.nx t.ck t.tT q) := HD.out.trans (if_neg hz)
            have hd : (cdF t.nx t.ck t.tT q != 0) = true := by simpa using hz
            generalize cdF t.nx t.ck t.tT q = z at *
            clear HD hz
            go_wp2_with fail
            go_ret
            exact ⟨ret_int HC.out.symm, HB3'.out⟩
        · have HC2 : Hid (C = 0) := by refine HC.out.trans ?_; rw [show t.tn - q = 0 by omega, ffy]
          have hnl2 : ¬ ((q : Int) < (t.tn : Int)) := by omega
          clear HC
          go_wp2_with fail
          go_ret
          exact ⟨ret_int HC2.out.symm, HBr.out⟩
end Go.Proofs.Ytenglcgkachomaa
