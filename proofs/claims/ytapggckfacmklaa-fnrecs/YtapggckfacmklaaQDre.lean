/- Draws: spec.l3Rec. -/
import Derived.Test.YtapggckfacmklaaQRe
import Derived.Test.YtapggckfacmklaaQUp
namespace Go.Proofs.Ytapggckfacmklaa
open Go.RowKit Go.Deep
set_option linter.unusedVariables false
set_option linter.unusedSimpArgs false
set_option maxRecDepth 20000

/-- The record as a value. -/
def rV (r : Rc) : Value := .agg #[.int .i64 r.k, .int .i64 r.t, .int .i64 r.key, .bool r.hd, .int .i64 r.old, .bool r.hs, .int .i64 r.nw, .int .i64 r.bk]
theorem goodR_lit (k t key : Int) (hd : Bool) (old : Int) (hs : Bool) (nw bk : Int) (h1 : 0 ≤ k ∧ k ≤ 6) (h2 : 0 ≤ t ∧ t ≤ 999) (h3 : 0 ≤ key ∧ key ≤ 31) (h4 : 0 ≤ old ∧ old ≤ 9999) (h5 : 0 ≤ nw ∧ nw ≤ 9999) (h6 : 0 ≤ bk ∧ bk ≤ 1000) :
    GoodR (Rc.mk k t key hd old hs nw bk).k (Rc.mk k t key hd old hs nw bk).t (Rc.mk k t key hd old hs nw bk).key (Rc.mk k t key hd old hs nw bk).hd (Rc.mk k t key hd old hs nw bk).old (Rc.mk k t key hd old hs nw bk).hs (Rc.mk k t key hd old hs nw bk).nw (Rc.mk k t key hd old hs nw bk).bk := ⟨h1, h2, h3, h4, h5, h6⟩
set_option maxHeartbeats 4000000 in
theorem l3Rec_good (S : Nat) (a : Option Addr) (k cap : Nat) (z : Nat → Int) (t : Nat) (w : World) (ht : t ≤ 999900) (h : Src w S a k cap z t) :
    Calls Try.prog 39 #[.pointer (some ⟨S, 0, none⟩)] w fun e w' => ∃ (r : Rc) (t' : Nat), e = .returned (rV r) ∧ t' ≤ t + 20 ∧ Dw S a k cap z t' w w' ∧ GoodR r.k r.t r.key r.hd r.old r.hs r.nw r.bk := by
  have HS : Hid (Src w S a k cap z t) := h
  have HL : Hid (S < w.heap.size) := h.lt
  clear h
  go_enter Try.func39, Try.ntmps39
  go_wp2_with fail
  obtain ⟨W, hW⟩ : ∃ x, x = w.alloc (.cells #[.int .i64 0, .int .i64 0, .int .i64 0, .bool false, .int .i64 0, .bool false, .int .i64 0, .int .i64 0] 37) := ⟨_, rfl⟩
  have HB : Hid (RB W w.heap.size zR8) := by
    rw [hW]
    exact ⟨by simp [go_sem, zR8], by simp [go_sem, zR8], by simp [go_sem, zR8], by simp [go_sem, zR8], by simp [go_sem, zR8], by simp [go_sem, zR8], by simp [go_sem, zR8], by simp [go_sem, zR8], fun i => by simp [go_sem]⟩
  have HD : Hid (Dw S a k cap z t w W) := by rw [hW]; exact HS.out.self.below (below_new _ _)
  rw [← hW]
  clear hW
  refine (l1Next_any S a k cap z t 5 W (by omega) (by omega) HD.out.src).mono ?_
  rintro e w1 ⟨v1, rfl, hv1, hn1⟩
  have HD1 : Hid (Dw S a k cap z (t + 1) w w1) := HD.out.trans hn1.dw
  have HB1 : Hid (RB w1 w.heap.size zR8) := HB.out.block (hn1.1.block _ HB.out.lt (by have := HL.out; omega))
  obtain ⟨l1, u1, -⟩ := hv1
  have u1 := u1 (by omega)
  clear hn1
  go_wp2_with fail
  refine (l1Next_any S a k cap z (t + 1) 4 w1 (by omega) (by omega) HD1.out.src).mono ?_
  rintro e w2 ⟨v2, rfl, hv2, hn2⟩
  have HD2 : Hid (Dw S a k cap z (t + 2) w w2) := HD1.out.trans hn2.dw
  have HB2 : Hid (RB w2 w.heap.size zR8) := HB1.out.block (hn2.1.block _ HB1.out.lt (by have := HL.out; omega))
  obtain ⟨l2, u2, -⟩ := hv2
  have u2 := u2 (by omega)
  clear hn2
  go_wp2_with fail
  have HR0 : Hid (RS S a k cap z (t + 2) w (w2.alloc (.cells #[.int .i64 (1 + v1), .int .i64 (1 + v2), .int .i64 0, .bool false, .int .i64 0, .bool false, .int .i64 0, .int .i64 0] 37)) w2.heap.size ⟨1 + v1, 1 + v2, 0, false, 0, false, 0, 0⟩) := ⟨HD2.out.below (below_new _ _), HB2.out.block ((below_new _ _).block _ HB2.out.lt), ⟨by simp [go_sem], by simp [go_sem], by simp [go_sem], by simp [go_sem], by simp [go_sem], by simp [go_sem], by simp [go_sem], by simp [go_sem], fun i => by simp [go_sem]⟩, HB2.out.lt, HL.out⟩
  have HT : Hid (t ≤ 999900) := ht
  generalize hB3 : w2.heap.size = B3 at *
  clear hB3 HD HB HD1 HB1 HD2 HB2
  refine (l1Chance_any S a k cap z (t + 2) 10 _ (by have := HT.out; omega) (by omega) HR0.out.d.src).mono ?_
  rintro e x1 ⟨b, rfl, hn⟩
  have HR1 : Hid (RS S a k cap z (t + 2 + 1) w x1 B3 (⟨1 + v1, 1 + v2, 0, false, 0, false, 0, 0⟩ : Rc)) := HR0.out.call hn.dw
  clear hn
  cases b
  case true =>
    have d0 : (x1).cell? ⟨w.heap.size, 0, none⟩ = some (.int .i64 (0)) := HR1.out.b2.c0
    have d1 : (x1).cell? ⟨w.heap.size, 1, none⟩ = some (.int .i64 (0)) := HR1.out.b2.c1
    have d2 : (x1).cell? ⟨w.heap.size, 2, none⟩ = some (.int .i64 (0)) := HR1.out.b2.c2
    have d3 : (x1).cell? ⟨w.heap.size, 3, none⟩ = some (.bool (false)) := HR1.out.b2.c3
    have d4 : (x1).cell? ⟨w.heap.size, 4, none⟩ = some (.int .i64 (0)) := HR1.out.b2.c4
    have d5 : (x1).cell? ⟨w.heap.size, 5, none⟩ = some (.bool (false)) := HR1.out.b2.c5
    have d6 : (x1).cell? ⟨w.heap.size, 6, none⟩ = some (.int .i64 (0)) := HR1.out.b2.c6
    have d7 : (x1).cell? ⟨w.heap.size, 7, none⟩ = some (.int .i64 (0)) := HR1.out.b2.c7
    have df : ∀ i, (x1).frozen? ⟨w.heap.size, i, none⟩ = false := HR1.out.b2.f
    go_wp2_with fail
    refine bodyPost_ret (v := rV ⟨6, 0, 0, false, 0, false, 0, 0⟩) (by simp [results, Try.results39, go_sem, rV, d0, d1, d2, d3, d4, d5, d6, d7]) rfl ⟨_, _, rfl, by have := HT.out; omega, HR1.out.d.over ?_ HL.out, goodR_lit _ _ _ _ _ _ _ _ (by omega) (by omega) (by omega) (by omega) (by omega) (by omega)⟩
    repeat (first | with_reducible exact Below.refl _ _ | with_reducible apply Below.drew | with_reducible refine Below.setCell ?_ (by exact Nat.le_refl _) _)
  case false =>
    have q0 : (x1).cell? ⟨B3, 0, none⟩ = some (.int .i64 (1 + v1)) := HR1.out.b3.c0
    have q1 : (x1).cell? ⟨B3, 1, none⟩ = some (.int .i64 (1 + v2)) := HR1.out.b3.c1
    have q2 : (x1).cell? ⟨B3, 2, none⟩ = some (.int .i64 (0)) := HR1.out.b3.c2
    have q3 : (x1).cell? ⟨B3, 3, none⟩ = some (.bool (false)) := HR1.out.b3.c3
    have q4 : (x1).cell? ⟨B3, 4, none⟩ = some (.int .i64 (0)) := HR1.out.b3.c4
    have q5 : (x1).cell? ⟨B3, 5, none⟩ = some (.bool (false)) := HR1.out.b3.c5
    have q6 : (x1).cell? ⟨B3, 6, none⟩ = some (.int .i64 (0)) := HR1.out.b3.c6
    have q7 : (x1).cell? ⟨B3, 7, none⟩ = some (.int .i64 (0)) := HR1.out.b3.c7
    have qf : ∀ i, (x1).frozen? ⟨B3, i, none⟩ = false := HR1.out.b3.f
    go_upto_region 4 with fail
    go_cut [25] (fun cc wx => ∃ (b : Bool) (t5 : Nat), cc = .bool b ∧ Hid (t5 ≤ t + 4) ∧ Hid (RS S a k cap z t5 w wx B3 (⟨1 + v1, 1 + v2, 0, false, 0, false, 0, 0⟩ : Rc)))
    case first =>
      by_cases e2 : v1 = 1
      · subst e2
        go_wp2_with fail
        go_meet
        exact ⟨_, _, rfl, (by show _ ≤ _; omega), HR1⟩
      · by_cases e5 : v1 = 4
        · subst e5
          go_wp2_with fail
          go_meet
          exact ⟨_, _, rfl, (by show _ ≤ _; omega), HR1⟩
        · have e2 : 1 + v1 ≠ 2 := by omega
          have e5 : 1 + v1 ≠ 5 := by omega
          go_wp2_with fail
          clear q0 q1 q2 q3 q4 q5 q6 q7 qf
          refine (l1Chance_any S a k cap z (t + 2 + 1) 2 _ (by have := HT.out; omega) (by omega) HR1.out.d.src).mono ?_
          rintro e x2 ⟨b, rfl, hn⟩
          have HR2 : Hid (RS S a k cap z (t + 2 + 1 + 1) w x2 B3 (⟨1 + v1, 1 + v2, 0, false, 0, false, 0, 0⟩ : Rc)) := HR1.out.call hn.dw
          clear hn
          go_wp2_with fail
          go_meet
          exact ⟨_, _, rfl, (by show _ ≤ _; omega), HR2⟩
    case rest =>
      clear q0 q1 q2 q3 q4 q5 q6 q7 qf
      obtain ⟨b, t5, rfl, HT5, HRc⟩ := hcut
      have HT : Hid (t5 ≤ 999904) := by have := HT.out; have := HT5.out; show _ ≤ _; omega
      cases b
      case false =>
        have q0 : (wc).cell? ⟨B3, 0, none⟩ = some (.int .i64 (1 + v1)) := HRc.out.b3.c0
        have q1 : (wc).cell? ⟨B3, 1, none⟩ = some (.int .i64 (1 + v2)) := HRc.out.b3.c1
        have q2 : (wc).cell? ⟨B3, 2, none⟩ = some (.int .i64 (0)) := HRc.out.b3.c2
        have q3 : (wc).cell? ⟨B3, 3, none⟩ = some (.bool (false)) := HRc.out.b3.c3
        have q4 : (wc).cell? ⟨B3, 4, none⟩ = some (.int .i64 (0)) := HRc.out.b3.c4
        have q5 : (wc).cell? ⟨B3, 5, none⟩ = some (.bool (false)) := HRc.out.b3.c5
        have q6 : (wc).cell? ⟨B3, 6, none⟩ = some (.int .i64 (0)) := HRc.out.b3.c6
        have q7 : (wc).cell? ⟨B3, 7, none⟩ = some (.int .i64 (0)) := HRc.out.b3.c7
        have qf : ∀ i, (wc).frozen? ⟨B3, i, none⟩ = false := HRc.out.b3.f
        have d0 : (wc).cell? ⟨w.heap.size, 0, none⟩ = some (.int .i64 (0)) := HRc.out.b2.c0
        have d1 : (wc).cell? ⟨w.heap.size, 1, none⟩ = some (.int .i64 (0)) := HRc.out.b2.c1
        have d2 : (wc).cell? ⟨w.heap.size, 2, none⟩ = some (.int .i64 (0)) := HRc.out.b2.c2
        have d3 : (wc).cell? ⟨w.heap.size, 3, none⟩ = some (.bool (false)) := HRc.out.b2.c3
        have d4 : (wc).cell? ⟨w.heap.size, 4, none⟩ = some (.int .i64 (0)) := HRc.out.b2.c4
        have d5 : (wc).cell? ⟨w.heap.size, 5, none⟩ = some (.bool (false)) := HRc.out.b2.c5
        have d6 : (wc).cell? ⟨w.heap.size, 6, none⟩ = some (.int .i64 (0)) := HRc.out.b2.c6
        have d7 : (wc).cell? ⟨w.heap.size, 7, none⟩ = some (.int .i64 (0)) := HRc.out.b2.c7
        have df : ∀ i, (wc).frozen? ⟨w.heap.size, i, none⟩ = false := HRc.out.b2.f
        go_wp2_with fail
        refine bodyPost_ret (v := rV (⟨1 + v1, 1 + v2, 0, false, 0, false, 0, 0⟩ : Rc)) (by simp [results, Try.results39, go_sem, rV, d0, d1, d2, d3, d4, d5, d6, d7]) rfl ⟨_, _, rfl, by have := HT5.out; omega, HRc.out.d.over ?_ HL.out, goodR_lit _ _ _ _ _ _ _ _ (by omega) (by omega) (by omega) (by omega) (by omega) (by omega)⟩
        repeat (first | with_reducible exact Below.refl _ _ | with_reducible apply Below.drew | with_reducible refine Below.setCell ?_ (by exact Nat.le_refl _) _)
      case true =>
        have hB3 : w.heap.size ≤ B3 := Nat.le_of_lt HRc.out.lt
        have hne1 : w.heap.size ≠ B3 := Nat.ne_of_lt HRc.out.lt
        have hne2 : B3 ≠ w.heap.size := Ne.symm hne1
        go_wp2_with fail
        have HP : Hid (RS S a k cap z t5 w (wc.alloc (.cells #[.int .i64 2, .int .i64 2, .int .i64 5] 2)) B3 (⟨1 + v1, 1 + v2, 0, false, 0, false, 0, 0⟩ : Rc)) := HRc.out.below (below_new _ _)
        refine (l1Pick_any S a k cap z t5 wc.heap.size 0 3 3 (fun i => if i = 2 then 5 else 2) _ (by have := HT.out; omega) (by omega) (by omega) (by have := HRc.out.d.src.lt; omega) (by simp [go_sem]) (fun i hi => ?_) HP.out.d.src).mono ?_
        · rcases i with - | - | - | i
          · simp [go_sem]
          · simp [go_sem]
          · simp [go_sem]
          · omega
        rintro e y1 ⟨i, hi, rfl, hn⟩
        obtain ⟨kd, hkd, hkk⟩ : ∃ kd : Int, (if i = 2 then (5 : Int) else 2) = kd ∧ (kd = 2 ∨ kd = 5) := ⟨_, rfl, by split <;> simp⟩
        have HK : Hid (kd = 2 ∨ kd = 5) := hkk
        have HY : Hid (RS S a k cap z (t5 + 1) w y1 B3 (⟨1 + v1, 1 + v2, 0, false, 0, false, 0, 0⟩ : Rc)) := HP.out.call hn.dw
        simp only [hkd]
        clear hn hkd hkk hi HP
        have q0 : (y1).cell? ⟨B3, 0, none⟩ = some (.int .i64 (1 + v1)) := HY.out.b3.c0
        have q1 : (y1).cell? ⟨B3, 1, none⟩ = some (.int .i64 (1 + v2)) := HY.out.b3.c1
        have q2 : (y1).cell? ⟨B3, 2, none⟩ = some (.int .i64 (0)) := HY.out.b3.c2
        have q3 : (y1).cell? ⟨B3, 3, none⟩ = some (.bool (false)) := HY.out.b3.c3
        have q4 : (y1).cell? ⟨B3, 4, none⟩ = some (.int .i64 (0)) := HY.out.b3.c4
        have q5 : (y1).cell? ⟨B3, 5, none⟩ = some (.bool (false)) := HY.out.b3.c5
        have q6 : (y1).cell? ⟨B3, 6, none⟩ = some (.int .i64 (0)) := HY.out.b3.c6
        have q7 : (y1).cell? ⟨B3, 7, none⟩ = some (.int .i64 (0)) := HY.out.b3.c7
        have qf : ∀ i, (y1).frozen? ⟨B3, i, none⟩ = false := HY.out.b3.f
        have HR3 : Hid (RS S a k cap z (t5 + 1) w (y1.setCell ⟨B3, 0, none⟩ (.int .i64 kd)) B3 (⟨kd, 1 + v2, 0, false, 0, false, 0, 0⟩ : Rc)) := HY.out.put 0 _ (HY.out.b3.put0 _)
        go_wp2_with fail
        clear q0 q1 q2 q3 q4 q5 q6 q7 qf
        refine (l1DrawKey_any S a k cap z (t5 + 1) _ (by have := HT.out; omega) HR3.out.d.src).mono ?_
        rintro e x4 ⟨ky, rfl, hky, hn⟩
        have HR4 : Hid (RS S a k cap z (t5 + 1 + 4) w x4 B3 (⟨kd, 1 + v2, 0, false, 0, false, 0, 0⟩ : Rc)) := HR3.out.call hn
        clear hn
        have q0 : (x4).cell? ⟨B3, 0, none⟩ = some (.int .i64 (kd)) := HR4.out.b3.c0
        have q1 : (x4).cell? ⟨B3, 1, none⟩ = some (.int .i64 (1 + v2)) := HR4.out.b3.c1
        have q2 : (x4).cell? ⟨B3, 2, none⟩ = some (.int .i64 (0)) := HR4.out.b3.c2
        have q3 : (x4).cell? ⟨B3, 3, none⟩ = some (.bool (false)) := HR4.out.b3.c3
        have q4 : (x4).cell? ⟨B3, 4, none⟩ = some (.int .i64 (0)) := HR4.out.b3.c4
        have q5 : (x4).cell? ⟨B3, 5, none⟩ = some (.bool (false)) := HR4.out.b3.c5
        have q6 : (x4).cell? ⟨B3, 6, none⟩ = some (.int .i64 (0)) := HR4.out.b3.c6
        have q7 : (x4).cell? ⟨B3, 7, none⟩ = some (.int .i64 (0)) := HR4.out.b3.c7
        have qf : ∀ i, (x4).frozen? ⟨B3, i, none⟩ = false := HR4.out.b3.f
        have HR5 : Hid (RS S a k cap z (t5 + 1 + 4) w (x4.setCell ⟨B3, 2, none⟩ (.int .i64 ky)) B3 (⟨kd, 1 + v2, ky, false, 0, false, 0, 0⟩ : Rc)) := HR4.out.put 2 _ (HR4.out.b3.put2 _)
        go_wp2_with fail
        clear q0 q1 q2 q3 q4 q5 q6 q7 qf
        refine (l1Chance_any S a k cap z (t5 + 1 + 4) 2 _ (by have := HT.out; omega) (by omega) HR5.out.d.src).mono ?_
        rintro e x6 ⟨hd, rfl, hn⟩
        have HR6 : Hid (RS S a k cap z (t5 + 1 + 4 + 1) w x6 B3 (⟨kd, 1 + v2, ky, false, 0, false, 0, 0⟩ : Rc)) := HR5.out.call hn.dw
        clear hn
        have q0 : (x6).cell? ⟨B3, 0, none⟩ = some (.int .i64 (kd)) := HR6.out.b3.c0
        have q1 : (x6).cell? ⟨B3, 1, none⟩ = some (.int .i64 (1 + v2)) := HR6.out.b3.c1
        have q2 : (x6).cell? ⟨B3, 2, none⟩ = some (.int .i64 (ky)) := HR6.out.b3.c2
        have q3 : (x6).cell? ⟨B3, 3, none⟩ = some (.bool (false)) := HR6.out.b3.c3
        have q4 : (x6).cell? ⟨B3, 4, none⟩ = some (.int .i64 (0)) := HR6.out.b3.c4
        have q5 : (x6).cell? ⟨B3, 5, none⟩ = some (.bool (false)) := HR6.out.b3.c5
        have q6 : (x6).cell? ⟨B3, 6, none⟩ = some (.int .i64 (0)) := HR6.out.b3.c6
        have q7 : (x6).cell? ⟨B3, 7, none⟩ = some (.int .i64 (0)) := HR6.out.b3.c7
        have qf : ∀ i, (x6).frozen? ⟨B3, i, none⟩ = false := HR6.out.b3.f
        have HR7 : Hid (RS S a k cap z (t5 + 1 + 4 + 1) w (x6.setCell ⟨B3, 3, none⟩ (.bool hd)) B3 (⟨kd, 1 + v2, ky, hd, 0, false, 0, 0⟩ : Rc)) := HR6.out.put 3 _ (HR6.out.b3.put3 _)
        go_wp2_with fail
        clear q0 q1 q2 q3 q4 q5 q6 q7 qf
        refine (l1Chance_any S a k cap z (t5 + 1 + 4 + 1) 4 _ (by have := HT.out; omega) (by omega) HR7.out.d.src).mono ?_
        rintro e x8 ⟨hb, rfl, hn⟩
        have HR8 : Hid (RS S a k cap z (t5 + 1 + 4 + 1 + 1) w x8 B3 (⟨kd, 1 + v2, ky, hd, 0, false, 0, 0⟩ : Rc)) := HR7.out.call hn.dw
        clear hn
        have HKc := HK.out
        clear HK
        rcases HKc with rfl | rfl <;> cases hd <;> cases hb
        · have q0 : (x8).cell? ⟨B3, 0, none⟩ = some (.int .i64 (2)) := HR8.out.b3.c0
          have q1 : (x8).cell? ⟨B3, 1, none⟩ = some (.int .i64 (1 + v2)) := HR8.out.b3.c1
          have q2 : (x8).cell? ⟨B3, 2, none⟩ = some (.int .i64 (ky)) := HR8.out.b3.c2
          have q3 : (x8).cell? ⟨B3, 3, none⟩ = some (.bool (false)) := HR8.out.b3.c3
          have q4 : (x8).cell? ⟨B3, 4, none⟩ = some (.int .i64 (0)) := HR8.out.b3.c4
          have q5 : (x8).cell? ⟨B3, 5, none⟩ = some (.bool (false)) := HR8.out.b3.c5
          have q6 : (x8).cell? ⟨B3, 6, none⟩ = some (.int .i64 (0)) := HR8.out.b3.c6
          have q7 : (x8).cell? ⟨B3, 7, none⟩ = some (.int .i64 (0)) := HR8.out.b3.c7
          have qf : ∀ i, (x8).frozen? ⟨B3, i, none⟩ = false := HR8.out.b3.f
          have HR9 : Hid (RS S a k cap z (t5 + 1 + 4 + 1 + 1) w (x8.setCell ⟨B3, 5, none⟩ (.bool true)) B3 (⟨2, 1 + v2, ky, false, 0, true, 0, 0⟩ : Rc)) := HR8.out.put 5 _ (HR8.out.b3.put5 _)
          go_wp2_with fail
          clear q0 q1 q2 q3 q4 q5 q6 q7 qf
          refine (l1Next_any S a k cap z (t5 + 1 + 4 + 1 + 1) 90 _ (by have := HT.out; omega) (by omega) HR9.out.d.src).mono ?_
          rintro e x10 ⟨nw, rfl, hnw, hn⟩
          have HR10 : Hid (RS S a k cap z (t5 + 1 + 4 + 1 + 1 + 1) w x10 B3 (⟨2, 1 + v2, ky, false, 0, true, 0, 0⟩ : Rc)) := HR9.out.call hn.dw
          clear hn
          obtain ⟨lnw, unw, -⟩ := hnw
          have unw := unw (by omega)
          have q0 : (x10).cell? ⟨B3, 0, none⟩ = some (.int .i64 (2)) := HR10.out.b3.c0
          have q1 : (x10).cell? ⟨B3, 1, none⟩ = some (.int .i64 (1 + v2)) := HR10.out.b3.c1
          have q2 : (x10).cell? ⟨B3, 2, none⟩ = some (.int .i64 (ky)) := HR10.out.b3.c2
          have q3 : (x10).cell? ⟨B3, 3, none⟩ = some (.bool (false)) := HR10.out.b3.c3
          have q4 : (x10).cell? ⟨B3, 4, none⟩ = some (.int .i64 (0)) := HR10.out.b3.c4
          have q5 : (x10).cell? ⟨B3, 5, none⟩ = some (.bool (true)) := HR10.out.b3.c5
          have q6 : (x10).cell? ⟨B3, 6, none⟩ = some (.int .i64 (0)) := HR10.out.b3.c6
          have q7 : (x10).cell? ⟨B3, 7, none⟩ = some (.int .i64 (0)) := HR10.out.b3.c7
          have qf : ∀ i, (x10).frozen? ⟨B3, i, none⟩ = false := HR10.out.b3.f
          have HR11 : Hid (RS S a k cap z (t5 + 1 + 4 + 1 + 1 + 1) w (x10.setCell ⟨B3, 6, none⟩ (.int .i64 nw)) B3 (⟨2, 1 + v2, ky, false, 0, true, nw, 0⟩ : Rc)) := HR10.out.put 6 _ (HR10.out.b3.put6 _)
          have d0 : (x10).cell? ⟨w.heap.size, 0, none⟩ = some (.int .i64 (0)) := HR10.out.b2.c0
          have d1 : (x10).cell? ⟨w.heap.size, 1, none⟩ = some (.int .i64 (0)) := HR10.out.b2.c1
          have d2 : (x10).cell? ⟨w.heap.size, 2, none⟩ = some (.int .i64 (0)) := HR10.out.b2.c2
          have d3 : (x10).cell? ⟨w.heap.size, 3, none⟩ = some (.bool (false)) := HR10.out.b2.c3
          have d4 : (x10).cell? ⟨w.heap.size, 4, none⟩ = some (.int .i64 (0)) := HR10.out.b2.c4
          have d5 : (x10).cell? ⟨w.heap.size, 5, none⟩ = some (.bool (false)) := HR10.out.b2.c5
          have d6 : (x10).cell? ⟨w.heap.size, 6, none⟩ = some (.int .i64 (0)) := HR10.out.b2.c6
          have d7 : (x10).cell? ⟨w.heap.size, 7, none⟩ = some (.int .i64 (0)) := HR10.out.b2.c7
          have df : ∀ i, (x10).frozen? ⟨w.heap.size, i, none⟩ = false := HR10.out.b2.f
          go_wp2_with fail
          refine bodyPost_ret (v := rV (⟨2, 1 + v2, ky, false, 0, true, nw, 0⟩ : Rc)) (by simp [results, Try.results39, go_sem, rV, hne1, hne2, d0, d1, d2, d3, d4, d5, d6, d7]) rfl ⟨_, _, rfl, by have := HT5.out; omega, HR10.out.d.over ?_ HL.out, goodR_lit _ _ _ _ _ _ _ _ (by omega) (by omega) (by omega) (by omega) (by omega) (by omega)⟩
          repeat (first | with_reducible exact Below.refl _ _ | with_reducible apply Below.drew | with_reducible refine Below.setCell ?_ (by first | exact Nat.le_refl _ | exact hB3) _)
        · have q0 : (x8).cell? ⟨B3, 0, none⟩ = some (.int .i64 (2)) := HR8.out.b3.c0
          have q1 : (x8).cell? ⟨B3, 1, none⟩ = some (.int .i64 (1 + v2)) := HR8.out.b3.c1
          have q2 : (x8).cell? ⟨B3, 2, none⟩ = some (.int .i64 (ky)) := HR8.out.b3.c2
          have q3 : (x8).cell? ⟨B3, 3, none⟩ = some (.bool (false)) := HR8.out.b3.c3
          have q4 : (x8).cell? ⟨B3, 4, none⟩ = some (.int .i64 (0)) := HR8.out.b3.c4
          have q5 : (x8).cell? ⟨B3, 5, none⟩ = some (.bool (false)) := HR8.out.b3.c5
          have q6 : (x8).cell? ⟨B3, 6, none⟩ = some (.int .i64 (0)) := HR8.out.b3.c6
          have q7 : (x8).cell? ⟨B3, 7, none⟩ = some (.int .i64 (0)) := HR8.out.b3.c7
          have qf : ∀ i, (x8).frozen? ⟨B3, i, none⟩ = false := HR8.out.b3.f
          have HR9 : Hid (RS S a k cap z (t5 + 1 + 4 + 1 + 1) w (x8.setCell ⟨B3, 5, none⟩ (.bool false)) B3 (⟨2, 1 + v2, ky, false, 0, false, 0, 0⟩ : Rc)) := HR8.out.put 5 _ (HR8.out.b3.put5 _)
          have d0 : (x8).cell? ⟨w.heap.size, 0, none⟩ = some (.int .i64 (0)) := HR8.out.b2.c0
          have d1 : (x8).cell? ⟨w.heap.size, 1, none⟩ = some (.int .i64 (0)) := HR8.out.b2.c1
          have d2 : (x8).cell? ⟨w.heap.size, 2, none⟩ = some (.int .i64 (0)) := HR8.out.b2.c2
          have d3 : (x8).cell? ⟨w.heap.size, 3, none⟩ = some (.bool (false)) := HR8.out.b2.c3
          have d4 : (x8).cell? ⟨w.heap.size, 4, none⟩ = some (.int .i64 (0)) := HR8.out.b2.c4
          have d5 : (x8).cell? ⟨w.heap.size, 5, none⟩ = some (.bool (false)) := HR8.out.b2.c5
          have d6 : (x8).cell? ⟨w.heap.size, 6, none⟩ = some (.int .i64 (0)) := HR8.out.b2.c6
          have d7 : (x8).cell? ⟨w.heap.size, 7, none⟩ = some (.int .i64 (0)) := HR8.out.b2.c7
          have df : ∀ i, (x8).frozen? ⟨w.heap.size, i, none⟩ = false := HR8.out.b2.f
          go_wp2_with fail
          refine bodyPost_ret (v := rV (⟨2, 1 + v2, ky, false, 0, false, 0, 0⟩ : Rc)) (by simp [results, Try.results39, go_sem, rV, hne1, hne2, d0, d1, d2, d3, d4, d5, d6, d7]) rfl ⟨_, _, rfl, by have := HT5.out; omega, HR8.out.d.over ?_ HL.out, goodR_lit _ _ _ _ _ _ _ _ (by omega) (by omega) (by omega) (by omega) (by omega) (by omega)⟩
          repeat (first | with_reducible exact Below.refl _ _ | with_reducible apply Below.drew | with_reducible refine Below.setCell ?_ (by first | exact Nat.le_refl _ | exact hB3) _)
        · have q0 : (x8).cell? ⟨B3, 0, none⟩ = some (.int .i64 (2)) := HR8.out.b3.c0
          have q1 : (x8).cell? ⟨B3, 1, none⟩ = some (.int .i64 (1 + v2)) := HR8.out.b3.c1
          have q2 : (x8).cell? ⟨B3, 2, none⟩ = some (.int .i64 (ky)) := HR8.out.b3.c2
          have q3 : (x8).cell? ⟨B3, 3, none⟩ = some (.bool (true)) := HR8.out.b3.c3
          have q4 : (x8).cell? ⟨B3, 4, none⟩ = some (.int .i64 (0)) := HR8.out.b3.c4
          have q5 : (x8).cell? ⟨B3, 5, none⟩ = some (.bool (false)) := HR8.out.b3.c5
          have q6 : (x8).cell? ⟨B3, 6, none⟩ = some (.int .i64 (0)) := HR8.out.b3.c6
          have q7 : (x8).cell? ⟨B3, 7, none⟩ = some (.int .i64 (0)) := HR8.out.b3.c7
          have qf : ∀ i, (x8).frozen? ⟨B3, i, none⟩ = false := HR8.out.b3.f
          have HR9 : Hid (RS S a k cap z (t5 + 1 + 4 + 1 + 1) w (x8.setCell ⟨B3, 5, none⟩ (.bool true)) B3 (⟨2, 1 + v2, ky, true, 0, true, 0, 0⟩ : Rc)) := HR8.out.put 5 _ (HR8.out.b3.put5 _)
          go_wp2_with fail
          clear q0 q1 q2 q3 q4 q5 q6 q7 qf
          refine (l1Next_any S a k cap z (t5 + 1 + 4 + 1 + 1) 90 _ (by have := HT.out; omega) (by omega) HR9.out.d.src).mono ?_
          rintro e x10 ⟨od, rfl, hod, hn⟩
          have HR10 : Hid (RS S a k cap z (t5 + 1 + 4 + 1 + 1 + 1) w x10 B3 (⟨2, 1 + v2, ky, true, 0, true, 0, 0⟩ : Rc)) := HR9.out.call hn.dw
          clear hn
          obtain ⟨lod, uod, -⟩ := hod
          have uod := uod (by omega)
          have q0 : (x10).cell? ⟨B3, 0, none⟩ = some (.int .i64 (2)) := HR10.out.b3.c0
          have q1 : (x10).cell? ⟨B3, 1, none⟩ = some (.int .i64 (1 + v2)) := HR10.out.b3.c1
          have q2 : (x10).cell? ⟨B3, 2, none⟩ = some (.int .i64 (ky)) := HR10.out.b3.c2
          have q3 : (x10).cell? ⟨B3, 3, none⟩ = some (.bool (true)) := HR10.out.b3.c3
          have q4 : (x10).cell? ⟨B3, 4, none⟩ = some (.int .i64 (0)) := HR10.out.b3.c4
          have q5 : (x10).cell? ⟨B3, 5, none⟩ = some (.bool (true)) := HR10.out.b3.c5
          have q6 : (x10).cell? ⟨B3, 6, none⟩ = some (.int .i64 (0)) := HR10.out.b3.c6
          have q7 : (x10).cell? ⟨B3, 7, none⟩ = some (.int .i64 (0)) := HR10.out.b3.c7
          have qf : ∀ i, (x10).frozen? ⟨B3, i, none⟩ = false := HR10.out.b3.f
          have HR11 : Hid (RS S a k cap z (t5 + 1 + 4 + 1 + 1 + 1) w (x10.setCell ⟨B3, 4, none⟩ (.int .i64 od)) B3 (⟨2, 1 + v2, ky, true, od, true, 0, 0⟩ : Rc)) := HR10.out.put 4 _ (HR10.out.b3.put4 _)
          go_wp2_with fail
          clear q0 q1 q2 q3 q4 q5 q6 q7 qf
          refine (l1Next_any S a k cap z (t5 + 1 + 4 + 1 + 1 + 1) 90 _ (by have := HT.out; omega) (by omega) HR11.out.d.src).mono ?_
          rintro e x12 ⟨nw, rfl, hnw, hn⟩
          have HR12 : Hid (RS S a k cap z (t5 + 1 + 4 + 1 + 1 + 1 + 1) w x12 B3 (⟨2, 1 + v2, ky, true, od, true, 0, 0⟩ : Rc)) := HR11.out.call hn.dw
          clear hn
          obtain ⟨lnw, unw, -⟩ := hnw
          have unw := unw (by omega)
          have q0 : (x12).cell? ⟨B3, 0, none⟩ = some (.int .i64 (2)) := HR12.out.b3.c0
          have q1 : (x12).cell? ⟨B3, 1, none⟩ = some (.int .i64 (1 + v2)) := HR12.out.b3.c1
          have q2 : (x12).cell? ⟨B3, 2, none⟩ = some (.int .i64 (ky)) := HR12.out.b3.c2
          have q3 : (x12).cell? ⟨B3, 3, none⟩ = some (.bool (true)) := HR12.out.b3.c3
          have q4 : (x12).cell? ⟨B3, 4, none⟩ = some (.int .i64 (od)) := HR12.out.b3.c4
          have q5 : (x12).cell? ⟨B3, 5, none⟩ = some (.bool (true)) := HR12.out.b3.c5
          have q6 : (x12).cell? ⟨B3, 6, none⟩ = some (.int .i64 (0)) := HR12.out.b3.c6
          have q7 : (x12).cell? ⟨B3, 7, none⟩ = some (.int .i64 (0)) := HR12.out.b3.c7
          have qf : ∀ i, (x12).frozen? ⟨B3, i, none⟩ = false := HR12.out.b3.f
          have HR13 : Hid (RS S a k cap z (t5 + 1 + 4 + 1 + 1 + 1 + 1) w (x12.setCell ⟨B3, 6, none⟩ (.int .i64 nw)) B3 (⟨2, 1 + v2, ky, true, od, true, nw, 0⟩ : Rc)) := HR12.out.put 6 _ (HR12.out.b3.put6 _)
          have d0 : (x12).cell? ⟨w.heap.size, 0, none⟩ = some (.int .i64 (0)) := HR12.out.b2.c0
          have d1 : (x12).cell? ⟨w.heap.size, 1, none⟩ = some (.int .i64 (0)) := HR12.out.b2.c1
          have d2 : (x12).cell? ⟨w.heap.size, 2, none⟩ = some (.int .i64 (0)) := HR12.out.b2.c2
          have d3 : (x12).cell? ⟨w.heap.size, 3, none⟩ = some (.bool (false)) := HR12.out.b2.c3
          have d4 : (x12).cell? ⟨w.heap.size, 4, none⟩ = some (.int .i64 (0)) := HR12.out.b2.c4
          have d5 : (x12).cell? ⟨w.heap.size, 5, none⟩ = some (.bool (false)) := HR12.out.b2.c5
          have d6 : (x12).cell? ⟨w.heap.size, 6, none⟩ = some (.int .i64 (0)) := HR12.out.b2.c6
          have d7 : (x12).cell? ⟨w.heap.size, 7, none⟩ = some (.int .i64 (0)) := HR12.out.b2.c7
          have df : ∀ i, (x12).frozen? ⟨w.heap.size, i, none⟩ = false := HR12.out.b2.f
          go_wp2_with fail
          refine bodyPost_ret (v := rV (⟨2, 1 + v2, ky, true, od, true, nw, 0⟩ : Rc)) (by simp [results, Try.results39, go_sem, rV, hne1, hne2, d0, d1, d2, d3, d4, d5, d6, d7]) rfl ⟨_, _, rfl, by have := HT5.out; omega, HR12.out.d.over ?_ HL.out, goodR_lit _ _ _ _ _ _ _ _ (by omega) (by omega) (by omega) (by omega) (by omega) (by omega)⟩
          repeat (first | with_reducible exact Below.refl _ _ | with_reducible apply Below.drew | with_reducible refine Below.setCell ?_ (by first | exact Nat.le_refl _ | exact hB3) _)
        · have q0 : (x8).cell? ⟨B3, 0, none⟩ = some (.int .i64 (2)) := HR8.out.b3.c0
          have q1 : (x8).cell? ⟨B3, 1, none⟩ = some (.int .i64 (1 + v2)) := HR8.out.b3.c1
          have q2 : (x8).cell? ⟨B3, 2, none⟩ = some (.int .i64 (ky)) := HR8.out.b3.c2
          have q3 : (x8).cell? ⟨B3, 3, none⟩ = some (.bool (true)) := HR8.out.b3.c3
          have q4 : (x8).cell? ⟨B3, 4, none⟩ = some (.int .i64 (0)) := HR8.out.b3.c4
          have q5 : (x8).cell? ⟨B3, 5, none⟩ = some (.bool (false)) := HR8.out.b3.c5
          have q6 : (x8).cell? ⟨B3, 6, none⟩ = some (.int .i64 (0)) := HR8.out.b3.c6
          have q7 : (x8).cell? ⟨B3, 7, none⟩ = some (.int .i64 (0)) := HR8.out.b3.c7
          have qf : ∀ i, (x8).frozen? ⟨B3, i, none⟩ = false := HR8.out.b3.f
          have HR9 : Hid (RS S a k cap z (t5 + 1 + 4 + 1 + 1) w (x8.setCell ⟨B3, 5, none⟩ (.bool false)) B3 (⟨2, 1 + v2, ky, true, 0, false, 0, 0⟩ : Rc)) := HR8.out.put 5 _ (HR8.out.b3.put5 _)
          go_wp2_with fail
          clear q0 q1 q2 q3 q4 q5 q6 q7 qf
          refine (l1Next_any S a k cap z (t5 + 1 + 4 + 1 + 1) 90 _ (by have := HT.out; omega) (by omega) HR9.out.d.src).mono ?_
          rintro e x10 ⟨od, rfl, hod, hn⟩
          have HR10 : Hid (RS S a k cap z (t5 + 1 + 4 + 1 + 1 + 1) w x10 B3 (⟨2, 1 + v2, ky, true, 0, false, 0, 0⟩ : Rc)) := HR9.out.call hn.dw
          clear hn
          obtain ⟨lod, uod, -⟩ := hod
          have uod := uod (by omega)
          have q0 : (x10).cell? ⟨B3, 0, none⟩ = some (.int .i64 (2)) := HR10.out.b3.c0
          have q1 : (x10).cell? ⟨B3, 1, none⟩ = some (.int .i64 (1 + v2)) := HR10.out.b3.c1
          have q2 : (x10).cell? ⟨B3, 2, none⟩ = some (.int .i64 (ky)) := HR10.out.b3.c2
          have q3 : (x10).cell? ⟨B3, 3, none⟩ = some (.bool (true)) := HR10.out.b3.c3
          have q4 : (x10).cell? ⟨B3, 4, none⟩ = some (.int .i64 (0)) := HR10.out.b3.c4
          have q5 : (x10).cell? ⟨B3, 5, none⟩ = some (.bool (false)) := HR10.out.b3.c5
          have q6 : (x10).cell? ⟨B3, 6, none⟩ = some (.int .i64 (0)) := HR10.out.b3.c6
          have q7 : (x10).cell? ⟨B3, 7, none⟩ = some (.int .i64 (0)) := HR10.out.b3.c7
          have qf : ∀ i, (x10).frozen? ⟨B3, i, none⟩ = false := HR10.out.b3.f
          have HR11 : Hid (RS S a k cap z (t5 + 1 + 4 + 1 + 1 + 1) w (x10.setCell ⟨B3, 4, none⟩ (.int .i64 od)) B3 (⟨2, 1 + v2, ky, true, od, false, 0, 0⟩ : Rc)) := HR10.out.put 4 _ (HR10.out.b3.put4 _)
          have d0 : (x10).cell? ⟨w.heap.size, 0, none⟩ = some (.int .i64 (0)) := HR10.out.b2.c0
          have d1 : (x10).cell? ⟨w.heap.size, 1, none⟩ = some (.int .i64 (0)) := HR10.out.b2.c1
          have d2 : (x10).cell? ⟨w.heap.size, 2, none⟩ = some (.int .i64 (0)) := HR10.out.b2.c2
          have d3 : (x10).cell? ⟨w.heap.size, 3, none⟩ = some (.bool (false)) := HR10.out.b2.c3
          have d4 : (x10).cell? ⟨w.heap.size, 4, none⟩ = some (.int .i64 (0)) := HR10.out.b2.c4
          have d5 : (x10).cell? ⟨w.heap.size, 5, none⟩ = some (.bool (false)) := HR10.out.b2.c5
          have d6 : (x10).cell? ⟨w.heap.size, 6, none⟩ = some (.int .i64 (0)) := HR10.out.b2.c6
          have d7 : (x10).cell? ⟨w.heap.size, 7, none⟩ = some (.int .i64 (0)) := HR10.out.b2.c7
          have df : ∀ i, (x10).frozen? ⟨w.heap.size, i, none⟩ = false := HR10.out.b2.f
          go_wp2_with fail
          refine bodyPost_ret (v := rV (⟨2, 1 + v2, ky, true, od, false, 0, 0⟩ : Rc)) (by simp [results, Try.results39, go_sem, rV, hne1, hne2, d0, d1, d2, d3, d4, d5, d6, d7]) rfl ⟨_, _, rfl, by have := HT5.out; omega, HR10.out.d.over ?_ HL.out, goodR_lit _ _ _ _ _ _ _ _ (by omega) (by omega) (by omega) (by omega) (by omega) (by omega)⟩
          repeat (first | with_reducible exact Below.refl _ _ | with_reducible apply Below.drew | with_reducible refine Below.setCell ?_ (by first | exact Nat.le_refl _ | exact hB3) _)
        · have q0 : (x8).cell? ⟨B3, 0, none⟩ = some (.int .i64 (5)) := HR8.out.b3.c0
          have q1 : (x8).cell? ⟨B3, 1, none⟩ = some (.int .i64 (1 + v2)) := HR8.out.b3.c1
          have q2 : (x8).cell? ⟨B3, 2, none⟩ = some (.int .i64 (ky)) := HR8.out.b3.c2
          have q3 : (x8).cell? ⟨B3, 3, none⟩ = some (.bool (false)) := HR8.out.b3.c3
          have q4 : (x8).cell? ⟨B3, 4, none⟩ = some (.int .i64 (0)) := HR8.out.b3.c4
          have q5 : (x8).cell? ⟨B3, 5, none⟩ = some (.bool (false)) := HR8.out.b3.c5
          have q6 : (x8).cell? ⟨B3, 6, none⟩ = some (.int .i64 (0)) := HR8.out.b3.c6
          have q7 : (x8).cell? ⟨B3, 7, none⟩ = some (.int .i64 (0)) := HR8.out.b3.c7
          have qf : ∀ i, (x8).frozen? ⟨B3, i, none⟩ = false := HR8.out.b3.f
          have HR9 : Hid (RS S a k cap z (t5 + 1 + 4 + 1 + 1) w (x8.setCell ⟨B3, 5, none⟩ (.bool true)) B3 (⟨5, 1 + v2, ky, false, 0, true, 0, 0⟩ : Rc)) := HR8.out.put 5 _ (HR8.out.b3.put5 _)
          go_wp2_with fail
          clear q0 q1 q2 q3 q4 q5 q6 q7 qf
          refine (l1Next_any S a k cap z (t5 + 1 + 4 + 1 + 1) 90 _ (by have := HT.out; omega) (by omega) HR9.out.d.src).mono ?_
          rintro e x10 ⟨nw, rfl, hnw, hn⟩
          have HR10 : Hid (RS S a k cap z (t5 + 1 + 4 + 1 + 1 + 1) w x10 B3 (⟨5, 1 + v2, ky, false, 0, true, 0, 0⟩ : Rc)) := HR9.out.call hn.dw
          clear hn
          obtain ⟨lnw, unw, -⟩ := hnw
          have unw := unw (by omega)
          have q0 : (x10).cell? ⟨B3, 0, none⟩ = some (.int .i64 (5)) := HR10.out.b3.c0
          have q1 : (x10).cell? ⟨B3, 1, none⟩ = some (.int .i64 (1 + v2)) := HR10.out.b3.c1
          have q2 : (x10).cell? ⟨B3, 2, none⟩ = some (.int .i64 (ky)) := HR10.out.b3.c2
          have q3 : (x10).cell? ⟨B3, 3, none⟩ = some (.bool (false)) := HR10.out.b3.c3
          have q4 : (x10).cell? ⟨B3, 4, none⟩ = some (.int .i64 (0)) := HR10.out.b3.c4
          have q5 : (x10).cell? ⟨B3, 5, none⟩ = some (.bool (true)) := HR10.out.b3.c5
          have q6 : (x10).cell? ⟨B3, 6, none⟩ = some (.int .i64 (0)) := HR10.out.b3.c6
          have q7 : (x10).cell? ⟨B3, 7, none⟩ = some (.int .i64 (0)) := HR10.out.b3.c7
          have qf : ∀ i, (x10).frozen? ⟨B3, i, none⟩ = false := HR10.out.b3.f
          have HR11 : Hid (RS S a k cap z (t5 + 1 + 4 + 1 + 1 + 1) w (x10.setCell ⟨B3, 6, none⟩ (.int .i64 nw)) B3 (⟨5, 1 + v2, ky, false, 0, true, nw, 0⟩ : Rc)) := HR10.out.put 6 _ (HR10.out.b3.put6 _)
          go_wp2_with fail
          clear q0 q1 q2 q3 q4 q5 q6 q7 qf
          refine (l1Next_any S a k cap z (t5 + 1 + 4 + 1 + 1 + 1) 6 _ (by have := HT.out; omega) (by omega) HR11.out.d.src).mono ?_
          rintro e x12 ⟨vb, rfl, hvb, hn⟩
          have HR12 : Hid (RS S a k cap z (t5 + 1 + 4 + 1 + 1 + 1 + 1) w x12 B3 (⟨5, 1 + v2, ky, false, 0, true, nw, 0⟩ : Rc)) := HR11.out.call hn.dw
          clear hn
          obtain ⟨lb, ub, -⟩ := hvb
          have ub := ub (by omega)
          have q0 : (x12).cell? ⟨B3, 0, none⟩ = some (.int .i64 (5)) := HR12.out.b3.c0
          have q1 : (x12).cell? ⟨B3, 1, none⟩ = some (.int .i64 (1 + v2)) := HR12.out.b3.c1
          have q2 : (x12).cell? ⟨B3, 2, none⟩ = some (.int .i64 (ky)) := HR12.out.b3.c2
          have q3 : (x12).cell? ⟨B3, 3, none⟩ = some (.bool (false)) := HR12.out.b3.c3
          have q4 : (x12).cell? ⟨B3, 4, none⟩ = some (.int .i64 (0)) := HR12.out.b3.c4
          have q5 : (x12).cell? ⟨B3, 5, none⟩ = some (.bool (true)) := HR12.out.b3.c5
          have q6 : (x12).cell? ⟨B3, 6, none⟩ = some (.int .i64 (nw)) := HR12.out.b3.c6
          have q7 : (x12).cell? ⟨B3, 7, none⟩ = some (.int .i64 (0)) := HR12.out.b3.c7
          have qf : ∀ i, (x12).frozen? ⟨B3, i, none⟩ = false := HR12.out.b3.f
          have HR13 : Hid (RS S a k cap z (t5 + 1 + 4 + 1 + 1 + 1 + 1) w (x12.setCell ⟨B3, 7, none⟩ (.int .i64 (1 + vb))) B3 (⟨5, 1 + v2, ky, false, 0, true, nw, 1 + vb⟩ : Rc)) := HR12.out.put 7 _ (HR12.out.b3.put7 _)
          have d0 : (x12).cell? ⟨w.heap.size, 0, none⟩ = some (.int .i64 (0)) := HR12.out.b2.c0
          have d1 : (x12).cell? ⟨w.heap.size, 1, none⟩ = some (.int .i64 (0)) := HR12.out.b2.c1
          have d2 : (x12).cell? ⟨w.heap.size, 2, none⟩ = some (.int .i64 (0)) := HR12.out.b2.c2
          have d3 : (x12).cell? ⟨w.heap.size, 3, none⟩ = some (.bool (false)) := HR12.out.b2.c3
          have d4 : (x12).cell? ⟨w.heap.size, 4, none⟩ = some (.int .i64 (0)) := HR12.out.b2.c4
          have d5 : (x12).cell? ⟨w.heap.size, 5, none⟩ = some (.bool (false)) := HR12.out.b2.c5
          have d6 : (x12).cell? ⟨w.heap.size, 6, none⟩ = some (.int .i64 (0)) := HR12.out.b2.c6
          have d7 : (x12).cell? ⟨w.heap.size, 7, none⟩ = some (.int .i64 (0)) := HR12.out.b2.c7
          have df : ∀ i, (x12).frozen? ⟨w.heap.size, i, none⟩ = false := HR12.out.b2.f
          go_wp2_with fail
          refine bodyPost_ret (v := rV (⟨5, 1 + v2, ky, false, 0, true, nw, 1 + vb⟩ : Rc)) (by simp [results, Try.results39, go_sem, rV, hne1, hne2, d0, d1, d2, d3, d4, d5, d6, d7]) rfl ⟨_, _, rfl, by have := HT5.out; omega, HR12.out.d.over ?_ HL.out, goodR_lit _ _ _ _ _ _ _ _ (by omega) (by omega) (by omega) (by omega) (by omega) (by omega)⟩
          repeat (first | with_reducible exact Below.refl _ _ | with_reducible apply Below.drew | with_reducible refine Below.setCell ?_ (by first | exact Nat.le_refl _ | exact hB3) _)
        · have q0 : (x8).cell? ⟨B3, 0, none⟩ = some (.int .i64 (5)) := HR8.out.b3.c0
          have q1 : (x8).cell? ⟨B3, 1, none⟩ = some (.int .i64 (1 + v2)) := HR8.out.b3.c1
          have q2 : (x8).cell? ⟨B3, 2, none⟩ = some (.int .i64 (ky)) := HR8.out.b3.c2
          have q3 : (x8).cell? ⟨B3, 3, none⟩ = some (.bool (false)) := HR8.out.b3.c3
          have q4 : (x8).cell? ⟨B3, 4, none⟩ = some (.int .i64 (0)) := HR8.out.b3.c4
          have q5 : (x8).cell? ⟨B3, 5, none⟩ = some (.bool (false)) := HR8.out.b3.c5
          have q6 : (x8).cell? ⟨B3, 6, none⟩ = some (.int .i64 (0)) := HR8.out.b3.c6
          have q7 : (x8).cell? ⟨B3, 7, none⟩ = some (.int .i64 (0)) := HR8.out.b3.c7
          have qf : ∀ i, (x8).frozen? ⟨B3, i, none⟩ = false := HR8.out.b3.f
          have HR9 : Hid (RS S a k cap z (t5 + 1 + 4 + 1 + 1) w (x8.setCell ⟨B3, 5, none⟩ (.bool false)) B3 (⟨5, 1 + v2, ky, false, 0, false, 0, 0⟩ : Rc)) := HR8.out.put 5 _ (HR8.out.b3.put5 _)
          go_wp2_with fail
          clear q0 q1 q2 q3 q4 q5 q6 q7 qf
          refine (l1Next_any S a k cap z (t5 + 1 + 4 + 1 + 1) 6 _ (by have := HT.out; omega) (by omega) HR9.out.d.src).mono ?_
          rintro e x10 ⟨vb, rfl, hvb, hn⟩
          have HR10 : Hid (RS S a k cap z (t5 + 1 + 4 + 1 + 1 + 1) w x10 B3 (⟨5, 1 + v2, ky, false, 0, false, 0, 0⟩ : Rc)) := HR9.out.call hn.dw
          clear hn
          obtain ⟨lb, ub, -⟩ := hvb
          have ub := ub (by omega)
          have q0 : (x10).cell? ⟨B3, 0, none⟩ = some (.int .i64 (5)) := HR10.out.b3.c0
          have q1 : (x10).cell? ⟨B3, 1, none⟩ = some (.int .i64 (1 + v2)) := HR10.out.b3.c1
          have q2 : (x10).cell? ⟨B3, 2, none⟩ = some (.int .i64 (ky)) := HR10.out.b3.c2
          have q3 : (x10).cell? ⟨B3, 3, none⟩ = some (.bool (false)) := HR10.out.b3.c3
          have q4 : (x10).cell? ⟨B3, 4, none⟩ = some (.int .i64 (0)) := HR10.out.b3.c4
          have q5 : (x10).cell? ⟨B3, 5, none⟩ = some (.bool (false)) := HR10.out.b3.c5
          have q6 : (x10).cell? ⟨B3, 6, none⟩ = some (.int .i64 (0)) := HR10.out.b3.c6
          have q7 : (x10).cell? ⟨B3, 7, none⟩ = some (.int .i64 (0)) := HR10.out.b3.c7
          have qf : ∀ i, (x10).frozen? ⟨B3, i, none⟩ = false := HR10.out.b3.f
          have HR11 : Hid (RS S a k cap z (t5 + 1 + 4 + 1 + 1 + 1) w (x10.setCell ⟨B3, 7, none⟩ (.int .i64 (1 + vb))) B3 (⟨5, 1 + v2, ky, false, 0, false, 0, 1 + vb⟩ : Rc)) := HR10.out.put 7 _ (HR10.out.b3.put7 _)
          have d0 : (x10).cell? ⟨w.heap.size, 0, none⟩ = some (.int .i64 (0)) := HR10.out.b2.c0
          have d1 : (x10).cell? ⟨w.heap.size, 1, none⟩ = some (.int .i64 (0)) := HR10.out.b2.c1
          have d2 : (x10).cell? ⟨w.heap.size, 2, none⟩ = some (.int .i64 (0)) := HR10.out.b2.c2
          have d3 : (x10).cell? ⟨w.heap.size, 3, none⟩ = some (.bool (false)) := HR10.out.b2.c3
          have d4 : (x10).cell? ⟨w.heap.size, 4, none⟩ = some (.int .i64 (0)) := HR10.out.b2.c4
          have d5 : (x10).cell? ⟨w.heap.size, 5, none⟩ = some (.bool (false)) := HR10.out.b2.c5
          have d6 : (x10).cell? ⟨w.heap.size, 6, none⟩ = some (.int .i64 (0)) := HR10.out.b2.c6
          have d7 : (x10).cell? ⟨w.heap.size, 7, none⟩ = some (.int .i64 (0)) := HR10.out.b2.c7
          have df : ∀ i, (x10).frozen? ⟨w.heap.size, i, none⟩ = false := HR10.out.b2.f
          go_wp2_with fail
          refine bodyPost_ret (v := rV (⟨5, 1 + v2, ky, false, 0, false, 0, 1 + vb⟩ : Rc)) (by simp [results, Try.results39, go_sem, rV, hne1, hne2, d0, d1, d2, d3, d4, d5, d6, d7]) rfl ⟨_, _, rfl, by have := HT5.out; omega, HR10.out.d.over ?_ HL.out, goodR_lit _ _ _ _ _ _ _ _ (by omega) (by omega) (by omega) (by omega) (by omega) (by omega)⟩
          repeat (first | with_reducible exact Below.refl _ _ | with_reducible apply Below.drew | with_reducible refine Below.setCell ?_ (by first | exact Nat.le_refl _ | exact hB3) _)
        · have q0 : (x8).cell? ⟨B3, 0, none⟩ = some (.int .i64 (5)) := HR8.out.b3.c0
          have q1 : (x8).cell? ⟨B3, 1, none⟩ = some (.int .i64 (1 + v2)) := HR8.out.b3.c1
          have q2 : (x8).cell? ⟨B3, 2, none⟩ = some (.int .i64 (ky)) := HR8.out.b3.c2
          have q3 : (x8).cell? ⟨B3, 3, none⟩ = some (.bool (true)) := HR8.out.b3.c3
          have q4 : (x8).cell? ⟨B3, 4, none⟩ = some (.int .i64 (0)) := HR8.out.b3.c4
          have q5 : (x8).cell? ⟨B3, 5, none⟩ = some (.bool (false)) := HR8.out.b3.c5
          have q6 : (x8).cell? ⟨B3, 6, none⟩ = some (.int .i64 (0)) := HR8.out.b3.c6
          have q7 : (x8).cell? ⟨B3, 7, none⟩ = some (.int .i64 (0)) := HR8.out.b3.c7
          have qf : ∀ i, (x8).frozen? ⟨B3, i, none⟩ = false := HR8.out.b3.f
          have HR9 : Hid (RS S a k cap z (t5 + 1 + 4 + 1 + 1) w (x8.setCell ⟨B3, 5, none⟩ (.bool true)) B3 (⟨5, 1 + v2, ky, true, 0, true, 0, 0⟩ : Rc)) := HR8.out.put 5 _ (HR8.out.b3.put5 _)
          go_wp2_with fail
          clear q0 q1 q2 q3 q4 q5 q6 q7 qf
          refine (l1Next_any S a k cap z (t5 + 1 + 4 + 1 + 1) 90 _ (by have := HT.out; omega) (by omega) HR9.out.d.src).mono ?_
          rintro e x10 ⟨od, rfl, hod, hn⟩
          have HR10 : Hid (RS S a k cap z (t5 + 1 + 4 + 1 + 1 + 1) w x10 B3 (⟨5, 1 + v2, ky, true, 0, true, 0, 0⟩ : Rc)) := HR9.out.call hn.dw
          clear hn
          obtain ⟨lod, uod, -⟩ := hod
          have uod := uod (by omega)
          have q0 : (x10).cell? ⟨B3, 0, none⟩ = some (.int .i64 (5)) := HR10.out.b3.c0
          have q1 : (x10).cell? ⟨B3, 1, none⟩ = some (.int .i64 (1 + v2)) := HR10.out.b3.c1
          have q2 : (x10).cell? ⟨B3, 2, none⟩ = some (.int .i64 (ky)) := HR10.out.b3.c2
          have q3 : (x10).cell? ⟨B3, 3, none⟩ = some (.bool (true)) := HR10.out.b3.c3
          have q4 : (x10).cell? ⟨B3, 4, none⟩ = some (.int .i64 (0)) := HR10.out.b3.c4
          have q5 : (x10).cell? ⟨B3, 5, none⟩ = some (.bool (true)) := HR10.out.b3.c5
          have q6 : (x10).cell? ⟨B3, 6, none⟩ = some (.int .i64 (0)) := HR10.out.b3.c6
          have q7 : (x10).cell? ⟨B3, 7, none⟩ = some (.int .i64 (0)) := HR10.out.b3.c7
          have qf : ∀ i, (x10).frozen? ⟨B3, i, none⟩ = false := HR10.out.b3.f
          have HR11 : Hid (RS S a k cap z (t5 + 1 + 4 + 1 + 1 + 1) w (x10.setCell ⟨B3, 4, none⟩ (.int .i64 od)) B3 (⟨5, 1 + v2, ky, true, od, true, 0, 0⟩ : Rc)) := HR10.out.put 4 _ (HR10.out.b3.put4 _)
          go_wp2_with fail
          clear q0 q1 q2 q3 q4 q5 q6 q7 qf
          refine (l1Next_any S a k cap z (t5 + 1 + 4 + 1 + 1 + 1) 90 _ (by have := HT.out; omega) (by omega) HR11.out.d.src).mono ?_
          rintro e x12 ⟨nw, rfl, hnw, hn⟩
          have HR12 : Hid (RS S a k cap z (t5 + 1 + 4 + 1 + 1 + 1 + 1) w x12 B3 (⟨5, 1 + v2, ky, true, od, true, 0, 0⟩ : Rc)) := HR11.out.call hn.dw
          clear hn
          obtain ⟨lnw, unw, -⟩ := hnw
          have unw := unw (by omega)
          have q0 : (x12).cell? ⟨B3, 0, none⟩ = some (.int .i64 (5)) := HR12.out.b3.c0
          have q1 : (x12).cell? ⟨B3, 1, none⟩ = some (.int .i64 (1 + v2)) := HR12.out.b3.c1
          have q2 : (x12).cell? ⟨B3, 2, none⟩ = some (.int .i64 (ky)) := HR12.out.b3.c2
          have q3 : (x12).cell? ⟨B3, 3, none⟩ = some (.bool (true)) := HR12.out.b3.c3
          have q4 : (x12).cell? ⟨B3, 4, none⟩ = some (.int .i64 (od)) := HR12.out.b3.c4
          have q5 : (x12).cell? ⟨B3, 5, none⟩ = some (.bool (true)) := HR12.out.b3.c5
          have q6 : (x12).cell? ⟨B3, 6, none⟩ = some (.int .i64 (0)) := HR12.out.b3.c6
          have q7 : (x12).cell? ⟨B3, 7, none⟩ = some (.int .i64 (0)) := HR12.out.b3.c7
          have qf : ∀ i, (x12).frozen? ⟨B3, i, none⟩ = false := HR12.out.b3.f
          have HR13 : Hid (RS S a k cap z (t5 + 1 + 4 + 1 + 1 + 1 + 1) w (x12.setCell ⟨B3, 6, none⟩ (.int .i64 nw)) B3 (⟨5, 1 + v2, ky, true, od, true, nw, 0⟩ : Rc)) := HR12.out.put 6 _ (HR12.out.b3.put6 _)
          go_wp2_with fail
          clear q0 q1 q2 q3 q4 q5 q6 q7 qf
          refine (l1Next_any S a k cap z (t5 + 1 + 4 + 1 + 1 + 1 + 1) 6 _ (by have := HT.out; omega) (by omega) HR13.out.d.src).mono ?_
          rintro e x14 ⟨vb, rfl, hvb, hn⟩
          have HR14 : Hid (RS S a k cap z (t5 + 1 + 4 + 1 + 1 + 1 + 1 + 1) w x14 B3 (⟨5, 1 + v2, ky, true, od, true, nw, 0⟩ : Rc)) := HR13.out.call hn.dw
          clear hn
          obtain ⟨lb, ub, -⟩ := hvb
          have ub := ub (by omega)
          have q0 : (x14).cell? ⟨B3, 0, none⟩ = some (.int .i64 (5)) := HR14.out.b3.c0
          have q1 : (x14).cell? ⟨B3, 1, none⟩ = some (.int .i64 (1 + v2)) := HR14.out.b3.c1
          have q2 : (x14).cell? ⟨B3, 2, none⟩ = some (.int .i64 (ky)) := HR14.out.b3.c2
          have q3 : (x14).cell? ⟨B3, 3, none⟩ = some (.bool (true)) := HR14.out.b3.c3
          have q4 : (x14).cell? ⟨B3, 4, none⟩ = some (.int .i64 (od)) := HR14.out.b3.c4
          have q5 : (x14).cell? ⟨B3, 5, none⟩ = some (.bool (true)) := HR14.out.b3.c5
          have q6 : (x14).cell? ⟨B3, 6, none⟩ = some (.int .i64 (nw)) := HR14.out.b3.c6
          have q7 : (x14).cell? ⟨B3, 7, none⟩ = some (.int .i64 (0)) := HR14.out.b3.c7
          have qf : ∀ i, (x14).frozen? ⟨B3, i, none⟩ = false := HR14.out.b3.f
          have HR15 : Hid (RS S a k cap z (t5 + 1 + 4 + 1 + 1 + 1 + 1 + 1) w (x14.setCell ⟨B3, 7, none⟩ (.int .i64 (1 + vb))) B3 (⟨5, 1 + v2, ky, true, od, true, nw, 1 + vb⟩ : Rc)) := HR14.out.put 7 _ (HR14.out.b3.put7 _)
          have d0 : (x14).cell? ⟨w.heap.size, 0, none⟩ = some (.int .i64 (0)) := HR14.out.b2.c0
          have d1 : (x14).cell? ⟨w.heap.size, 1, none⟩ = some (.int .i64 (0)) := HR14.out.b2.c1
          have d2 : (x14).cell? ⟨w.heap.size, 2, none⟩ = some (.int .i64 (0)) := HR14.out.b2.c2
          have d3 : (x14).cell? ⟨w.heap.size, 3, none⟩ = some (.bool (false)) := HR14.out.b2.c3
          have d4 : (x14).cell? ⟨w.heap.size, 4, none⟩ = some (.int .i64 (0)) := HR14.out.b2.c4
          have d5 : (x14).cell? ⟨w.heap.size, 5, none⟩ = some (.bool (false)) := HR14.out.b2.c5
          have d6 : (x14).cell? ⟨w.heap.size, 6, none⟩ = some (.int .i64 (0)) := HR14.out.b2.c6
          have d7 : (x14).cell? ⟨w.heap.size, 7, none⟩ = some (.int .i64 (0)) := HR14.out.b2.c7
          have df : ∀ i, (x14).frozen? ⟨w.heap.size, i, none⟩ = false := HR14.out.b2.f
          go_wp2_with fail
          refine bodyPost_ret (v := rV (⟨5, 1 + v2, ky, true, od, true, nw, 1 + vb⟩ : Rc)) (by simp [results, Try.results39, go_sem, rV, hne1, hne2, d0, d1, d2, d3, d4, d5, d6, d7]) rfl ⟨_, _, rfl, by have := HT5.out; omega, HR14.out.d.over ?_ HL.out, goodR_lit _ _ _ _ _ _ _ _ (by omega) (by omega) (by omega) (by omega) (by omega) (by omega)⟩
          repeat (first | with_reducible exact Below.refl _ _ | with_reducible apply Below.drew | with_reducible refine Below.setCell ?_ (by first | exact Nat.le_refl _ | exact hB3) _)
        · have q0 : (x8).cell? ⟨B3, 0, none⟩ = some (.int .i64 (5)) := HR8.out.b3.c0
          have q1 : (x8).cell? ⟨B3, 1, none⟩ = some (.int .i64 (1 + v2)) := HR8.out.b3.c1
          have q2 : (x8).cell? ⟨B3, 2, none⟩ = some (.int .i64 (ky)) := HR8.out.b3.c2
          have q3 : (x8).cell? ⟨B3, 3, none⟩ = some (.bool (true)) := HR8.out.b3.c3
          have q4 : (x8).cell? ⟨B3, 4, none⟩ = some (.int .i64 (0)) := HR8.out.b3.c4
          have q5 : (x8).cell? ⟨B3, 5, none⟩ = some (.bool (false)) := HR8.out.b3.c5
          have q6 : (x8).cell? ⟨B3, 6, none⟩ = some (.int .i64 (0)) := HR8.out.b3.c6
          have q7 : (x8).cell? ⟨B3, 7, none⟩ = some (.int .i64 (0)) := HR8.out.b3.c7
          have qf : ∀ i, (x8).frozen? ⟨B3, i, none⟩ = false := HR8.out.b3.f
          have HR9 : Hid (RS S a k cap z (t5 + 1 + 4 + 1 + 1) w (x8.setCell ⟨B3, 5, none⟩ (.bool false)) B3 (⟨5, 1 + v2, ky, true, 0, false, 0, 0⟩ : Rc)) := HR8.out.put 5 _ (HR8.out.b3.put5 _)
          go_wp2_with fail
          clear q0 q1 q2 q3 q4 q5 q6 q7 qf
          refine (l1Next_any S a k cap z (t5 + 1 + 4 + 1 + 1) 90 _ (by have := HT.out; omega) (by omega) HR9.out.d.src).mono ?_
          rintro e x10 ⟨od, rfl, hod, hn⟩
          have HR10 : Hid (RS S a k cap z (t5 + 1 + 4 + 1 + 1 + 1) w x10 B3 (⟨5, 1 + v2, ky, true, 0, false, 0, 0⟩ : Rc)) := HR9.out.call hn.dw
          clear hn
          obtain ⟨lod, uod, -⟩ := hod
          have uod := uod (by omega)
          have q0 : (x10).cell? ⟨B3, 0, none⟩ = some (.int .i64 (5)) := HR10.out.b3.c0
          have q1 : (x10).cell? ⟨B3, 1, none⟩ = some (.int .i64 (1 + v2)) := HR10.out.b3.c1
          have q2 : (x10).cell? ⟨B3, 2, none⟩ = some (.int .i64 (ky)) := HR10.out.b3.c2
          have q3 : (x10).cell? ⟨B3, 3, none⟩ = some (.bool (true)) := HR10.out.b3.c3
          have q4 : (x10).cell? ⟨B3, 4, none⟩ = some (.int .i64 (0)) := HR10.out.b3.c4
          have q5 : (x10).cell? ⟨B3, 5, none⟩ = some (.bool (false)) := HR10.out.b3.c5
          have q6 : (x10).cell? ⟨B3, 6, none⟩ = some (.int .i64 (0)) := HR10.out.b3.c6
          have q7 : (x10).cell? ⟨B3, 7, none⟩ = some (.int .i64 (0)) := HR10.out.b3.c7
          have qf : ∀ i, (x10).frozen? ⟨B3, i, none⟩ = false := HR10.out.b3.f
          have HR11 : Hid (RS S a k cap z (t5 + 1 + 4 + 1 + 1 + 1) w (x10.setCell ⟨B3, 4, none⟩ (.int .i64 od)) B3 (⟨5, 1 + v2, ky, true, od, false, 0, 0⟩ : Rc)) := HR10.out.put 4 _ (HR10.out.b3.put4 _)
          go_wp2_with fail
          clear q0 q1 q2 q3 q4 q5 q6 q7 qf
          refine (l1Next_any S a k cap z (t5 + 1 + 4 + 1 + 1 + 1) 6 _ (by have := HT.out; omega) (by omega) HR11.out.d.src).mono ?_
          rintro e x12 ⟨vb, rfl, hvb, hn⟩
          have HR12 : Hid (RS S a k cap z (t5 + 1 + 4 + 1 + 1 + 1 + 1) w x12 B3 (⟨5, 1 + v2, ky, true, od, false, 0, 0⟩ : Rc)) := HR11.out.call hn.dw
          clear hn
          obtain ⟨lb, ub, -⟩ := hvb
          have ub := ub (by omega)
          have q0 : (x12).cell? ⟨B3, 0, none⟩ = some (.int .i64 (5)) := HR12.out.b3.c0
          have q1 : (x12).cell? ⟨B3, 1, none⟩ = some (.int .i64 (1 + v2)) := HR12.out.b3.c1
          have q2 : (x12).cell? ⟨B3, 2, none⟩ = some (.int .i64 (ky)) := HR12.out.b3.c2
          have q3 : (x12).cell? ⟨B3, 3, none⟩ = some (.bool (true)) := HR12.out.b3.c3
          have q4 : (x12).cell? ⟨B3, 4, none⟩ = some (.int .i64 (od)) := HR12.out.b3.c4
          have q5 : (x12).cell? ⟨B3, 5, none⟩ = some (.bool (false)) := HR12.out.b3.c5
          have q6 : (x12).cell? ⟨B3, 6, none⟩ = some (.int .i64 (0)) := HR12.out.b3.c6
          have q7 : (x12).cell? ⟨B3, 7, none⟩ = some (.int .i64 (0)) := HR12.out.b3.c7
          have qf : ∀ i, (x12).frozen? ⟨B3, i, none⟩ = false := HR12.out.b3.f
          have HR13 : Hid (RS S a k cap z (t5 + 1 + 4 + 1 + 1 + 1 + 1) w (x12.setCell ⟨B3, 7, none⟩ (.int .i64 (1 + vb))) B3 (⟨5, 1 + v2, ky, true, od, false, 0, 1 + vb⟩ : Rc)) := HR12.out.put 7 _ (HR12.out.b3.put7 _)
          have d0 : (x12).cell? ⟨w.heap.size, 0, none⟩ = some (.int .i64 (0)) := HR12.out.b2.c0
          have d1 : (x12).cell? ⟨w.heap.size, 1, none⟩ = some (.int .i64 (0)) := HR12.out.b2.c1
          have d2 : (x12).cell? ⟨w.heap.size, 2, none⟩ = some (.int .i64 (0)) := HR12.out.b2.c2
          have d3 : (x12).cell? ⟨w.heap.size, 3, none⟩ = some (.bool (false)) := HR12.out.b2.c3
          have d4 : (x12).cell? ⟨w.heap.size, 4, none⟩ = some (.int .i64 (0)) := HR12.out.b2.c4
          have d5 : (x12).cell? ⟨w.heap.size, 5, none⟩ = some (.bool (false)) := HR12.out.b2.c5
          have d6 : (x12).cell? ⟨w.heap.size, 6, none⟩ = some (.int .i64 (0)) := HR12.out.b2.c6
          have d7 : (x12).cell? ⟨w.heap.size, 7, none⟩ = some (.int .i64 (0)) := HR12.out.b2.c7
          have df : ∀ i, (x12).frozen? ⟨w.heap.size, i, none⟩ = false := HR12.out.b2.f
          go_wp2_with fail
          refine bodyPost_ret (v := rV (⟨5, 1 + v2, ky, true, od, false, 0, 1 + vb⟩ : Rc)) (by simp [results, Try.results39, go_sem, rV, hne1, hne2, d0, d1, d2, d3, d4, d5, d6, d7]) rfl ⟨_, _, rfl, by have := HT5.out; omega, HR12.out.d.over ?_ HL.out, goodR_lit _ _ _ _ _ _ _ _ (by omega) (by omega) (by omega) (by omega) (by omega) (by omega)⟩
          repeat (first | with_reducible exact Below.refl _ _ | with_reducible apply Below.drew | with_reducible refine Below.setCell ?_ (by first | exact Nat.le_refl _ | exact hB3) _)
theorem l3Rec_any (S : Nat) (a : Option Addr) (k cap : Nat) (z : Nat → Int) (t : Nat) (w : World) (ht : t ≤ 999900) (h : Src w S a k cap z t) :
    Calls Try.prog 39 #[.pointer (some ⟨S, 0, none⟩)] w fun e w' => ∃ (r : Rc) (t' : Nat), e = .returned (rV r) ∧ t' ≤ t + 20 ∧ Dw S a k cap z t' w w' := by
  refine (l3Rec_good S a k cap z t w ht h).mono ?_
  rintro e w' ⟨r, t', h1, h2, h3, -⟩
  exact ⟨r, t', h1, h2, h3⟩
end Go.Proofs.Ytapggckfacmklaa
