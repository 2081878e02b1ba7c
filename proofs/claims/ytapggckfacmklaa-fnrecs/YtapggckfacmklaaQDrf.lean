/- Draws: spec.l3Bent. -/
import Derived.Test.YtapggckfacmklaaQDre
namespace Go.Proofs.Ytapggckfacmklaa
open Go.RowKit Go.Deep
set_option linter.unusedVariables false
set_option linter.unusedSimpArgs false
set_option maxRecDepth 20000

set_option maxHeartbeats 4000000 in
theorem l3Bent_any (S : Nat) (a : Option Addr) (k cap : Nat) (z : Nat → Int) (t : Nat) (w : World) (ht : t ≤ 999800) (h : Src w S a k cap z t) :
    Calls Try.prog 34 #[.pointer (some ⟨S, 0, none⟩)] w fun e w' => ∃ (r : Rc) (t' : Nat), e = .returned (rV r) ∧ t' ≤ t + 30 ∧ Dw S a k cap z t' w w' := by
  have HS : Hid (Src w S a k cap z t) := h
  have HL : Hid (S < w.heap.size) := h.lt
  clear h
  go_enter Try.func34, Try.ntmps34
  go_wp2_with fail
  obtain ⟨W, hW⟩ : ∃ x, x = w.alloc (.cells #[.int .i64 0, .int .i64 0, .int .i64 0, .bool false, .int .i64 0, .bool false, .int .i64 0, .int .i64 0] 37) := ⟨_, rfl⟩
  have HB : Hid (RB W w.heap.size zR8) := by
    rw [hW]
    exact ⟨by simp [go_sem, zR8], by simp [go_sem, zR8], by simp [go_sem, zR8], by simp [go_sem, zR8], by simp [go_sem, zR8], by simp [go_sem, zR8], by simp [go_sem, zR8], by simp [go_sem, zR8], fun i => by simp [go_sem]⟩
  have HD : Hid (Dw S a k cap z t w W) := by rw [hW]; exact HS.out.self.below (below_new _ _)
  rw [← hW]
  clear hW
  refine (l3Rec_any S a k cap z t W (by omega) HD.out.src).mono ?_
  rintro e w2 ⟨r, t2, rfl, ht2, hd2⟩
  have HD2 : Hid (Dw S a k cap z t2 w w2) := HD.out.trans hd2
  have HB2 : Hid (RB w2 w.heap.size zR8) := HB.out.block (hd2.1.block _ HB.out.lt (by have := HL.out; omega))
  have HT : Hid (t2 ≤ 999900) := by show _ ≤ _; omega
  have HT2 : Hid (t2 ≤ t + 20) := ht2
  clear hd2
  obtain ⟨rk, rt, ry, rh, ro, rs, rn, rb⟩ := r
  unfold rV
  go_wp2_with fail
  have HR0 : Hid (RS S a k cap z t2 w (w2.alloc (.cells #[.int .i64 rk, .int .i64 rt, .int .i64 ry, .bool rh, .int .i64 ro, .bool rs, .int .i64 rn, .int .i64 rb] 37)) w2.heap.size ⟨rk, rt, ry, rh, ro, rs, rn, rb⟩) :=
    ⟨HD2.out.below (below_new _ _), HB2.out.block ((below_new _ _).block _ HB2.out.lt), ⟨by simp [go_sem], by simp [go_sem], by simp [go_sem], by simp [go_sem], by simp [go_sem], by simp [go_sem], by simp [go_sem], by simp [go_sem], fun i => by simp [go_sem]⟩, HB2.out.lt, HL.out⟩
  generalize hW3 : w2.alloc (.cells #[.int .i64 rk, .int .i64 rt, .int .i64 ry, .bool rh, .int .i64 ro, .bool rs, .int .i64 rn, .int .i64 rb] 37) = W3 at *
  generalize hB3 : w2.heap.size = B3 at *
  clear hB3 hW3 HD HB HD2 HB2 ht2
  refine (l1Next_any S a k cap z t2 16 W3 (by have := HT.out; omega) (by omega) HR0.out.d.src).mono ?_
  rintro e x1 ⟨v, rfl, -, hn⟩
  have HR1 : Hid (RS S a k cap z (t2 + 1) w x1 B3 ⟨rk, rt, ry, rh, ro, rs, rn, rb⟩) := HR0.out.call hn.dw
  have hB3 : w.heap.size ≤ B3 := Nat.le_of_lt HR1.out.lt
  have hne1 : w.heap.size ≠ B3 := Nat.ne_of_lt HR1.out.lt
  have hne2 : B3 ≠ w.heap.size := Ne.symm hne1
  clear hn HR0
  by_cases e0 : v = 0
  · subst e0
    go_wp2_with fail
    refine (l1Next_any S a k cap z (t2 + 1) 6 _ (by have := HT.out; omega) (by omega) HR1.out.d.src).mono ?_
    rintro e x2 ⟨u, rfl, hu, hn⟩
    have HR2 : Hid (RS S a k cap z (t2 + 1 + 1) w x2 B3 (⟨rk, rt, ry, rh, ro, rs, rn, rb⟩ : Rc)) := HR1.out.call hn.dw
    obtain ⟨lu, uu, -⟩ := hu
    have uu := uu (by omega)
    clear hn
    go_wp2_with fail
    have HP : Hid (RS S a k cap z (t2 + 1 + 1) w (x2.alloc (.cells #[.int .i64 0, .int .i64 7, .int .i64 (1 + u)] 2)) B3 (⟨rk, rt, ry, rh, ro, rs, rn, rb⟩ : Rc)) := HR2.out.below (below_new _ _)
    refine (l1Pick_any S a k cap z (t2 + 1 + 1) x2.heap.size 0 3 3 (fun i => if i = 0 then (0 : Int) else if i = 1 then 7 else (1 + u)) _ (by have := HT.out; omega) (by omega) (by omega) (by have := HR2.out.d.src.lt; omega) (by simp [go_sem]) (fun i hi => ?_) HP.out.d.src).mono ?_
    · rcases i with - | - | - | i
      · simp [go_sem]
      · simp [go_sem]
      · simp [go_sem]
      · omega
    rintro e y1 ⟨i, hi, rfl, hn⟩
    generalize (if i = 0 then (0 : Int) else if i = 1 then 7 else (1 + u) : Int) = pv at *
    have HY : Hid (RS S a k cap z (t2 + 1 + 1 + 1) w y1 B3 (⟨rk, rt, ry, rh, ro, rs, rn, rb⟩ : Rc)) := HP.out.call hn.dw
    clear hn hi HP
    have q0 : (y1).cell? ⟨B3, 0, none⟩ = some (.int .i64 (rk)) := HY.out.b3.c0
    have q1 : (y1).cell? ⟨B3, 1, none⟩ = some (.int .i64 (rt)) := HY.out.b3.c1
    have q2 : (y1).cell? ⟨B3, 2, none⟩ = some (.int .i64 (ry)) := HY.out.b3.c2
    have q3 : (y1).cell? ⟨B3, 3, none⟩ = some (.bool (rh)) := HY.out.b3.c3
    have q4 : (y1).cell? ⟨B3, 4, none⟩ = some (.int .i64 (ro)) := HY.out.b3.c4
    have q5 : (y1).cell? ⟨B3, 5, none⟩ = some (.bool (rs)) := HY.out.b3.c5
    have q6 : (y1).cell? ⟨B3, 6, none⟩ = some (.int .i64 (rn)) := HY.out.b3.c6
    have q7 : (y1).cell? ⟨B3, 7, none⟩ = some (.int .i64 (rb)) := HY.out.b3.c7
    have qf : ∀ i, (y1).frozen? ⟨B3, i, none⟩ = false := HY.out.b3.f
    have d0 : (y1).cell? ⟨w.heap.size, 0, none⟩ = some (.int .i64 (0)) := HY.out.b2.c0
    have d1 : (y1).cell? ⟨w.heap.size, 1, none⟩ = some (.int .i64 (0)) := HY.out.b2.c1
    have d2 : (y1).cell? ⟨w.heap.size, 2, none⟩ = some (.int .i64 (0)) := HY.out.b2.c2
    have d3 : (y1).cell? ⟨w.heap.size, 3, none⟩ = some (.bool (false)) := HY.out.b2.c3
    have d4 : (y1).cell? ⟨w.heap.size, 4, none⟩ = some (.int .i64 (0)) := HY.out.b2.c4
    have d5 : (y1).cell? ⟨w.heap.size, 5, none⟩ = some (.bool (false)) := HY.out.b2.c5
    have d6 : (y1).cell? ⟨w.heap.size, 6, none⟩ = some (.int .i64 (0)) := HY.out.b2.c6
    have d7 : (y1).cell? ⟨w.heap.size, 7, none⟩ = some (.int .i64 (0)) := HY.out.b2.c7
    have df : ∀ i, (y1).frozen? ⟨w.heap.size, i, none⟩ = false := HY.out.b2.f
    go_wp2_with fail
    refine bodyPost_ret (v := rV (⟨pv, rt, ry, rh, ro, rs, rn, rb⟩ : Rc)) (by simp [results, Try.results34, go_sem, rV, hne1, hne2, d0, d1, d2, d3, d4, d5, d6, d7]) rfl ⟨_, _, rfl, by have := HT2.out; omega, HY.out.d.over ?_ HL.out⟩
    repeat (first | with_reducible exact Below.refl _ _ | with_reducible apply Below.drew | with_reducible refine Below.setCell ?_ (by first | exact Nat.le_refl _ | exact hB3) _)
  · skip
    by_cases e1 : v = 1
    · subst e1
      go_wp2_with fail
      have HP : Hid (RS S a k cap z (t2 + 1) w (x1.alloc (.cells #[.int .i64 0, .int .i64 999, .int .i64 1000, .int .i64 (-1)] 2)) B3 (⟨rk, rt, ry, rh, ro, rs, rn, rb⟩ : Rc)) := HR1.out.below (below_new _ _)
      refine (l1Pick_any S a k cap z (t2 + 1) x1.heap.size 0 4 4 (fun i => if i = 0 then (0 : Int) else if i = 1 then 999 else if i = 2 then 1000 else (-1)) _ (by have := HT.out; omega) (by omega) (by omega) (by have := HR1.out.d.src.lt; omega) (by simp [go_sem]) (fun i hi => ?_) HP.out.d.src).mono ?_
      · rcases i with - | - | - | - | i
        · simp [go_sem]
        · simp [go_sem]
        · simp [go_sem]
        · simp [go_sem]
        · omega
      rintro e y1 ⟨i, hi, rfl, hn⟩
      generalize (if i = 0 then (0 : Int) else if i = 1 then 999 else if i = 2 then 1000 else (-1) : Int) = pv at *
      have HY : Hid (RS S a k cap z (t2 + 1 + 1) w y1 B3 (⟨rk, rt, ry, rh, ro, rs, rn, rb⟩ : Rc)) := HP.out.call hn.dw
      clear hn hi HP
      have q0 : (y1).cell? ⟨B3, 0, none⟩ = some (.int .i64 (rk)) := HY.out.b3.c0
      have q1 : (y1).cell? ⟨B3, 1, none⟩ = some (.int .i64 (rt)) := HY.out.b3.c1
      have q2 : (y1).cell? ⟨B3, 2, none⟩ = some (.int .i64 (ry)) := HY.out.b3.c2
      have q3 : (y1).cell? ⟨B3, 3, none⟩ = some (.bool (rh)) := HY.out.b3.c3
      have q4 : (y1).cell? ⟨B3, 4, none⟩ = some (.int .i64 (ro)) := HY.out.b3.c4
      have q5 : (y1).cell? ⟨B3, 5, none⟩ = some (.bool (rs)) := HY.out.b3.c5
      have q6 : (y1).cell? ⟨B3, 6, none⟩ = some (.int .i64 (rn)) := HY.out.b3.c6
      have q7 : (y1).cell? ⟨B3, 7, none⟩ = some (.int .i64 (rb)) := HY.out.b3.c7
      have qf : ∀ i, (y1).frozen? ⟨B3, i, none⟩ = false := HY.out.b3.f
      have d0 : (y1).cell? ⟨w.heap.size, 0, none⟩ = some (.int .i64 (0)) := HY.out.b2.c0
      have d1 : (y1).cell? ⟨w.heap.size, 1, none⟩ = some (.int .i64 (0)) := HY.out.b2.c1
      have d2 : (y1).cell? ⟨w.heap.size, 2, none⟩ = some (.int .i64 (0)) := HY.out.b2.c2
      have d3 : (y1).cell? ⟨w.heap.size, 3, none⟩ = some (.bool (false)) := HY.out.b2.c3
      have d4 : (y1).cell? ⟨w.heap.size, 4, none⟩ = some (.int .i64 (0)) := HY.out.b2.c4
      have d5 : (y1).cell? ⟨w.heap.size, 5, none⟩ = some (.bool (false)) := HY.out.b2.c5
      have d6 : (y1).cell? ⟨w.heap.size, 6, none⟩ = some (.int .i64 (0)) := HY.out.b2.c6
      have d7 : (y1).cell? ⟨w.heap.size, 7, none⟩ = some (.int .i64 (0)) := HY.out.b2.c7
      have df : ∀ i, (y1).frozen? ⟨w.heap.size, i, none⟩ = false := HY.out.b2.f
      go_wp2_with fail
      refine bodyPost_ret (v := rV (⟨rk, pv, ry, rh, ro, rs, rn, rb⟩ : Rc)) (by simp [results, Try.results34, go_sem, rV, hne1, hne2, d0, d1, d2, d3, d4, d5, d6, d7]) rfl ⟨_, _, rfl, by have := HT2.out; omega, HY.out.d.over ?_ HL.out⟩
      repeat (first | with_reducible exact Below.refl _ _ | with_reducible apply Below.drew | with_reducible refine Below.setCell ?_ (by first | exact Nat.le_refl _ | exact hB3) _)
    · skip
      by_cases e2 : v = 2
      · subst e2
        go_wp2_with fail
        have HP : Hid (RS S a k cap z (t2 + 1) w (x1.alloc (.cells #[.int .i64 (-1), .int .i64 32, .int .i64 3] 2)) B3 (⟨rk, rt, ry, rh, ro, rs, rn, rb⟩ : Rc)) := HR1.out.below (below_new _ _)
        refine (l1Pick_any S a k cap z (t2 + 1) x1.heap.size 0 3 3 (fun i => if i = 0 then (-1 : Int) else if i = 1 then 32 else 3) _ (by have := HT.out; omega) (by omega) (by omega) (by have := HR1.out.d.src.lt; omega) (by simp [go_sem]) (fun i hi => ?_) HP.out.d.src).mono ?_
        · rcases i with - | - | - | i
          · simp [go_sem]
          · simp [go_sem]
          · simp [go_sem]
          · omega
        rintro e y1 ⟨i, hi, rfl, hn⟩
        generalize (if i = 0 then (-1 : Int) else if i = 1 then 32 else 3 : Int) = pv at *
        have HY : Hid (RS S a k cap z (t2 + 1 + 1) w y1 B3 (⟨rk, rt, ry, rh, ro, rs, rn, rb⟩ : Rc)) := HP.out.call hn.dw
        clear hn hi HP
        have q0 : (y1).cell? ⟨B3, 0, none⟩ = some (.int .i64 (rk)) := HY.out.b3.c0
        have q1 : (y1).cell? ⟨B3, 1, none⟩ = some (.int .i64 (rt)) := HY.out.b3.c1
        have q2 : (y1).cell? ⟨B3, 2, none⟩ = some (.int .i64 (ry)) := HY.out.b3.c2
        have q3 : (y1).cell? ⟨B3, 3, none⟩ = some (.bool (rh)) := HY.out.b3.c3
        have q4 : (y1).cell? ⟨B3, 4, none⟩ = some (.int .i64 (ro)) := HY.out.b3.c4
        have q5 : (y1).cell? ⟨B3, 5, none⟩ = some (.bool (rs)) := HY.out.b3.c5
        have q6 : (y1).cell? ⟨B3, 6, none⟩ = some (.int .i64 (rn)) := HY.out.b3.c6
        have q7 : (y1).cell? ⟨B3, 7, none⟩ = some (.int .i64 (rb)) := HY.out.b3.c7
        have qf : ∀ i, (y1).frozen? ⟨B3, i, none⟩ = false := HY.out.b3.f
        have d0 : (y1).cell? ⟨w.heap.size, 0, none⟩ = some (.int .i64 (0)) := HY.out.b2.c0
        have d1 : (y1).cell? ⟨w.heap.size, 1, none⟩ = some (.int .i64 (0)) := HY.out.b2.c1
        have d2 : (y1).cell? ⟨w.heap.size, 2, none⟩ = some (.int .i64 (0)) := HY.out.b2.c2
        have d3 : (y1).cell? ⟨w.heap.size, 3, none⟩ = some (.bool (false)) := HY.out.b2.c3
        have d4 : (y1).cell? ⟨w.heap.size, 4, none⟩ = some (.int .i64 (0)) := HY.out.b2.c4
        have d5 : (y1).cell? ⟨w.heap.size, 5, none⟩ = some (.bool (false)) := HY.out.b2.c5
        have d6 : (y1).cell? ⟨w.heap.size, 6, none⟩ = some (.int .i64 (0)) := HY.out.b2.c6
        have d7 : (y1).cell? ⟨w.heap.size, 7, none⟩ = some (.int .i64 (0)) := HY.out.b2.c7
        have df : ∀ i, (y1).frozen? ⟨w.heap.size, i, none⟩ = false := HY.out.b2.f
        go_wp2_with fail
        refine bodyPost_ret (v := rV (⟨rk, rt, pv, rh, ro, rs, rn, rb⟩ : Rc)) (by simp [results, Try.results34, go_sem, rV, hne1, hne2, d0, d1, d2, d3, d4, d5, d6, d7]) rfl ⟨_, _, rfl, by have := HT2.out; omega, HY.out.d.over ?_ HL.out⟩
        repeat (first | with_reducible exact Below.refl _ _ | with_reducible apply Below.drew | with_reducible refine Below.setCell ?_ (by first | exact Nat.le_refl _ | exact hB3) _)
      · skip
        by_cases e3 : v = 3
        · subst e3
          go_wp2_with fail
          have HP : Hid (RS S a k cap z (t2 + 1) w (x1.alloc (.cells #[.int .i64 (-1), .int .i64 10000, .int .i64 5] 2)) B3 (⟨rk, rt, ry, rh, ro, rs, rn, rb⟩ : Rc)) := HR1.out.below (below_new _ _)
          refine (l1Pick_any S a k cap z (t2 + 1) x1.heap.size 0 3 3 (fun i => if i = 0 then (-1 : Int) else if i = 1 then 10000 else 5) _ (by have := HT.out; omega) (by omega) (by omega) (by have := HR1.out.d.src.lt; omega) (by simp [go_sem]) (fun i hi => ?_) HP.out.d.src).mono ?_
          · rcases i with - | - | - | i
            · simp [go_sem]
            · simp [go_sem]
            · simp [go_sem]
            · omega
          rintro e y1 ⟨i, hi, rfl, hn⟩
          generalize (if i = 0 then (-1 : Int) else if i = 1 then 10000 else 5 : Int) = pv at *
          have HY : Hid (RS S a k cap z (t2 + 1 + 1) w y1 B3 (⟨rk, rt, ry, rh, ro, rs, rn, rb⟩ : Rc)) := HP.out.call hn.dw
          clear hn hi HP
          have q0 : (y1).cell? ⟨B3, 0, none⟩ = some (.int .i64 (rk)) := HY.out.b3.c0
          have q1 : (y1).cell? ⟨B3, 1, none⟩ = some (.int .i64 (rt)) := HY.out.b3.c1
          have q2 : (y1).cell? ⟨B3, 2, none⟩ = some (.int .i64 (ry)) := HY.out.b3.c2
          have q3 : (y1).cell? ⟨B3, 3, none⟩ = some (.bool (rh)) := HY.out.b3.c3
          have q4 : (y1).cell? ⟨B3, 4, none⟩ = some (.int .i64 (ro)) := HY.out.b3.c4
          have q5 : (y1).cell? ⟨B3, 5, none⟩ = some (.bool (rs)) := HY.out.b3.c5
          have q6 : (y1).cell? ⟨B3, 6, none⟩ = some (.int .i64 (rn)) := HY.out.b3.c6
          have q7 : (y1).cell? ⟨B3, 7, none⟩ = some (.int .i64 (rb)) := HY.out.b3.c7
          have qf : ∀ i, (y1).frozen? ⟨B3, i, none⟩ = false := HY.out.b3.f
          have d0 : (y1).cell? ⟨w.heap.size, 0, none⟩ = some (.int .i64 (0)) := HY.out.b2.c0
          have d1 : (y1).cell? ⟨w.heap.size, 1, none⟩ = some (.int .i64 (0)) := HY.out.b2.c1
          have d2 : (y1).cell? ⟨w.heap.size, 2, none⟩ = some (.int .i64 (0)) := HY.out.b2.c2
          have d3 : (y1).cell? ⟨w.heap.size, 3, none⟩ = some (.bool (false)) := HY.out.b2.c3
          have d4 : (y1).cell? ⟨w.heap.size, 4, none⟩ = some (.int .i64 (0)) := HY.out.b2.c4
          have d5 : (y1).cell? ⟨w.heap.size, 5, none⟩ = some (.bool (false)) := HY.out.b2.c5
          have d6 : (y1).cell? ⟨w.heap.size, 6, none⟩ = some (.int .i64 (0)) := HY.out.b2.c6
          have d7 : (y1).cell? ⟨w.heap.size, 7, none⟩ = some (.int .i64 (0)) := HY.out.b2.c7
          have df : ∀ i, (y1).frozen? ⟨w.heap.size, i, none⟩ = false := HY.out.b2.f
          go_wp2_with fail
          refine bodyPost_ret (v := rV (⟨rk, rt, ry, rh, pv, rs, rn, rb⟩ : Rc)) (by simp [results, Try.results34, go_sem, rV, hne1, hne2, d0, d1, d2, d3, d4, d5, d6, d7]) rfl ⟨_, _, rfl, by have := HT2.out; omega, HY.out.d.over ?_ HL.out⟩
          repeat (first | with_reducible exact Below.refl _ _ | with_reducible apply Below.drew | with_reducible refine Below.setCell ?_ (by first | exact Nat.le_refl _ | exact hB3) _)
        · skip
          by_cases e4 : v = 4
          · subst e4
            go_wp2_with fail
            have HP : Hid (RS S a k cap z (t2 + 1) w (x1.alloc (.cells #[.int .i64 (-1), .int .i64 0, .int .i64 1000, .int .i64 1001] 2)) B3 (⟨rk, rt, ry, rh, ro, rs, rn, rb⟩ : Rc)) := HR1.out.below (below_new _ _)
            refine (l1Pick_any S a k cap z (t2 + 1) x1.heap.size 0 4 4 (fun i => if i = 0 then (-1 : Int) else if i = 1 then 0 else if i = 2 then 1000 else 1001) _ (by have := HT.out; omega) (by omega) (by omega) (by have := HR1.out.d.src.lt; omega) (by simp [go_sem]) (fun i hi => ?_) HP.out.d.src).mono ?_
            · rcases i with - | - | - | - | i
              · simp [go_sem]
              · simp [go_sem]
              · simp [go_sem]
              · simp [go_sem]
              · omega
            rintro e y1 ⟨i, hi, rfl, hn⟩
            generalize (if i = 0 then (-1 : Int) else if i = 1 then 0 else if i = 2 then 1000 else 1001 : Int) = pv at *
            have HY : Hid (RS S a k cap z (t2 + 1 + 1) w y1 B3 (⟨rk, rt, ry, rh, ro, rs, rn, rb⟩ : Rc)) := HP.out.call hn.dw
            clear hn hi HP
            have q0 : (y1).cell? ⟨B3, 0, none⟩ = some (.int .i64 (rk)) := HY.out.b3.c0
            have q1 : (y1).cell? ⟨B3, 1, none⟩ = some (.int .i64 (rt)) := HY.out.b3.c1
            have q2 : (y1).cell? ⟨B3, 2, none⟩ = some (.int .i64 (ry)) := HY.out.b3.c2
            have q3 : (y1).cell? ⟨B3, 3, none⟩ = some (.bool (rh)) := HY.out.b3.c3
            have q4 : (y1).cell? ⟨B3, 4, none⟩ = some (.int .i64 (ro)) := HY.out.b3.c4
            have q5 : (y1).cell? ⟨B3, 5, none⟩ = some (.bool (rs)) := HY.out.b3.c5
            have q6 : (y1).cell? ⟨B3, 6, none⟩ = some (.int .i64 (rn)) := HY.out.b3.c6
            have q7 : (y1).cell? ⟨B3, 7, none⟩ = some (.int .i64 (rb)) := HY.out.b3.c7
            have qf : ∀ i, (y1).frozen? ⟨B3, i, none⟩ = false := HY.out.b3.f
            have d0 : (y1).cell? ⟨w.heap.size, 0, none⟩ = some (.int .i64 (0)) := HY.out.b2.c0
            have d1 : (y1).cell? ⟨w.heap.size, 1, none⟩ = some (.int .i64 (0)) := HY.out.b2.c1
            have d2 : (y1).cell? ⟨w.heap.size, 2, none⟩ = some (.int .i64 (0)) := HY.out.b2.c2
            have d3 : (y1).cell? ⟨w.heap.size, 3, none⟩ = some (.bool (false)) := HY.out.b2.c3
            have d4 : (y1).cell? ⟨w.heap.size, 4, none⟩ = some (.int .i64 (0)) := HY.out.b2.c4
            have d5 : (y1).cell? ⟨w.heap.size, 5, none⟩ = some (.bool (false)) := HY.out.b2.c5
            have d6 : (y1).cell? ⟨w.heap.size, 6, none⟩ = some (.int .i64 (0)) := HY.out.b2.c6
            have d7 : (y1).cell? ⟨w.heap.size, 7, none⟩ = some (.int .i64 (0)) := HY.out.b2.c7
            have df : ∀ i, (y1).frozen? ⟨w.heap.size, i, none⟩ = false := HY.out.b2.f
            go_wp2_with fail
            refine bodyPost_ret (v := rV (⟨rk, rt, ry, rh, ro, rs, rn, pv⟩ : Rc)) (by simp [results, Try.results34, go_sem, rV, hne1, hne2, d0, d1, d2, d3, d4, d5, d6, d7]) rfl ⟨_, _, rfl, by have := HT2.out; omega, HY.out.d.over ?_ HL.out⟩
            repeat (first | with_reducible exact Below.refl _ _ | with_reducible apply Below.drew | with_reducible refine Below.setCell ?_ (by first | exact Nat.le_refl _ | exact hB3) _)
          · skip
            by_cases e5 : v = 5
            · subst e5
              have q0 : (x1).cell? ⟨B3, 0, none⟩ = some (.int .i64 (rk)) := HR1.out.b3.c0
              have q1 : (x1).cell? ⟨B3, 1, none⟩ = some (.int .i64 (rt)) := HR1.out.b3.c1
              have q2 : (x1).cell? ⟨B3, 2, none⟩ = some (.int .i64 (ry)) := HR1.out.b3.c2
              have q3 : (x1).cell? ⟨B3, 3, none⟩ = some (.bool (rh)) := HR1.out.b3.c3
              have q4 : (x1).cell? ⟨B3, 4, none⟩ = some (.int .i64 (ro)) := HR1.out.b3.c4
              have q5 : (x1).cell? ⟨B3, 5, none⟩ = some (.bool (rs)) := HR1.out.b3.c5
              have q6 : (x1).cell? ⟨B3, 6, none⟩ = some (.int .i64 (rn)) := HR1.out.b3.c6
              have q7 : (x1).cell? ⟨B3, 7, none⟩ = some (.int .i64 (rb)) := HR1.out.b3.c7
              have qf : ∀ i, (x1).frozen? ⟨B3, i, none⟩ = false := HR1.out.b3.f
              have d0 : (x1).cell? ⟨w.heap.size, 0, none⟩ = some (.int .i64 (0)) := HR1.out.b2.c0
              have d1 : (x1).cell? ⟨w.heap.size, 1, none⟩ = some (.int .i64 (0)) := HR1.out.b2.c1
              have d2 : (x1).cell? ⟨w.heap.size, 2, none⟩ = some (.int .i64 (0)) := HR1.out.b2.c2
              have d3 : (x1).cell? ⟨w.heap.size, 3, none⟩ = some (.bool (false)) := HR1.out.b2.c3
              have d4 : (x1).cell? ⟨w.heap.size, 4, none⟩ = some (.int .i64 (0)) := HR1.out.b2.c4
              have d5 : (x1).cell? ⟨w.heap.size, 5, none⟩ = some (.bool (false)) := HR1.out.b2.c5
              have d6 : (x1).cell? ⟨w.heap.size, 6, none⟩ = some (.int .i64 (0)) := HR1.out.b2.c6
              have d7 : (x1).cell? ⟨w.heap.size, 7, none⟩ = some (.int .i64 (0)) := HR1.out.b2.c7
              have df : ∀ i, (x1).frozen? ⟨w.heap.size, i, none⟩ = false := HR1.out.b2.f
              go_wp2_with fail
              refine bodyPost_ret (v := rV (⟨rk, rt, ry, rh, ro, !rs, rn, rb⟩ : Rc)) (by simp [results, Try.results34, go_sem, rV, hne1, hne2, d0, d1, d2, d3, d4, d5, d6, d7]) rfl ⟨_, _, rfl, by have := HT2.out; omega, HR1.out.d.over ?_ HL.out⟩
              repeat (first | with_reducible exact Below.refl _ _ | with_reducible apply Below.drew | with_reducible refine Below.setCell ?_ (by first | exact Nat.le_refl _ | exact hB3) _)
            · skip
              have q0 : (x1).cell? ⟨B3, 0, none⟩ = some (.int .i64 (rk)) := HR1.out.b3.c0
              have q1 : (x1).cell? ⟨B3, 1, none⟩ = some (.int .i64 (rt)) := HR1.out.b3.c1
              have q2 : (x1).cell? ⟨B3, 2, none⟩ = some (.int .i64 (ry)) := HR1.out.b3.c2
              have q3 : (x1).cell? ⟨B3, 3, none⟩ = some (.bool (rh)) := HR1.out.b3.c3
              have q4 : (x1).cell? ⟨B3, 4, none⟩ = some (.int .i64 (ro)) := HR1.out.b3.c4
              have q5 : (x1).cell? ⟨B3, 5, none⟩ = some (.bool (rs)) := HR1.out.b3.c5
              have q6 : (x1).cell? ⟨B3, 6, none⟩ = some (.int .i64 (rn)) := HR1.out.b3.c6
              have q7 : (x1).cell? ⟨B3, 7, none⟩ = some (.int .i64 (rb)) := HR1.out.b3.c7
              have qf : ∀ i, (x1).frozen? ⟨B3, i, none⟩ = false := HR1.out.b3.f
              have d0 : (x1).cell? ⟨w.heap.size, 0, none⟩ = some (.int .i64 (0)) := HR1.out.b2.c0
              have d1 : (x1).cell? ⟨w.heap.size, 1, none⟩ = some (.int .i64 (0)) := HR1.out.b2.c1
              have d2 : (x1).cell? ⟨w.heap.size, 2, none⟩ = some (.int .i64 (0)) := HR1.out.b2.c2
              have d3 : (x1).cell? ⟨w.heap.size, 3, none⟩ = some (.bool (false)) := HR1.out.b2.c3
              have d4 : (x1).cell? ⟨w.heap.size, 4, none⟩ = some (.int .i64 (0)) := HR1.out.b2.c4
              have d5 : (x1).cell? ⟨w.heap.size, 5, none⟩ = some (.bool (false)) := HR1.out.b2.c5
              have d6 : (x1).cell? ⟨w.heap.size, 6, none⟩ = some (.int .i64 (0)) := HR1.out.b2.c6
              have d7 : (x1).cell? ⟨w.heap.size, 7, none⟩ = some (.int .i64 (0)) := HR1.out.b2.c7
              have df : ∀ i, (x1).frozen? ⟨w.heap.size, i, none⟩ = false := HR1.out.b2.f
              go_wp2_with fail
              refine bodyPost_ret (v := rV (⟨rk, rt, ry, rh, ro, rs, rn, rb⟩ : Rc)) (by simp [results, Try.results34, go_sem, rV, hne1, hne2, d0, d1, d2, d3, d4, d5, d6, d7]) rfl ⟨_, _, rfl, by have := HT2.out; omega, HR1.out.d.over ?_ HL.out⟩
              repeat (first | with_reducible exact Below.refl _ _ | with_reducible apply Below.drew | with_reducible refine Below.setCell ?_ (by first | exact Nat.le_refl _ | exact hB3) _)
end Go.Proofs.Ytapggckfacmklaa
