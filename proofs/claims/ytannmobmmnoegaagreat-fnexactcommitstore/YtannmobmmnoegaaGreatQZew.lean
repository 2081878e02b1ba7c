/- impl.BeginStore. -/
import Derived.Test.YtannmobmmnoegaaGreatQZet
namespace Go.Proofs.YtannmobmmnoegaaGreat
open Go.ChangeShapes Go.WideShapes Go.ChangeAt Go.RowKit Go.Deep Go.Joins
set_option linter.unusedVariables false
set_option linter.unusedSimpArgs false
set_option maxRecDepth 20000

theorem CbR.of {c v v' : Int} {R R' : Sto} {lo B : Nat} {col : Nat → Nat} {w w' : World} {e : Ending} (h : CbR c v R lo B col w e w') (hv : c = 0 → v = v' ∧ R = R') : CbR c v' R' lo B col w e w' := by
  obtain ⟨vv, R1, n1, xs1, col1, h1, h2, h3, h4, h5⟩ := h
  exact ⟨vv, R1, n1, xs1, col1, h1, fun hc => ⟨(h2 hc).1.trans (hv hc).1, (h2 hc).2.trans (hv hc).2⟩, h3, h4, h5⟩
theorem lgC_short {L : Lo} (h : lgC L = 0) : L.n1 + L.n2 ≤ 4000 ∧ 13 * cnt (aZ L) (L.n1 + L.n2) = L.n1 + L.n2 := by
  unfold lgC at h
  by_cases h1 : 4000 < L.n1 + L.n2
  · rw [if_pos h1] at h; omega
  · rw [if_neg h1] at h
    by_cases h2 : 13 * cnt (aZ L) (L.n1 + L.n2) = L.n1 + L.n2
    · exact ⟨by omega, h2⟩
    · rw [if_neg h2] at h; omega
theorem bgC_good {t : Sto} (h : stF t = 0) : bgC t = b1C t := if_pos h
theorem bgC_not {t : Sto} (h : stF t ≠ 0) : bgC t = stF t := if_neg h
set_option maxHeartbeats 4000000 in
theorem implBg_any (t : Sto) (a0 : Option Addr) (c0 : Nat) (a1 : Option Addr) (c1 : Nat) (a2 : Option Addr) (c2 : Nat) (a3 : Option Addr) (c3 : Nat) (a4 : Option Addr) (c4 : Nat) (a5 : Option Addr) (c5 : Nat) (a6 : Option Addr) (c6 : Nat) (w : World) (hS : SmSt t) (hby : LogByt t.g) (h : InSt w a0 a1 a2 a3 a4 a5 a6 t) :
    Calls Tryz.prog 11 #[.agg #[.int .i64 t.nx, .slice a0 t.pn c0, .slice a1 t.d.n c1, .slice a2 t.d.m c2, .slice a3 t.g.n1 c3, .slice a4 t.g.n2 c4, .slice a5 t.hn c5, .slice a6 t.on c6]] w (SRes (bgC t) (bgV t) (bgT t) w) := by
  have HA : Hid (InSt w a0 a1 a2 a3 a4 a5 a6 t) := h
  have HS : Hid (SmSt t) := hS
  have HBY : Hid (LogByt t.g) := hby
  clear h hS hby
  go_enter Tryz.func11, Tryz.ntmps11
  go_wp2_with fail
  obtain ⟨W, hW⟩ : ∃ x, x = (w.alloc (.cells #[.int .i64 t.nx, .slice a0 t.pn c0, .slice a1 t.d.n c1, .slice a2 t.d.m c2, .slice a3 t.g.n1 c3, .slice a4 t.g.n2 c4, .slice a5 t.hn c5, .slice a6 t.on c6] 42)).alloc (.cells #[.int .i64 0, .int .i64 0, .int .i64 0, .slice none 0 0, .slice none 0 0, .slice none 0 0, .slice none 0 0, .slice none 0 0, .slice none 0 0, .slice none 0 0] 44) := ⟨_, rfl⟩
  have HBW : Hid (Below w.heap.size w W) := by rw [hW]; exact ((Below.refl _ _).alloc (Nat.le_refl _) _).alloc (by simp) _
  have HWS : Hid (W.heap.size = w.heap.size + 2) := by rw [hW]; simp [Hid]
  have HB10 : Hid (Bx10 W (w.heap.size + 1) 0 0 (.int .i64 0) (.slice none 0 0) (.slice none 0 0) (.slice none 0 0) (.slice none 0 0) (.slice none 0 0) (.slice none 0 0) (.slice none 0 0)) := by rw [hW]; simp [Hid, Bx10, go_sem]
  have HBF : Hid (∀ i, W.frozen? ⟨w.heap.size + 1, i, none⟩ = false) := fun i => by rw [hW]; simp [go_sem]
  rw [← hW]
  clear hW
  refine (turnBegin_any t a0 c0 a1 c1 a2 c2 a3 c3 a4 c4 a5 c5 a6 c6 (bgC t) (bgV t) (bgT t) W HS.out HBY.out (HA.out.below HBW.out) (fun hc => ⟨bgC_not hc, bg_bad (bgC_not hc) hc⟩) (fun hc => bg_bad rfl hc) (fun hst lo col B u hlo hbu hk => ?_)).mono ?_
  · have hG := stF_good hst
    have hq := lgC_short hG.lg
    refine (begin1_any t _ _ lo col B u hq.1 hG.nx hG.lg HBY.out (by omega) HS.out.2.2.2.2 hk).mono ?_
    intro e w' hcb
    rw [← bgC_good hst] at hcb
    exact hcb.of fun hc => ⟨(bg_good hc).1.symm, (bg_good hc).2.symm⟩
  rintro e w1 ⟨q0, k0, q1, k1, q2, k2, q3, k3, q4, k4, q5, k5, q6, k6, rfl, hb1, ho1⟩
  have e1 : w1.heap[w.heap.size + 1]? = W.heap[w.heap.size + 1]? := hb1.block _ (by have := HWS.out; omega)
  obtain ⟨r0, r1, r2, r3, r4, r5, r6, r7, r8, r9⟩ := HB10.out.block e1
  have rf9 : ∀ i, w1.frozen? ⟨w.heap.size + 1, i, none⟩ = false := fun i => (frozB e1).trans (HBF.out i)
  have HOW : Hid (OwnS w1 W.heap.size w1.heap.size q0 q1 q2 q3 q4 q5 q6 (bgT t)) := ho1
  have HB1 : Hid (Below w.heap.size w w1) := below_then HBW.out hb1
  generalize bgC t = c at *
  generalize bgV t = v at *
  generalize bgT t = R at *
  have HEND : Hid (∀ w', Writes (w.heap.size + 1) (w.heap.size + 2) w1 w' → SRes c v R w (.returned (.agg #[.int .i64 c, .int .i64 v, .int .i64 R.nx, .slice q0 R.pn k0, .slice q1 R.d.n k1, .slice q2 R.d.m k2, .slice q3 R.g.n1 k3, .slice q4 R.g.n2 k4, .slice q5 R.hn k5, .slice q6 R.on k6])) w') := fun w' hw => ⟨q0, k0, q1, k1, q2, k2, q3, k3, q4, k4, q5, k5, q6, k6, rfl, hw.below HB1.out (by omega), (HOW.out.writes hw (.inr (by have := HWS.out; omega))).wide (by have := HWS.out; omega) hw.size (Nat.le_refl _)⟩
  clear hb1 ho1 e1
  go_wp2_with fail
  refine bodyPost_ret (v := .agg #[.int .i64 c, .int .i64 v, .int .i64 R.nx, .slice q0 R.pn k0, .slice q1 R.d.n k1, .slice q2 R.d.m k2, .slice q3 R.g.n1 k3, .slice q4 R.g.n2 k4, .slice q5 R.hn k5, .slice q6 R.on k6]) ?_ rfl ?_
  · simp [results, Tryz.results11, go_sem, *]
  · refine HEND.out _ ?_
    repeat (first | with_reducible exact Writes.refl _ _ _ | with_reducible refine Writes.setCell ?_ (by first | omega | (simp <;> omega)) (by first | omega | (simp <;> omega)) _)
end Go.Proofs.YtannmobmmnoegaaGreat
