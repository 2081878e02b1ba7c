/- The fault of a history, by the model. -/
import Derived.Test.YtdgginfagbmooaaDoorHfb
namespace Go.Proofs.YtdgginfagbmooaaDoor
open Go.RowKit Go.Deep
set_option linter.unusedVariables false
set_option maxRecDepth 20000

set_option maxHeartbeats 8000000 in
theorem specHf_some (n : Nat) (R : Nat → Hp) (b off : Nat) (w : World) (hn : n ≤ 400) (hbl : b < w.heap.size) (hc : ∀ i, i < n → CH w b (off + i * 4) (R i)) :
    Calls Tryd.prog 10 #[.slice (some ⟨b, off, none⟩) n n] w fun e w' => e = .returned (.int .i64 (hiF R n)) ∧ Below w.heap.size w w' := by
  have HC : Hid (∀ i, i < n → CH w b (off + i * 4) (R i)) := hc
  have hle : ¬ ((400 : Int) < (n : Int)) := by omega
  clear hc
  go_enter Tryd.func10, Tryd.ntmps10
  go_wp2_with fail
  clear hle
  go_loopw [3, 4, 5] (fun i _ _ wr => ∃ k : Nat, k ≤ n ∧ i = .int .i64 k ∧ Hid (hiF R k = 0) ∧ Hid (Below w.heap.size w wr)) (fun i _ _ _ => n - (intOf i).toNat)
  case atStart => exact ⟨0, Nat.zero_le _, rfl, rfl, Below.refl _ _⟩
  case round =>
    obtain ⟨k, hk0, rfl, HZ, HB⟩ := hrel
    by_cases hlt : k < n
    · obtain ⟨x0, x1, x2, x3⟩ := (HC.out k hlt).block (HB.out.block _ hbl)
      have hbw : b < wr.heap.size := Nat.lt_of_lt_of_le hbl HB.out.size
      have hbne : ¬ b = wr.heap.size := by omega
      have hlt' : (k : Int) < (n : Int) := by omega
      have hk1 : (0 : Int) ≤ (k : Int) := by omega
      have HAT : Hid (hpF (R k) (lastK R k (R k).t) ≠ 0 → hiF R n = hpF (R k) (lastK R k (R k).t)) := fun h => hiF_at HZ.out hlt h
      have HNX : Hid (hpF (R k) (lastK R k (R k).t) = 0 → hiF R (k + 1) = 0) := fun h => hiF_next HZ.out h
      have HX : Hid (∀ (y0 y1 y2 y3 y4 y5 y6 y7 y8 : Bool), inB (R k).k 1 5 = y0 → inB (R k).t 2 999 = y1 → inB (R k).y 0 31 = y2 → inB (R k).o 0 999 = y3 → ((R k).k != 2) = y4 → ((R k).o != 0) = y5 → ((R k).k != 3) = y6 → ((R k).y != 0) = y7 → ((R k).k == 1) = y8 →
          hpF (R k) (lastK R k (R k).t) = if !y0 || !y1 || !y2 || !y3 then 3 else if y4 && y5 || y4 && y6 && y7 then 1 else if (if y8 then (stK R k (R k).t != 0) else (stK R k (R k).t != 1)) then 10 else 0) := fun y0 y1 y2 y3 y4 y5 y6 y7 y8 a0 a1 a2 a3 a4 a5 a6 a7 a8 => hpF_by HZ.out _ rfl y0 y1 y2 y3 y4 y5 y6 y7 y8 _ a0 a1 a2 a3 a4 a5 a6 a7 a8 rfl
      obtain e0 | e0 := boolor (inB (R k).k 1 5)
      · obtain e1 | e1 := boolor (inB (R k).t 2 999)
        · obtain e2 | e2 := boolor (inB (R k).y 0 31)
          · obtain e3 | e3 := boolor (inB (R k).o 0 999)
            · obtain e4 | e4 := boolor ((R k).k != 2)
              · obtain e5 | e5 := boolor ((R k).o != 0)
                · have HE : Hid (hiF R n = 1) := by
                    show hiF R n = 1
                    have hq := HX.out true true true true true true _ _ _ e0 e1 e2 e3 e4 e5 rfl rfl rfl
                    rw [HAT.out (by rw [hq]; simp)]; rw [hq]; simp
                  clear HX HAT HNX
                  generalize R k = r at *
                  go_wp2_with (first | (go_at_call 16; refine (l1In_any _ _ _ _).mono ?_; rintro e w' ⟨rfl, rfl⟩) | (go_at_call 17; refine (l1Key_any _ _).mono ?_; rintro e w' ⟨rfl, rfl⟩))
                  go_ret
                  exact ⟨ret_int HE.out.symm, below_then HB.out (below_new _ _)⟩
                · obtain e6 | e6 := boolor ((R k).k != 3)
                  · obtain e7 | e7 := boolor ((R k).y != 0)
                    · have HE : Hid (hiF R n = 1) := by
                        show hiF R n = 1
                        have hq := HX.out true true true true true false true true _ e0 e1 e2 e3 e4 e5 e6 e7 rfl
                        rw [HAT.out (by rw [hq]; simp)]; rw [hq]; simp
                      clear HX HAT HNX
                      generalize R k = r at *
                      go_wp2_with (first | (go_at_call 16; refine (l1In_any _ _ _ _).mono ?_; rintro e w' ⟨rfl, rfl⟩) | (go_at_call 17; refine (l1Key_any _ _).mono ?_; rintro e w' ⟨rfl, rfl⟩))
                      go_ret
                      exact ⟨ret_int HE.out.symm, below_then HB.out (below_new _ _)⟩
                    · obtain e8 | e8 := boolor ((R k).k == 1)
                      · obtain e9 | e9 := boolor (stK R k (R k).t != 0)
                        · have HE : Hid (hiF R n = 10) := by
                            show hiF R n = 10
                            have hq := HX.out true true true true true false true false true e0 e1 e2 e3 e4 e5 e6 e7 e8
                            rw [HAT.out (by rw [hq]; simp [e9])]; rw [hq]; simp [e9]
                          clear HX HAT HNX
                          have e8' : ((R k).k != 1) = false := by rw [bne, e8]; rfl
                          generalize hst : stK R k (R k).t = st at *
                          have hrt : Hid (stK R k (R k).t = st) := hst
                          have HQ : Hid (∀ w9, Below wr.heap.size wr w9 → Calls Tryd.prog 18 #[.slice (some ⟨b, off, none⟩) k n, .int .i64 (R k).t] w9 fun e w' => e = .returned (.int .i64 st) ∧ ∃ m, w' = w9.drewN m) := fun w9 h9 => by
                            rw [← hrt.out]
                            have h8 : HopsAt wr (some ⟨b, off, none⟩) k R := .inr ⟨b, off, rfl, hbw, fun i hi => (HC.out i (by omega)).block (HB.out.block _ hbl)⟩
                            exact l10State_q k R _ n _ _ (by omega) (h8.below h9)
                          clear hst hrt
                          generalize R k = r at *
                          go_wp2_with (first | (go_at_call 16; refine (l1In_any _ _ _ _).mono ?_; rintro e w' ⟨rfl, rfl⟩) | (go_at_call 17; refine (l1Key_any _ _).mono ?_; rintro e w' ⟨rfl, rfl⟩))
                          go_quiet (first | (go_at_call 18; exact Calls.quiet_of (HQ.out _ (below_drewN (below_new _ _) _))))
                          go_wp2_with fail
                          go_ret
                          exact ⟨ret_int HE.out.symm, below_drewN (below_then HB.out (below_new _ _)) _⟩
                        · have HE : Hid (hiF R (k + 1) = 0) := by
                            have hq := HX.out true true true true true false true false true e0 e1 e2 e3 e4 e5 e6 e7 e8
                            exact HNX.out (by rw [hq]; simp [e9])
                          clear HX HAT HNX
                          have e8' : ((R k).k != 1) = false := by rw [bne, e8]; rfl
                          generalize hst : stK R k (R k).t = st at *
                          have hrt : Hid (stK R k (R k).t = st) := hst
                          have HQ : Hid (∀ w9, Below wr.heap.size wr w9 → Calls Tryd.prog 18 #[.slice (some ⟨b, off, none⟩) k n, .int .i64 (R k).t] w9 fun e w' => e = .returned (.int .i64 st) ∧ ∃ m, w' = w9.drewN m) := fun w9 h9 => by
                            rw [← hrt.out]
                            have h8 : HopsAt wr (some ⟨b, off, none⟩) k R := .inr ⟨b, off, rfl, hbw, fun i hi => (HC.out i (by omega)).block (HB.out.block _ hbl)⟩
                            exact l10State_q k R _ n _ _ (by omega) (h8.below h9)
                          clear hst hrt
                          generalize R k = r at *
                          go_wp2_with (first | (go_at_call 16; refine (l1In_any _ _ _ _).mono ?_; rintro e w' ⟨rfl, rfl⟩) | (go_at_call 17; refine (l1Key_any _ _).mono ?_; rintro e w' ⟨rfl, rfl⟩))
                          go_quiet (first | (go_at_call 18; exact Calls.quiet_of (HQ.out _ (below_drewN (below_new _ _) _))))
                          go_wp2_with fail
                          go_roundw
                          case rel => exact ⟨k + 1, hlt, by go_num, HE, below_drewN (below_then HB.out (below_new _ _)) _⟩
                          case measure => simp [intOf]; omega
                      · obtain e9 | e9 := boolor (stK R k (R k).t != 1)
                        · have HE : Hid (hiF R n = 10) := by
                            show hiF R n = 10
                            have hq := HX.out true true true true true false true false false e0 e1 e2 e3 e4 e5 e6 e7 e8
                            rw [HAT.out (by rw [hq]; simp [e9])]; rw [hq]; simp [e9]
                          clear HX HAT HNX
                          have e8' : ((R k).k != 1) = true := by rw [bne, e8]; rfl
                          generalize hst : stK R k (R k).t = st at *
                          have hrt : Hid (stK R k (R k).t = st) := hst
                          have HQ : Hid (∀ w9, Below wr.heap.size wr w9 → Calls Tryd.prog 18 #[.slice (some ⟨b, off, none⟩) k n, .int .i64 (R k).t] w9 fun e w' => e = .returned (.int .i64 st) ∧ ∃ m, w' = w9.drewN m) := fun w9 h9 => by
                            rw [← hrt.out]
                            have h8 : HopsAt wr (some ⟨b, off, none⟩) k R := .inr ⟨b, off, rfl, hbw, fun i hi => (HC.out i (by omega)).block (HB.out.block _ hbl)⟩
                            exact l10State_q k R _ n _ _ (by omega) (h8.below h9)
                          clear hst hrt
                          generalize R k = r at *
                          go_wp2_with (first | (go_at_call 16; refine (l1In_any _ _ _ _).mono ?_; rintro e w' ⟨rfl, rfl⟩) | (go_at_call 17; refine (l1Key_any _ _).mono ?_; rintro e w' ⟨rfl, rfl⟩))
                          go_quiet (first | (go_at_call 18; exact Calls.quiet_of (HQ.out _ (below_drewN (below_new _ _) _))))
                          go_wp2_with fail
                          go_ret
                          exact ⟨ret_int HE.out.symm, below_drewN (below_then HB.out (below_new _ _)) _⟩
                        · have HE : Hid (hiF R (k + 1) = 0) := by
                            have hq := HX.out true true true true true false true false false e0 e1 e2 e3 e4 e5 e6 e7 e8
                            exact HNX.out (by rw [hq]; simp [e9])
                          clear HX HAT HNX
                          have e8' : ((R k).k != 1) = true := by rw [bne, e8]; rfl
                          generalize hst : stK R k (R k).t = st at *
                          have hrt : Hid (stK R k (R k).t = st) := hst
                          have HQ : Hid (∀ w9, Below wr.heap.size wr w9 → Calls Tryd.prog 18 #[.slice (some ⟨b, off, none⟩) k n, .int .i64 (R k).t] w9 fun e w' => e = .returned (.int .i64 st) ∧ ∃ m, w' = w9.drewN m) := fun w9 h9 => by
                            rw [← hrt.out]
                            have h8 : HopsAt wr (some ⟨b, off, none⟩) k R := .inr ⟨b, off, rfl, hbw, fun i hi => (HC.out i (by omega)).block (HB.out.block _ hbl)⟩
                            exact l10State_q k R _ n _ _ (by omega) (h8.below h9)
                          clear hst hrt
                          generalize R k = r at *
                          go_wp2_with (first | (go_at_call 16; refine (l1In_any _ _ _ _).mono ?_; rintro e w' ⟨rfl, rfl⟩) | (go_at_call 17; refine (l1Key_any _ _).mono ?_; rintro e w' ⟨rfl, rfl⟩))
                          go_quiet (first | (go_at_call 18; exact Calls.quiet_of (HQ.out _ (below_drewN (below_new _ _) _))))
                          go_wp2_with fail
                          go_roundw
                          case rel => exact ⟨k + 1, hlt, by go_num, HE, below_drewN (below_then HB.out (below_new _ _)) _⟩
                          case measure => simp [intOf]; omega
                  · obtain e8 | e8 := boolor ((R k).k == 1)
                    · obtain e9 | e9 := boolor (stK R k (R k).t != 0)
                      · have HE : Hid (hiF R n = 10) := by
                          show hiF R n = 10
                          have hq := HX.out true true true true true false false _ true e0 e1 e2 e3 e4 e5 e6 rfl e8
                          rw [HAT.out (by rw [hq]; simp [e9])]; rw [hq]; simp [e9]
                        clear HX HAT HNX
                        have e8' : ((R k).k != 1) = false := by rw [bne, e8]; rfl
                        generalize hst : stK R k (R k).t = st at *
                        have hrt : Hid (stK R k (R k).t = st) := hst
                        have HQ : Hid (∀ w9, Below wr.heap.size wr w9 → Calls Tryd.prog 18 #[.slice (some ⟨b, off, none⟩) k n, .int .i64 (R k).t] w9 fun e w' => e = .returned (.int .i64 st) ∧ ∃ m, w' = w9.drewN m) := fun w9 h9 => by
                          rw [← hrt.out]
                          have h8 : HopsAt wr (some ⟨b, off, none⟩) k R := .inr ⟨b, off, rfl, hbw, fun i hi => (HC.out i (by omega)).block (HB.out.block _ hbl)⟩
                          exact l10State_q k R _ n _ _ (by omega) (h8.below h9)
                        clear hst hrt
                        generalize R k = r at *
                        go_wp2_with (first | (go_at_call 16; refine (l1In_any _ _ _ _).mono ?_; rintro e w' ⟨rfl, rfl⟩) | (go_at_call 17; refine (l1Key_any _ _).mono ?_; rintro e w' ⟨rfl, rfl⟩))
                        go_quiet (first | (go_at_call 18; exact Calls.quiet_of (HQ.out _ (below_drewN (below_new _ _) _))))
                        go_wp2_with fail
                        go_ret
                        exact ⟨ret_int HE.out.symm, below_drewN (below_then HB.out (below_new _ _)) _⟩
                      · have HE : Hid (hiF R (k + 1) = 0) := by
                          have hq := HX.out true true true true true false false _ true e0 e1 e2 e3 e4 e5 e6 rfl e8
                          exact HNX.out (by rw [hq]; simp [e9])
                        clear HX HAT HNX
                        have e8' : ((R k).k != 1) = false := by rw [bne, e8]; rfl
                        generalize hst : stK R k (R k).t = st at *
                        have hrt : Hid (stK R k (R k).t = st) := hst
                        have HQ : Hid (∀ w9, Below wr.heap.size wr w9 → Calls Tryd.prog 18 #[.slice (some ⟨b, off, none⟩) k n, .int .i64 (R k).t] w9 fun e w' => e = .returned (.int .i64 st) ∧ ∃ m, w' = w9.drewN m) := fun w9 h9 => by
                          rw [← hrt.out]
                          have h8 : HopsAt wr (some ⟨b, off, none⟩) k R := .inr ⟨b, off, rfl, hbw, fun i hi => (HC.out i (by omega)).block (HB.out.block _ hbl)⟩
                          exact l10State_q k R _ n _ _ (by omega) (h8.below h9)
                        clear hst hrt
                        generalize R k = r at *
                        go_wp2_with (first | (go_at_call 16; refine (l1In_any _ _ _ _).mono ?_; rintro e w' ⟨rfl, rfl⟩) | (go_at_call 17; refine (l1Key_any _ _).mono ?_; rintro e w' ⟨rfl, rfl⟩))
                        go_quiet (first | (go_at_call 18; exact Calls.quiet_of (HQ.out _ (below_drewN (below_new _ _) _))))
                        go_wp2_with fail
                        go_roundw
                        case rel => exact ⟨k + 1, hlt, by go_num, HE, below_drewN (below_then HB.out (below_new _ _)) _⟩
                        case measure => simp [intOf]; omega
                    · obtain e9 | e9 := boolor (stK R k (R k).t != 1)
                      · have HE : Hid (hiF R n = 10) := by
                          show hiF R n = 10
                          have hq := HX.out true true true true true false false _ false e0 e1 e2 e3 e4 e5 e6 rfl e8
                          rw [HAT.out (by rw [hq]; simp [e9])]; rw [hq]; simp [e9]
                        clear HX HAT HNX
                        have e8' : ((R k).k != 1) = true := by rw [bne, e8]; rfl
                        generalize hst : stK R k (R k).t = st at *
                        have hrt : Hid (stK R k (R k).t = st) := hst
                        have HQ : Hid (∀ w9, Below wr.heap.size wr w9 → Calls Tryd.prog 18 #[.slice (some ⟨b, off, none⟩) k n, .int .i64 (R k).t] w9 fun e w' => e = .returned (.int .i64 st) ∧ ∃ m, w' = w9.drewN m) := fun w9 h9 => by
                          rw [← hrt.out]
                          have h8 : HopsAt wr (some ⟨b, off, none⟩) k R := .inr ⟨b, off, rfl, hbw, fun i hi => (HC.out i (by omega)).block (HB.out.block _ hbl)⟩
                          exact l10State_q k R _ n _ _ (by omega) (h8.below h9)
                        clear hst hrt
                        generalize R k = r at *
                        go_wp2_with (first | (go_at_call 16; refine (l1In_any _ _ _ _).mono ?_; rintro e w' ⟨rfl, rfl⟩) | (go_at_call 17; refine (l1Key_any _ _).mono ?_; rintro e w' ⟨rfl, rfl⟩))
                        go_quiet (first | (go_at_call 18; exact Calls.quiet_of (HQ.out _ (below_drewN (below_new _ _) _))))
                        go_wp2_with fail
                        go_ret
                        exact ⟨ret_int HE.out.symm, below_drewN (below_then HB.out (below_new _ _)) _⟩
                      · have HE : Hid (hiF R (k + 1) = 0) := by
                          have hq := HX.out true true true true true false false _ false e0 e1 e2 e3 e4 e5 e6 rfl e8
                          exact HNX.out (by rw [hq]; simp [e9])
                        clear HX HAT HNX
                        have e8' : ((R k).k != 1) = true := by rw [bne, e8]; rfl
                        generalize hst : stK R k (R k).t = st at *
                        have hrt : Hid (stK R k (R k).t = st) := hst
                        have HQ : Hid (∀ w9, Below wr.heap.size wr w9 → Calls Tryd.prog 18 #[.slice (some ⟨b, off, none⟩) k n, .int .i64 (R k).t] w9 fun e w' => e = .returned (.int .i64 st) ∧ ∃ m, w' = w9.drewN m) := fun w9 h9 => by
                          rw [← hrt.out]
                          have h8 : HopsAt wr (some ⟨b, off, none⟩) k R := .inr ⟨b, off, rfl, hbw, fun i hi => (HC.out i (by omega)).block (HB.out.block _ hbl)⟩
                          exact l10State_q k R _ n _ _ (by omega) (h8.below h9)
                        clear hst hrt
                        generalize R k = r at *
                        go_wp2_with (first | (go_at_call 16; refine (l1In_any _ _ _ _).mono ?_; rintro e w' ⟨rfl, rfl⟩) | (go_at_call 17; refine (l1Key_any _ _).mono ?_; rintro e w' ⟨rfl, rfl⟩))
                        go_quiet (first | (go_at_call 18; exact Calls.quiet_of (HQ.out _ (below_drewN (below_new _ _) _))))
                        go_wp2_with fail
                        go_roundw
                        case rel => exact ⟨k + 1, hlt, by go_num, HE, below_drewN (below_then HB.out (below_new _ _)) _⟩
                        case measure => simp [intOf]; omega
              · obtain e8 | e8 := boolor ((R k).k == 1)
                · obtain e9 | e9 := boolor (stK R k (R k).t != 0)
                  · have HE : Hid (hiF R n = 10) := by
                      show hiF R n = 10
                      have hq := HX.out true true true true false _ _ _ true e0 e1 e2 e3 e4 rfl rfl rfl e8
                      rw [HAT.out (by rw [hq]; simp [e9])]; rw [hq]; simp [e9]
                    clear HX HAT HNX
                    have e8' : ((R k).k != 1) = false := by rw [bne, e8]; rfl
                    generalize hst : stK R k (R k).t = st at *
                    have hrt : Hid (stK R k (R k).t = st) := hst
                    have HQ : Hid (∀ w9, Below wr.heap.size wr w9 → Calls Tryd.prog 18 #[.slice (some ⟨b, off, none⟩) k n, .int .i64 (R k).t] w9 fun e w' => e = .returned (.int .i64 st) ∧ ∃ m, w' = w9.drewN m) := fun w9 h9 => by
                      rw [← hrt.out]
                      have h8 : HopsAt wr (some ⟨b, off, none⟩) k R := .inr ⟨b, off, rfl, hbw, fun i hi => (HC.out i (by omega)).block (HB.out.block _ hbl)⟩
                      exact l10State_q k R _ n _ _ (by omega) (h8.below h9)
                    clear hst hrt
                    generalize R k = r at *
                    go_wp2_with (first | (go_at_call 16; refine (l1In_any _ _ _ _).mono ?_; rintro e w' ⟨rfl, rfl⟩) | (go_at_call 17; refine (l1Key_any _ _).mono ?_; rintro e w' ⟨rfl, rfl⟩))
                    go_quiet (first | (go_at_call 18; exact Calls.quiet_of (HQ.out _ (below_drewN (below_new _ _) _))))
                    go_wp2_with fail
                    go_ret
                    exact ⟨ret_int HE.out.symm, below_drewN (below_then HB.out (below_new _ _)) _⟩
                  · have HE : Hid (hiF R (k + 1) = 0) := by
                      have hq := HX.out true true true true false _ _ _ true e0 e1 e2 e3 e4 rfl rfl rfl e8
                      exact HNX.out (by rw [hq]; simp [e9])
                    clear HX HAT HNX
                    have e8' : ((R k).k != 1) = false := by rw [bne, e8]; rfl
                    generalize hst : stK R k (R k).t = st at *
                    have hrt : Hid (stK R k (R k).t = st) := hst
                    have HQ : Hid (∀ w9, Below wr.heap.size wr w9 → Calls Tryd.prog 18 #[.slice (some ⟨b, off, none⟩) k n, .int .i64 (R k).t] w9 fun e w' => e = .returned (.int .i64 st) ∧ ∃ m, w' = w9.drewN m) := fun w9 h9 => by
                      rw [← hrt.out]
                      have h8 : HopsAt wr (some ⟨b, off, none⟩) k R := .inr ⟨b, off, rfl, hbw, fun i hi => (HC.out i (by omega)).block (HB.out.block _ hbl)⟩
                      exact l10State_q k R _ n _ _ (by omega) (h8.below h9)
                    clear hst hrt
                    generalize R k = r at *
                    go_wp2_with (first | (go_at_call 16; refine (l1In_any _ _ _ _).mono ?_; rintro e w' ⟨rfl, rfl⟩) | (go_at_call 17; refine (l1Key_any _ _).mono ?_; rintro e w' ⟨rfl, rfl⟩))
                    go_quiet (first | (go_at_call 18; exact Calls.quiet_of (HQ.out _ (below_drewN (below_new _ _) _))))
                    go_wp2_with fail
                    go_roundw
                    case rel => exact ⟨k + 1, hlt, by go_num, HE, below_drewN (below_then HB.out (below_new _ _)) _⟩
                    case measure => simp [intOf]; omega
                · obtain e9 | e9 := boolor (stK R k (R k).t != 1)
                  · have HE : Hid (hiF R n = 10) := by
                      show hiF R n = 10
                      have hq := HX.out true true true true false _ _ _ false e0 e1 e2 e3 e4 rfl rfl rfl e8
                      rw [HAT.out (by rw [hq]; simp [e9])]; rw [hq]; simp [e9]
                    clear HX HAT HNX
                    have e8' : ((R k).k != 1) = true := by rw [bne, e8]; rfl
                    generalize hst : stK R k (R k).t = st at *
                    have hrt : Hid (stK R k (R k).t = st) := hst
                    have HQ : Hid (∀ w9, Below wr.heap.size wr w9 → Calls Tryd.prog 18 #[.slice (some ⟨b, off, none⟩) k n, .int .i64 (R k).t] w9 fun e w' => e = .returned (.int .i64 st) ∧ ∃ m, w' = w9.drewN m) := fun w9 h9 => by
                      rw [← hrt.out]
                      have h8 : HopsAt wr (some ⟨b, off, none⟩) k R := .inr ⟨b, off, rfl, hbw, fun i hi => (HC.out i (by omega)).block (HB.out.block _ hbl)⟩
                      exact l10State_q k R _ n _ _ (by omega) (h8.below h9)
                    clear hst hrt
                    generalize R k = r at *
                    go_wp2_with (first | (go_at_call 16; refine (l1In_any _ _ _ _).mono ?_; rintro e w' ⟨rfl, rfl⟩) | (go_at_call 17; refine (l1Key_any _ _).mono ?_; rintro e w' ⟨rfl, rfl⟩))
                    go_quiet (first | (go_at_call 18; exact Calls.quiet_of (HQ.out _ (below_drewN (below_new _ _) _))))
                    go_wp2_with fail
                    go_ret
                    exact ⟨ret_int HE.out.symm, below_drewN (below_then HB.out (below_new _ _)) _⟩
                  · have HE : Hid (hiF R (k + 1) = 0) := by
                      have hq := HX.out true true true true false _ _ _ false e0 e1 e2 e3 e4 rfl rfl rfl e8
                      exact HNX.out (by rw [hq]; simp [e9])
                    clear HX HAT HNX
                    have e8' : ((R k).k != 1) = true := by rw [bne, e8]; rfl
                    generalize hst : stK R k (R k).t = st at *
                    have hrt : Hid (stK R k (R k).t = st) := hst
                    have HQ : Hid (∀ w9, Below wr.heap.size wr w9 → Calls Tryd.prog 18 #[.slice (some ⟨b, off, none⟩) k n, .int .i64 (R k).t] w9 fun e w' => e = .returned (.int .i64 st) ∧ ∃ m, w' = w9.drewN m) := fun w9 h9 => by
                      rw [← hrt.out]
                      have h8 : HopsAt wr (some ⟨b, off, none⟩) k R := .inr ⟨b, off, rfl, hbw, fun i hi => (HC.out i (by omega)).block (HB.out.block _ hbl)⟩
                      exact l10State_q k R _ n _ _ (by omega) (h8.below h9)
                    clear hst hrt
                    generalize R k = r at *
                    go_wp2_with (first | (go_at_call 16; refine (l1In_any _ _ _ _).mono ?_; rintro e w' ⟨rfl, rfl⟩) | (go_at_call 17; refine (l1Key_any _ _).mono ?_; rintro e w' ⟨rfl, rfl⟩))
                    go_quiet (first | (go_at_call 18; exact Calls.quiet_of (HQ.out _ (below_drewN (below_new _ _) _))))
                    go_wp2_with fail
                    go_roundw
                    case rel => exact ⟨k + 1, hlt, by go_num, HE, below_drewN (below_then HB.out (below_new _ _)) _⟩
                    case measure => simp [intOf]; omega
            · have HE : Hid (hiF R n = 3) := by
                show hiF R n = 3
                have hq := HX.out true true true false _ _ _ _ _ e0 e1 e2 e3 rfl rfl rfl rfl rfl
                rw [HAT.out (by rw [hq]; simp)]; rw [hq]; simp
              clear HX HAT HNX
              generalize R k = r at *
              go_wp2_with (first | (go_at_call 16; refine (l1In_any _ _ _ _).mono ?_; rintro e w' ⟨rfl, rfl⟩) | (go_at_call 17; refine (l1Key_any _ _).mono ?_; rintro e w' ⟨rfl, rfl⟩))
              go_ret
              exact ⟨ret_int HE.out.symm, below_then HB.out (below_new _ _)⟩
          · have HE : Hid (hiF R n = 3) := by
              show hiF R n = 3
              have hq := HX.out true true false _ _ _ _ _ _ e0 e1 e2 rfl rfl rfl rfl rfl rfl
              rw [HAT.out (by rw [hq]; simp)]; rw [hq]; simp
            clear HX HAT HNX
            generalize R k = r at *
            go_wp2_with (first | (go_at_call 16; refine (l1In_any _ _ _ _).mono ?_; rintro e w' ⟨rfl, rfl⟩) | (go_at_call 17; refine (l1Key_any _ _).mono ?_; rintro e w' ⟨rfl, rfl⟩))
            go_ret
            exact ⟨ret_int HE.out.symm, below_then HB.out (below_new _ _)⟩
        · have HE : Hid (hiF R n = 3) := by
            show hiF R n = 3
            have hq := HX.out true false _ _ _ _ _ _ _ e0 e1 rfl rfl rfl rfl rfl rfl rfl
            rw [HAT.out (by rw [hq]; simp)]; rw [hq]; simp
          clear HX HAT HNX
          generalize R k = r at *
          go_wp2_with (first | (go_at_call 16; refine (l1In_any _ _ _ _).mono ?_; rintro e w' ⟨rfl, rfl⟩) | (go_at_call 17; refine (l1Key_any _ _).mono ?_; rintro e w' ⟨rfl, rfl⟩))
          go_ret
          exact ⟨ret_int HE.out.symm, below_then HB.out (below_new _ _)⟩
      · have HE : Hid (hiF R n = 3) := by
          show hiF R n = 3
          have hq := HX.out false _ _ _ _ _ _ _ _ e0 rfl rfl rfl rfl rfl rfl rfl rfl
          rw [HAT.out (by rw [hq]; simp)]; rw [hq]; simp
        clear HX HAT HNX
        generalize R k = r at *
        go_wp2_with (first | (go_at_call 16; refine (l1In_any _ _ _ _).mono ?_; rintro e w' ⟨rfl, rfl⟩) | (go_at_call 17; refine (l1Key_any _ _).mono ?_; rintro e w' ⟨rfl, rfl⟩))
        go_ret
        exact ⟨ret_int HE.out.symm, below_then HB.out (below_new _ _)⟩
    · have hkn : k = n := by omega
      have hnl : ¬ ((k : Int) < (n : Int)) := by omega
      have HE : Hid (hiF R n = 0) := by rw [← hkn]; exact HZ
      go_wp2_with fail
      go_ret
      exact ⟨ret_int HE.out.symm, HB.out⟩
theorem specHf_any (n : Nat) (R : Nat → Hp) (a : Option Addr) (w : World) (hn : n ≤ 1048576) (h : HopsAt w a n R) :
    Calls Tryd.prog 10 #[.slice a n n] w fun e w' => e = .returned (.int .i64 (hsC R n)) ∧ Below w.heap.size w w' := by
  by_cases hs : n ≤ 400
  · rw [hsC_few hs]
    rcases h with rfl | ⟨b, off, rfl, hbl, hc⟩
    · go_enter Tryd.func10, Tryd.ntmps10
      go_wp2_with fail
      go_loopw [3, 4, 5] (fun i _ _ wr => i = .int .i64 0 ∧ Below w.heap.size w wr) (fun _ _ _ _ => 0)
      case atStart => exact ⟨rfl, Below.refl _ _⟩
      case round =>
        obtain ⟨rfl, hB⟩ := hrel
        go_wp2_with fail
        go_ret
        exact ⟨rfl, hB⟩
    · exact specHf_some n R b off w hs hbl hc
  · have HE : Hid (hsC R n = 2) := hsC_many (by omega)
    have hle : ((400 : Int) < (n : Int)) := by omega
    go_enter Tryd.func10, Tryd.ntmps10
    go_wp2_with fail
    go_ret
    exact ⟨ret_int HE.out.symm, Below.refl _ _⟩
end Go.Proofs.YtdgginfagbmooaaDoor
