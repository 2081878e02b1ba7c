/- spec.DiskFault. -/
import Derived.Test.YtnplheilojhpmaaGreatQDf
namespace Go.Proofs.YtnplheilojhpmaaGreat
open Go.RowKit Go.Deep
set_option linter.unusedVariables false
set_option maxRecDepth 20000

theorem l1In_q (v lo hi : Int) (w : World) : Calls Tryz.prog 79 #[.int .i64 v, .int .i64 lo, .int .i64 hi] w fun e w' => e = .returned (.bool (inB v lo hi)) ∧ ∃ n, w' = w.drewN n := by
  refine (l1In_any v lo hi w).mono ?_
  rintro e w' ⟨rfl, rfl⟩
  exact ⟨rfl, 0, rfl⟩
set_option maxHeartbeats 2000000 in
theorem specDf_any (D : Dk) (a a' : Option Addr) (cap cap' : Nat) (w : World) (hs : Small D) (h : DiskAt w a a' D) :
    Calls Tryz.prog 47 #[.agg #[.slice a D.n cap, .slice a' D.m cap']] w fun e w' => e = .returned (.int .i64 (df D)) ∧ Below w.heap.size w w' := by
  have hn := hs.n
  have hm := hs.m
  generalize hdf : df D = c
  unfold df at hdf
  obtain ⟨n, L, Z, m, P, T, M, Y⟩ := D
  obtain ⟨h1, h2⟩ := h
  dsimp only at *
  have HA : Hid (PagesAt w a n L Z) := h1
  have HA' : Hid (LoosesAt w a' m P T M Y) := h2
  have HDF : Hid ((if inB n 1 8 = false then 1 else if pgf L n 0 = 1 then 1 else if 60 < m then 2 else lsf n P T M m 0) = c) := hdf
  clear h1 h2 hs hdf
  by_cases hr1 : n < 1
  · have HD1 : Hid (1 = c) := by have h := HDF.out; rw [if_pos (by simp [inB]; omega)] at h; exact h
    clear HDF
    have hr2 : decide ((n : Int) < 1) = true := by simp; omega
    go_enter Tryz.func47, Tryz.ntmps47
    go_wp2_with fail
    go_ret
    exact ⟨ret_int HD1.out, below_new _ _⟩
  · have hr2 : decide ((n : Int) < 1) = false := by simp; omega
    by_cases hr3 : 8 < n
    · have HD1 : Hid (1 = c) := by have h := HDF.out; rw [if_pos (by simp [inB]; omega)] at h; exact h
      clear HDF
      go_enter Tryz.func47, Tryz.ntmps47
      go_wp2_with fail
      go_ret
      exact ⟨ret_int HD1.out, below_new _ _⟩
    · have HD1 : Hid ((if pgf L n 0 = 1 then 1 else if 60 < m then 2 else lsf n P T M m 0) = c) := by have h := HDF.out; rw [if_neg (by simp [inB]; omega)] at h; exact h
      clear HDF
      go_enter Tryz.func47, Tryz.ntmps47
      go_wp2_with fail
      go_loop [3] (fun i => ∃ k : Nat, k ≤ n ∧ i = .int .i64 k ∧ Hid (pgf L n 0 = pgf L (n - k) k)) (fun i => n - (intOf i).toNat)
      case atStart => exact ⟨0, Nat.zero_le _, rfl, rfl⟩
      case round =>
        obtain ⟨k, hk, rfl, HC⟩ := hrel
        by_cases hlt : k < n
        · rcases HA.out.below (below_new w (.cells #[.slice a n cap, .slice a' m cap'] 41)) with h | ⟨b, off, rfl, hl, hc⟩
          · omega
          obtain ⟨ai, ci, h1, -⟩ := hc k hlt
          have HD : Hid (pgf L n 0 = _) := HC.out.trans (pgf_at hlt)
          clear HC hc
          by_cases hc1 : L k = 48
          · have HC : Hid (pgf L n 0 = pgf L (n - (k + 1)) (k + 1)) := HD.out.trans (if_pos hc1)
            clear HD
            go_wp2
            go_round
            case rel => exact ⟨k + 1, hlt, by go_num, HC⟩
            case measure => simp [intOf]; omega
          · have HC : Hid (pgf L n 0 = 1) := HD.out.trans (if_neg hc1)
            clear HD
            go_wp2
            go_ret
            exact ⟨ret_int (by rw [← HD1.out, if_pos HC.out]), below_new _ _⟩
        · have HC0 : Hid (pgf L n 0 = 0) := by
            refine HC.out.trans ?_
            rw [show n - k = 0 by omega, pgf]
          clear HC
          by_cases hc2 : 60 < m
          · go_wp2
            go_ret
            exact ⟨ret_int (by rw [← HD1.out, if_neg (by rw [HC0.out]; omega), if_pos hc2]), below_new _ _⟩
          · have HD2 : Hid (lsf n P T M m 0 = c) := by have h := HD1.out; rw [if_neg (by rw [HC0.out]; omega), if_neg (by omega)] at h; exact h
            clear HD1 HC0
            go_wp2_with fail
            go_loopw [4] (fun i wr => ∃ j : Nat, j ≤ m ∧ i = .int .i64 j ∧ Hid (lsf n P T M m 0 = lsf n P T M (m - j) j) ∧ Below w.heap.size w wr ∧ Box2 wr w.heap.size (.slice a n cap) (.slice a' m cap')) (fun i _ => m - (intOf i).toNat)
            case atStart => exact ⟨0, Nat.zero_le _, rfl, rfl, below_new _ _, Box2.new _ _ _ _⟩
            case round =>
              obtain ⟨j, hj, rfl, HC, hb, hbx⟩ := hrel
              clear hlt
              by_cases hlt : j < m
              · rcases HA'.out.below hb with h | ⟨b, off, rfl, hl, hc⟩
                · omega
                obtain ⟨h0, h1, ai, ci, h2, -⟩ := hc j hlt
                have HBX : Hid (Box2 wr w.heap.size (.slice a n cap) (.slice (some ⟨b, off, none⟩) m cap')) := hbx
                obtain ⟨q0, q1⟩ := hbx
                have hlt' : (j : Int) < (m : Int) := by omega
                have HB : Hid (Below w.heap.size w wr) := hb
                have HE : Hid (lsf n P T M m 0 = _) := HC.out.trans (lsf_at hlt)
                clear HC hc hb
                by_cases hc1 : inB (P j) 0 ((n : Int) - 1) = true
                · by_cases hc2 : inB (T j) 0 2 = true
                  · by_cases hc3 : M j = 16
                    · have HC : Hid (lsf n P T M m 0 = lsf n P T M (m - (j + 1)) (j + 1)) := by
                        refine HE.out.trans ?_
                        rw [if_neg (by simp [hc1, hc2]), if_pos hc3]
                      clear HE
                      go_wp2_with fail
                      go_quiet (first | (go_at_call 79; exact Calls.quiet_of (l1In_q _ _ _ _)))
                      go_wp2
                      go_roundw
                      case rel => exact ⟨j + 1, hlt, by go_num, HC, by repeat (first | exact HB.out | apply Below.drew | refine below_drewN ?_ _), HBX.out⟩
                      case measure => simp [intOf]; omega
                    · have HC : Hid (lsf n P T M m 0 = 1) := by
                        refine HE.out.trans ?_
                        rw [if_neg (by simp [hc1, hc2]), if_neg hc3]
                      clear HE
                      go_wp2_with fail
                      go_quiet (first | (go_at_call 79; exact Calls.quiet_of (l1In_q _ _ _ _)))
                      go_wp2
                      go_ret
                      exact ⟨ret_int (HC.out.symm.trans HD2.out), by repeat (first | exact HB.out | apply Below.drew | refine below_drewN ?_ _)⟩
                  · have hc4 : inB (T j) 0 2 = false := by simpa using hc2
                    have HC : Hid (lsf n P T M m 0 = 3) := by
                      refine HE.out.trans ?_
                      rw [if_pos (.inr hc4)]
                    clear HE hc2
                    go_wp2_with fail
                    go_quiet (first | (go_at_call 79; exact Calls.quiet_of (l1In_q _ _ _ _)))
                    go_wp2
                    go_ret
                    exact ⟨ret_int (HC.out.symm.trans HD2.out), by repeat (first | exact HB.out | apply Below.drew | refine below_drewN ?_ _)⟩
                · have hc4 : inB (P j) 0 ((n : Int) - 1) = false := by simpa using hc1
                  have HC : Hid (lsf n P T M m 0 = 3) := by
                    refine HE.out.trans ?_
                    rw [if_pos (.inl hc4)]
                  clear HE hc1
                  go_wp2_with fail
                  go_quiet (first | (go_at_call 79; exact Calls.quiet_of (l1In_q _ _ _ _)))
                  go_wp2
                  go_ret
                  exact ⟨ret_int (HC.out.symm.trans HD2.out), by repeat (first | exact HB.out | apply Below.drew | refine below_drewN ?_ _)⟩
              · have HC2 : Hid (lsf n P T M m 0 = 0) := by
                  refine HC.out.trans ?_
                  rw [show m - j = 0 by omega, lsf]
                have HBX : Hid (Box2 wr w.heap.size (.slice a n cap) (.slice a' m cap')) := hbx
                obtain ⟨q0, q1⟩ := hbx
                clear HC
                go_wp2
                go_ret
                exact ⟨ret_int (HC2.out.symm.trans HD2.out), hb⟩
end Go.Proofs.YtnplheilojhpmaaGreat
