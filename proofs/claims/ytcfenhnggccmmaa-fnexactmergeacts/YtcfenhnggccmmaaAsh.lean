/- The fault of sessions: the model whole. -/
import Derived.Test.YtcfenhnggccmmaaAsg
namespace Go.Proofs.Ytcfenhnggccmmaa
open Go.ChangeShapes Go.WideShapes Go.ChangeAt Go.RowKit Go.Deep Go.Joins
set_option linter.unusedVariables false
set_option maxRecDepth 20000

set_option maxHeartbeats 4000000 in
theorem specSess_any (n : Nat) (T : Nat → Al) (a : Option Addr) (cap : Nat) (w : World) (hn : n ≤ 1048576) (hL : SmAl n T) (h : AlsAt w a n T) :
    Calls Try.prog 8 #[.slice a n cap] w fun e w' => e = .returned (.int .i64 (sF n T)) ∧ w' = w := by
  have HA : Hid (AlsAt w a n T) := h
  have HL : Hid (SmAl n T) := hL
  generalize hC : sF n T = C
  have HC : Hid (C = if inB n 1 5 = true then (if an9 (tooLong T) n 0 = true then 2 else fz9 (fun i => lF (T i)) n 0) else 2) := hC.symm
  clear h hL hC
  by_cases h1 : (n : Int) < 1
  · have HE : Hid (C = 2) := by have := HC.out; rwa [show inB n 1 5 = false by simp [inB]; omega, if_neg (by simp)] at this
    clear HC
    go_enter Try.func8, Try.ntmps8
    go_wp2_with fail
    go_ret
    exact ⟨ret_int HE.out.symm, rfl⟩
  by_cases h5 : (n : Int) > 5
  · have HE : Hid (C = 2) := by have := HC.out; rwa [show inB n 1 5 = false by simp [inB]; omega, if_neg (by simp)] at this
    clear HC
    go_enter Try.func8, Try.ntmps8
    go_wp2_with fail
    go_ret
    exact ⟨ret_int HE.out.symm, rfl⟩
  have HE0 : Hid (C = if an9 (tooLong T) n 0 = true then 2 else fz9 (fun i => lF (T i)) n 0) := by have := HC.out; rwa [show inB n 1 5 = true by simp [inB]; omega, if_pos rfl] at this
  clear HC
  go_enter Try.func8, Try.ntmps8
  go_wp2_with fail
  go_loop [3] (fun i => ∃ k : Nat, k ≤ n ∧ i = .int .i64 k ∧ Hid (an9 (tooLong T) n 0 = an9 (tooLong T) (n - k) k)) (fun i => n - (intOf i).toNat)
  case atStart => exact ⟨0, Nat.zero_le _, rfl, rfl⟩
  case round =>
    obtain ⟨k, hk, rfl, HF⟩ := hrel
    by_cases hlt : k < n
    · have hlt' : (k : Int) < (n : Int) := by omega
      have hk0 : (0 : Int) ≤ (k : Int) := by omega
      rcases HA.out with h | ⟨b, off, rfl, hl, hc⟩
      · omega
      obtain ⟨a0, c0, q0, -, -⟩ := hc k hlt
      have HF0 := HF.out.trans (an9_at _ hlt)
      have hTk := HL.out k hlt
      clear hc HF
      by_cases hq : ((T k).n : Int) > 12
      · have HE : Hid (C = 2) := by have := HE0.out; rwa [HF0, if_pos (show tooLong T k = true by simp [tooLong]; omega), if_pos rfl] at this
        clear HE0 HF0
        go_wp2_with fail
        go_ret
        exact ⟨ret_int HE.out.symm, rfl⟩
      · rw [if_neg (show ¬ tooLong T k = true by simp [tooLong]; omega)] at HF0
        have HF1 : Hid (an9 (tooLong T) n 0 = an9 (tooLong T) (n - (k + 1)) (k + 1)) := HF0
        clear HF0
        go_wp2_with fail
        go_round
        case rel => exact ⟨k + 1, hlt, by go_num, HF1⟩
        case measure => simp [intOf]; omega
    · have HE : Hid (C = fz9 (fun i => lF (T i)) n 0) := by
        have h := HF.out
        rw [show n - k = 0 by omega] at h
        have := HE0.out
        rw [h, if_neg (by simp [an9])] at this
        exact this
      have hnl : ¬ ((k : Int) < (n : Int)) := by omega
      clear HE0 HF
      go_wp2_with fail
      go_loop [4, 5] (fun i _ => ∃ k : Nat, k ≤ n ∧ i = .int .i64 k ∧ Hid (C = fz9 (fun i => lF (T i)) (n - k) k)) (fun i _ => n - (intOf i).toNat)
      case atStart => exact ⟨0, Nat.zero_le _, rfl, HE⟩
      case round =>
        clear hnl hlt hk
        obtain ⟨k, hk, rfl, HF⟩ := hrel
        by_cases hlt : k < n
        · have hlt' : (k : Int) < (n : Int) := by omega
          have hk0 : (0 : Int) ≤ (k : Int) := by omega
          rcases HA.out with h | ⟨b, off, rfl, hl, hc⟩
          · omega
          obtain ⟨a0, c0, q0, hI, -⟩ := hc k hlt
          have HI : Hid (AcsAt w a0 (T k).n (T k).R) := hI
          have HE0 : Hid (C = if lF (T k) = 0 then fz9 (fun i => lF (T i)) (n - (k + 1)) (k + 1) else lF (T k)) := HF.out.trans (fz9_at _ hlt)
          have hTk := HL.out k hlt
          have HD : Hid (lF (T k) = fz9 (fun j => aF ((T k).R j)) (T k).n 0) := rfl
          clear hc hI HF HE
          generalize hm : (T k).n = m at *
          generalize hR : (T k).R = R at *
          generalize hG : lF (T k) = G at *
          clear hm hR hG
          go_wp2_with fail
          go_loop [5] (fun i => ∃ j : Nat, j ≤ m ∧ i = .int .i64 j ∧ Hid (G = fz9 (fun j => aF (R j)) (m - j) j)) (fun i => m - (intOf i).toNat)
          case atStart => exact ⟨0, Nat.zero_le _, rfl, HD⟩
          case round =>
            obtain ⟨j, hj, rfl, HG⟩ := hrel
            by_cases hjt : j < m
            · have hjt' : (j : Int) < (m : Int) := by omega
              have hj0 : (0 : Int) ≤ (j : Int) := by omega
              rcases HI.out with h | ⟨b2, off2, rfl, hl2, hc2⟩
              · omega
              obtain ⟨y0, y1, y2, y3⟩ := hc2 j hjt
              have HG0 : Hid (G = if aF (R j) = 0 then fz9 (fun j => aF (R j)) (m - (j + 1)) (j + 1) else aF (R j)) := HG.out.trans (fz9_at _ hjt)
              have HAF : Hid (aF (R j) = if inB (R j).k 2 7 = true then (if (R j).t = 0 then 0 else 1) else 3) := rfl
              clear hc2 HG
              generalize aF (R j) = v at *
              go_wp2_with fail
              refine (l1In_any (R j).k 2 7 _).mono ?_
              rintro e w2 ⟨rfl, hw2⟩
              obtain rfl := hw2.symm
              obtain hb | hb := bool_or9 (inB (R j).k 2 7)
              · rw [hb]
                by_cases ht : (R j).t = 0
                · have hv : v = 0 := by have := HAF.out; rwa [hb, if_pos rfl, if_pos ht] at this
                  have HG1 : Hid (G = fz9 (fun j => aF (R j)) (m - (j + 1)) (j + 1)) := by have := HG0.out; rwa [if_pos hv] at this
                  have hte : ((R j).t != 0) = false := by simpa using ht
                  clear HG0 HAF hv hb
                  go_wp2_with fail
                  go_round
                  case rel => exact ⟨j + 1, hjt, by go_num, HG1⟩
                  case measure => simp [intOf]; omega
                · have hv : v = 1 := by have := HAF.out; rwa [hb, if_pos rfl, if_neg ht] at this
                  have hte : ((R j).t != 0) = true := by simpa using ht
                  have HC1 : Hid (C = 1) := by have := HE0.out; have h2 := HG0.out; rw [hv, if_neg (by decide)] at h2; rw [h2, if_neg (by decide)] at this; exact this
                  clear HG0 HAF hv hb HE0
                  go_wp2_with fail
                  go_ret
                  exact ⟨ret_int HC1.out.symm, rfl⟩
              · rw [hb]
                have hv : v = 3 := by have := HAF.out; rwa [hb, if_neg (by simp)] at this
                have HC1 : Hid (C = 3) := by have := HE0.out; have h2 := HG0.out; rw [hv, if_neg (by decide)] at h2; rw [h2, if_neg (by decide)] at this; exact this
                clear HG0 HAF hv hb HE0
                go_wp2_with fail
                go_ret
                exact ⟨ret_int HC1.out.symm, rfl⟩
            · have hG : G = 0 := by
                have h := HG.out
                rw [show m - j = 0 by omega] at h
                exact h
              have HC1 : Hid (C = fz9 (fun i => lF (T i)) (n - (k + 1)) (k + 1)) := by have := HE0.out; rwa [if_pos hG] at this
              have hnl : ¬ ((j : Int) < (m : Int)) := by omega
              clear HG HE0 hG
              go_wp2_with fail
              go_round
              case rel => exact ⟨k + 1, hlt, by go_num, HC1⟩
              case measure => simp [intOf]; omega
        · have hC0 : Hid (C = 0) := by
            have h := HF.out
            rw [show n - k = 0 by omega] at h
            exact h
          have hnl : ¬ ((k : Int) < (n : Int)) := by omega
          go_wp2_with fail
          go_ret
          exact ⟨ret_int hC0.out.symm, rfl⟩
end Go.Proofs.Ytcfenhnggccmmaa
