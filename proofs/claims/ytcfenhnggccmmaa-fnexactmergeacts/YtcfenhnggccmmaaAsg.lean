/- The fault of sessions: both functions whole. -/
import Derived.Test.YtcfenhnggccmmaaAsf
namespace Go.Proofs.Ytcfenhnggccmmaa
open Go.ChangeShapes Go.WideShapes Go.ChangeAt Go.RowKit Go.Deep Go.Joins
set_option linter.unusedVariables false
set_option maxRecDepth 20000

set_option maxHeartbeats 4000000 in
theorem implSess_any (n : Nat) (T : Nat → Al) (a : Option Addr) (cap : Nat) (w : World) (hn : n ≤ 1048576) (hL : SmAl n T) (h : AlsAt w a n T) :
    Calls Try.prog 10 #[.slice a n cap] w fun e w' => e = .returned (.int .i64 (sF n T)) ∧ Below w.heap.size w w' := by
  have HA : Hid (AlsAt w a n T) := h
  have HL : Hid (SmAl n T) := hL
  generalize hC : sF n T = C
  have HC : Hid (C = if inB n 1 5 = true then (if an9 (tooLong T) n 0 = true then 2 else fz9 (fun i => lF (T i)) n 0) else 2) := hC.symm
  clear h hL hC
  obtain hb | hb := (bool_or9 (inB n 1 5)).symm
  · have HE : Hid (C = 2) := by have := HC.out; rwa [hb, if_neg (by simp)] at this
    go_enter Try.func10, Try.ntmps10
    go_wp2_with fail
    refine (within_any n 1 5 _).mono ?_
    rintro e w1 ⟨rfl, rfl⟩
    rw [hb]
    clear HC hb
    go_wp2_with fail
    go_ret
    exact ⟨ret_int HE.out.symm, Below.refl _ _⟩
  obtain hl | hl := bool_or9 (an9 (tooLong T) n 0)
  · have HE : Hid (C = 2) := by have := HC.out; rwa [hb, if_pos rfl, hl, if_pos rfl] at this
    go_enter Try.func10, Try.ntmps10
    go_wp2_with fail
    refine (within_any n 1 5 _).mono ?_
    rintro e w1 ⟨rfl, rfl⟩
    rw [hb]
    go_wp2_with fail
    refine (anyLong_any n T a cap _ hn HL.out HA.out).mono ?_
    rintro e w1 ⟨rfl, rfl⟩
    rw [hl]
    clear HC hb hl
    go_wp2_with fail
    go_ret
    exact ⟨ret_int HE.out.symm, Below.refl _ _⟩
  have HE : Hid (C = fz9 (fun i => lF (T i)) n 0) := by have := HC.out; rwa [hb, if_pos rfl, hl, if_neg (by simp)] at this
  go_enter Try.func10, Try.ntmps10
  go_wp2_with fail
  refine (within_any n 1 5 _).mono ?_
  rintro e w1 ⟨rfl, hw1⟩
  obtain rfl := hw1.symm
  rw [hb]
  go_wp2_with fail
  refine (anyLong_any n T a cap _ hn HL.out HA.out).mono ?_
  rintro e w1 ⟨rfl, hw1⟩
  obtain rfl := hw1.symm
  rw [hl]
  have hfew : n ≤ 5 := by simp only [inB, decide_eq_true_eq, Bool.and_eq_true] at hb; omega
  clear HC hb hl
  go_wp2_with fail
  go_loopw [4, 6, 7, 18] (fun _ _ _ i wr => ∃ k : Nat, k ≤ n ∧ i = .int .i64 k ∧ Hid (C = fz9 (fun i => lF (T i)) (n - k) k) ∧ Hid (Below w.heap.size w wr)) (fun _ _ _ i _ => n - (intOf i).toNat)
  case atStart => exact ⟨0, Nat.zero_le _, rfl, HE, Below.refl _ _⟩
  case round =>
    obtain ⟨k, hk, rfl, HF, HB⟩ := hrel
    by_cases hlt : k < n
    · have hlt' : (k : Int) < (n : Int) := by omega
      have hk0 : (0 : Int) ≤ (k : Int) := by omega
      rcases HA.out.below HB.out with h | ⟨b, off, rfl, hl, hc⟩
      · omega
      obtain ⟨a0, c0, q0, hI, -⟩ := hc k hlt
      have HI : Hid (AcsAt wr a0 (T k).n (T k).R) := hI
      have HE0 : Hid (C = if lF (T k) = 0 then fz9 (fun i => lF (T i)) (n - (k + 1)) (k + 1) else lF (T k)) := HF.out.trans (fz9_at _ hlt)
      have hTk := HL.out k hlt
      have HD : Hid (lF (T k) = fz9 (fun j => aF ((T k).R j)) (T k).n 0) := rfl
      clear hc hI HF HE
      generalize hm : (T k).n = m at *
      generalize hR : (T k).R = R at *
      generalize hG : lF (T k) = G at *
      clear hm hR hG
      rename World => wo
      go_wp2_with fail
      go_loopw [6, 7, 24] (fun _ _ i wq => ∃ j : Nat, j ≤ m ∧ i = .int .i64 j ∧ Hid (G = fz9 (fun j => aF (R j)) (m - j) j) ∧ Hid (Below wo.heap.size wo wq)) (fun _ _ i _ => m - (intOf i).toNat)
      case atStart => exact ⟨0, Nat.zero_le _, rfl, HD, Below.refl _ _⟩
      case round =>
        obtain ⟨j, hj, rfl, HG, HBq⟩ := hrel
        by_cases hjt : j < m
        · have hjt' : (j : Int) < (m : Int) := by omega
          have hj0 : (0 : Int) ≤ (j : Int) := by omega
          rcases HI.out.below HBq.out with h | ⟨b2, off2, rfl, hl2, hc2⟩
          · omega
          obtain ⟨y0, y1, y2, y3⟩ := hc2 j hjt
          have HG0 : Hid (G = if aF (R j) = 0 then fz9 (fun j => aF (R j)) (m - (j + 1)) (j + 1) else aF (R j)) := HG.out.trans (fz9_at _ hjt)
          have HBB : Hid (Below w.heap.size w wr) := below_then HB.out HBq.out
          clear hc2 HG
          go_wp2_with fail
          refine (actFault_any (R j) _).mono ?_
          rintro e w2 ⟨rfl, hb2⟩
          have HB2 : Hid (Below w.heap.size w w2) := below_then HBB.out (below_then (below_new _ _) hb2)
          have HB3 : Hid (Below wo.heap.size wo w2) := below_then HBq.out (below_then (below_new _ _) hb2)
          clear hb2 y0 y1 y2 y3 HBB
          by_cases hz : aF (R j) = 0
          · rw [hz]
            have HG1 : Hid (G = fz9 (fun j => aF (R j)) (m - (j + 1)) (j + 1)) := by have := HG0.out; rwa [if_pos hz] at this
            clear HG0 hz
            go_wp2_with fail
            go_roundw
            case rel => exact ⟨j + 1, hjt, by go_num, HG1, HB3⟩
            case measure => simp [intOf]; omega
          · have hne : (aF (R j) != 0) = true := by simpa using hz
            have HG1 : Hid (G = aF (R j)) := by have := HG0.out; rwa [if_neg hz] at this
            generalize aF (R j) = v at *
            have HC1 : Hid (C = v) := by have := HE0.out; rw [HG1.out, if_neg hz] at this; exact this
            clear HG0 hz HE0
            go_wp2_with fail
            go_ret
            exact ⟨ret_int HC1.out.symm, HB2.out⟩
        · have hG : G = 0 := by
            have h := HG.out
            rw [show m - j = 0 by omega] at h
            exact h
          have HC1 : Hid (C = fz9 (fun i => lF (T i)) (n - (k + 1)) (k + 1)) := by have := HE0.out; rwa [if_pos hG] at this
          have HBB : Hid (Below w.heap.size w wr) := below_then HB.out HBq.out
          have hnl : ¬ ((j : Int) < (m : Int)) := by omega
          clear HG HE0 hG HBq
          go_wp2_with fail
          go_roundw
          case rel => exact ⟨k + 1, hlt, by go_num, HC1, HBB⟩
          case measure => simp [intOf]; omega
    · have hC0 : Hid (C = 0) := by
        have h := HF.out
        rw [show n - k = 0 by omega] at h
        exact h
      have hnl : ¬ ((k : Int) < (n : Int)) := by omega
      go_wp2_with fail
      go_ret
      exact ⟨ret_int hC0.out.symm, HB.out⟩
end Go.Proofs.Ytcfenhnggccmmaa
