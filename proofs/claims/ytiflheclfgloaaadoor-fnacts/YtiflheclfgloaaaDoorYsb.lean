/- A word as a number: the program's numberIn, the model's l15Number. -/
import Derived.Test.YtiflheclfgloaaaDoorYsa
namespace Go.Proofs.YtiflheclfgloaaaDoor
open Go.RowKit Go.Deep
set_option linter.unusedVariables false
set_option maxRecDepth 20000

theorem numV_ok {s : ByteArray} (h9 : s.size ≤ 9) (h : dok s s.size = true) : numB s = true ∧ numV s = dv s s.size := by
  have : numB s = true := by simp [numB, h9, h]
  exact ⟨this, by simp [numV, this]⟩
theorem numV_no {s : ByteArray} (h : dok s s.size = false) : numB s = false ∧ numV s = 0 := by
  have : numB s = false := by simp [numB, h]
  exact ⟨this, by simp [numV, this]⟩
theorem ret_num {s : ByteArray} {b : Bool} {v : Int} (h : numB s = b ∧ numV s = v) : Ending.returned (.tuple #[.int .i64 v, .bool b]) = Ending.returned (.tuple #[.int .i64 (numV s), .bool (numB s)]) := by rw [h.1, h.2]
theorem numberIn_any (s : ByteArray) (w : World) : Calls Tryd.prog 20 #[.string s] w fun e w' => e = .returned (.tuple #[.int .i64 (numV s), .bool (numB s)]) ∧ w' = w := by
  by_cases h9 : s.size ≤ 9
  · go_enter Tryd.func20, Tryd.ntmps20
    have h9' : (s.size : Int) ≤ 9 := by omega
    go_wp2_with fail
    go_loopw [4, 5, 6, 12] (fun v _ _ i wr => ∃ k : Nat, k ≤ s.size ∧ i = .int .i64 k ∧ Hid (wr = w) ∧ v = .int .i64 (dv s k) ∧ Hid (dok s k = true)) (fun _ _ _ i _ => s.size - (intOf i).toNat)
    case atStart => exact ⟨0, by omega, rfl, rfl, rfl, rfl⟩
    case round =>
      obtain ⟨k, hk, rfl, HW, rfl, HD⟩ := hrel
      by_cases hlt : k < s.size
      · have hlt' : (k : Int) < (s.size : Int) := by omega
        have h0 : (0 : Int) ≤ (k : Int) := by omega
        have hbt := bt_at s k hlt
        have hbd := bt_bd s k
        have hd := dv_small HD.out (by omega : k ≤ 9)
        have hd2 := dv_bd HD.out
        have hp : 10 ^ k ≤ 10 ^ 8 := Nat.pow_le_pow_right (by decide) (by omega)
        have hd3 : dv s k < 100000000 := by omega
        clear hd2 hp
        by_cases hdig : 48 ≤ bt s k ∧ bt s k ≤ 57
        · have g1 : decide (bt s k < 48) = false := by simp; omega
          have g2 : decide (57 < bt s k) = false := by simp; omega
          have HN : Hid (dok s (k + 1) = true) := by show dok s (k + 1) = true; simp only [dok, HD.out, Bool.true_and, decide_eq_true_eq]; exact hdig
          have e1 : dv s (k + 1) = 10 * dv s k + (bt s k - 48) := rfl
          go_wp2_with fail
          go_roundw
          case rel => exact ⟨k + 1, hlt, by go_num, HW, by rw [e1], HN⟩
          case measure => simp [intOf]; omega
        · have hno := numV_no (dok_not hlt hdig)
          have HG : Hid (Ending.returned (.tuple #[.int .i64 0, .bool false]) = Ending.returned (.tuple #[.int .i64 (numV s), .bool (numB s)])) := ret_num hno
          clear hno
          by_cases hlow : bt s k < 48
          · have g1 : decide (bt s k < 48) = true := by simp; omega
            go_wp2_with fail
            (try simp only [Exit.inBlock, Exit.then])
            refine bodyPost_ret (v := .tuple #[.int .i64 0, .bool false]) (by simp [results, Tryd.results20, go_sem]) rfl ?_
            exact ⟨HG.out, HW.out⟩
          · have g1 : decide (bt s k < 48) = false := by simp; omega
            have g2 : decide (57 < bt s k) = true := by simp; omega
            go_wp2_with fail
            (try simp only [Exit.inBlock, Exit.then])
            refine bodyPost_ret (v := .tuple #[.int .i64 0, .bool false]) (by simp [results, Tryd.results20, go_sem]) rfl ?_
            exact ⟨HG.out, HW.out⟩
      · have hkn : k = s.size := by omega
        subst hkn
        have hok := numV_ok h9 HD.out
        have HG : Hid (Ending.returned (.tuple #[.int .i64 (dv s s.size), .bool true]) = Ending.returned (.tuple #[.int .i64 (numV s), .bool (numB s)])) := ret_num hok
        clear hok
        go_wp2_with fail
        refine bodyPost_ret (v := .tuple #[.int .i64 (dv s s.size), .bool true]) (by simp [results, Tryd.results20, go_sem]) rfl ?_
        exact ⟨HG.out, HW.out⟩
  · have h9' : (9 : Int) < (s.size : Int) := by omega
    have hb : numB s = false := by simp [numB, h9]
    have hv : numV s = 0 := by simp [numV, hb]
    rw [hb, hv]
    go_enter Tryd.func20, Tryd.ntmps20
    go_wp2_with fail
    refine bodyPost_ret (v := .tuple #[.int .i64 0, .bool false]) (by simp [results, Tryd.results20, go_sem]) rfl ?_
    exact ⟨rfl, rfl⟩
/-- The model asks for a digit at least. -/
theorem l15Number_any (s : ByteArray) (w : World) (h1 : 1 ≤ s.size) : Calls Tryd.prog 33 #[.string s] w fun e w' => e = .returned (.tuple #[.int .i64 (numV s), .bool (numB s)]) ∧ w' = w := by
  have g0 : decide ((s.size : Int) < 1) = false := by simp; omega
  by_cases h9 : s.size ≤ 9
  · go_enter Tryd.func33, Tryd.ntmps33
    have g9 : decide (9 < (s.size : Int)) = false := by simp; omega
    go_wp2_with fail
    go_loopw [4, 5] (fun v i wr => ∃ k : Nat, k ≤ s.size ∧ i = .int .i64 k ∧ Hid (wr = w) ∧ v = .int .i64 (dv s k) ∧ Hid (dok s k = true)) (fun _ i _ => s.size - (intOf i).toNat)
    case atStart => exact ⟨0, by omega, rfl, rfl, rfl, rfl⟩
    case round =>
      obtain ⟨k, hk, rfl, HW, rfl, HD⟩ := hrel
      by_cases hlt : k < s.size
      · have hlt' : (k : Int) < (s.size : Int) := by omega
        have h0 : (0 : Int) ≤ (k : Int) := by omega
        have hbt := bt_at s k hlt
        have hbd := bt_bd s k
        have hd := dv_small HD.out (by omega : k ≤ 9)
        have hd2 := dv_bd HD.out
        have hp : 10 ^ k ≤ 10 ^ 8 := Nat.pow_le_pow_right (by decide) (by omega)
        have hd3 : dv s k < 100000000 := by omega
        clear hd2 hp
        by_cases hdig : 48 ≤ bt s k ∧ bt s k ≤ 57
        · have g1 : decide (bt s k < 48) = false := by simp; omega
          have g2 : decide (57 < bt s k) = false := by simp; omega
          have HN : Hid (dok s (k + 1) = true) := by show dok s (k + 1) = true; simp only [dok, HD.out, Bool.true_and, decide_eq_true_eq]; exact hdig
          have e1 : dv s (k + 1) = dv s k * 10 + (bt s k - 48) := by simp only [dv]; omega
          go_wp2_with fail
          go_roundw
          case rel => exact ⟨k + 1, hlt, by go_num, HW, by rw [e1], HN⟩
          case measure => simp [intOf]; omega
        · have hno := numV_no (dok_not hlt hdig)
          have HG : Hid (Ending.returned (.tuple #[.int .i64 0, .bool false]) = Ending.returned (.tuple #[.int .i64 (numV s), .bool (numB s)])) := ret_num hno
          clear hno
          by_cases hlow : bt s k < 48
          · have g1 : decide (bt s k < 48) = true := by simp; omega
            go_wp2_with fail
            (try simp only [Exit.inBlock, Exit.then])
            refine bodyPost_ret (v := .tuple #[.int .i64 0, .bool false]) (by simp [results, Tryd.results33, go_sem]) rfl ?_
            exact ⟨HG.out, HW.out⟩
          · have g1 : decide (bt s k < 48) = false := by simp; omega
            have g2 : decide (57 < bt s k) = true := by simp; omega
            go_wp2_with fail
            (try simp only [Exit.inBlock, Exit.then])
            refine bodyPost_ret (v := .tuple #[.int .i64 0, .bool false]) (by simp [results, Tryd.results33, go_sem]) rfl ?_
            exact ⟨HG.out, HW.out⟩
      · have hkn : k = s.size := by omega
        subst hkn
        have hok := numV_ok h9 HD.out
        have HG : Hid (Ending.returned (.tuple #[.int .i64 (dv s s.size), .bool true]) = Ending.returned (.tuple #[.int .i64 (numV s), .bool (numB s)])) := ret_num hok
        clear hok
        go_wp2_with fail
        refine bodyPost_ret (v := .tuple #[.int .i64 (dv s s.size), .bool true]) (by simp [results, Tryd.results33, go_sem]) rfl ?_
        exact ⟨HG.out, HW.out⟩
  · have g9 : decide (9 < (s.size : Int)) = true := by simp; omega
    have hb : numB s = false := by simp [numB, h9]
    have hv : numV s = 0 := by simp [numV, hb]
    rw [hb, hv]
    go_enter Tryd.func33, Tryd.ntmps33
    go_wp2_with fail
    refine bodyPost_ret (v := .tuple #[.int .i64 0, .bool false]) (by simp [results, Tryd.results33, go_sem]) rfl ?_
    exact ⟨rfl, rfl⟩
end Go.Proofs.YtiflheclfgloaaaDoor
