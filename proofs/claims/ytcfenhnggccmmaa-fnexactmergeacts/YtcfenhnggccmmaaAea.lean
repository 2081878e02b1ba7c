/- The fault of sessions and picks: both programs. -/
import Derived.Test.YtcfenhnggccmmaaAor
import Derived.Test.YtcfenhnggccmmaaAil
namespace Go.Proofs.Ytcfenhnggccmmaa
open Go.ChangeShapes Go.WideShapes Go.ChangeAt Go.RowKit Go.Deep Go.Joins
set_option linter.unusedVariables false
set_option maxRecDepth 20000

/-- The fault of one pick. -/
def pkF (n : Nat) (v : Int) : Int := if inB v 0 ((n : Int) - 1) = true then 0 else 3
def mgF (n : Nat) (T : Nat → Al) (m : Nat) (P : Nat → Int) : Int := if sF n T = 0 then (if 80 < m then 2 else fz9 (fun j => pkF n (P j)) m 0) else sF n T
theorem mgF_ok {n : Nat} {T : Nat → Al} {m : Nat} {P : Nat → Int} (h : mgF n T m P = 0) : sF n T = 0 ∧ m ≤ 80 ∧ ∀ j, j < m → 0 ≤ P j ∧ P j < n := by
  unfold mgF at h
  split at h
  · rename_i h1
    split at h
    · cases h
    · refine ⟨h1, by omega, fun j hj => ?_⟩
      have h5 := fz9_all _ m 0 h j (Nat.zero_le _) (by omega)
      unfold pkF at h5
      split at h5
      · rename_i h6
        simp only [inB, decide_eq_true_eq, Bool.and_eq_true] at h6
        omega
      · cases h5
  · rename_i h1; exact absurd h h1
set_option maxHeartbeats 2000000 in
theorem mergeFault_any (n : Nat) (T : Nat → Al) (a : Option Addr) (cap : Nat) (m : Nat) (P : Nat → Int) (d : Option Addr) (dc : Nat) (w : World) (hn : n ≤ 1048576) (hL : SmAl n T) (hm : m ≤ 1048576) (h : AlsAt w a n T) (hd : IntsAt w d m P) :
    Calls Try.prog 40 #[.slice a n cap, .slice d m dc] w fun e w' => e = .returned (.int .i64 (mgF n T m P)) ∧ Below w.heap.size w w' := by
  have HA : Hid (AlsAt w a n T) := h
  have HD : Hid (IntsAt w d m P) := hd
  have HL : Hid (SmAl n T) := hL
  generalize hC : mgF n T m P = C
  have HC : Hid (C = if sF n T = 0 then (if 80 < m then 2 else fz9 (fun j => pkF n (P j)) m 0) else sF n T) := hC.symm
  clear h hd hL hC
  go_enter Try.func40, Try.ntmps40
  go_wp2_with fail
  refine (implSess_any n T a cap _ hn HL.out HA.out).mono ?_
  rintro e w1 ⟨rfl, hb⟩
  have HB : Hid (Below w.heap.size w w1) := hb
  replace HD : Hid (IntsAt w1 d m P) := HD.out.below hb
  clear hb
  by_cases hs : sF n T = 0
  case neg =>
    have HC1 : Hid (C = sF n T) := by have := HC.out; rwa [if_neg hs] at this
    have hsF : (sF n T != 0) = true := by simpa using hs
    generalize sF n T = s at *
    clear hs HC
    go_wp2_with fail
    go_ret
    exact ⟨ret_int HC1.out.symm, HB.out⟩
  have HC1 : Hid (C = if 80 < m then 2 else fz9 (fun j => pkF n (P j)) m 0) := by have := HC.out; rwa [if_pos hs] at this
  have hsF : (sF n T != 0) = false := by simpa using hs
  generalize sF n T = s at *
  clear hs HC
  by_cases h8 : (m : Int) > 80
  case pos =>
    have HC2 : Hid (C = 2) := by have := HC1.out; rwa [if_pos (by omega)] at this
    clear HC1
    go_wp2_with fail
    go_ret
    exact ⟨ret_int HC2.out.symm, HB.out⟩
  have HC2 : Hid (C = fz9 (fun j => pkF n (P j)) m 0) := by have := HC1.out; rwa [if_neg (by omega)] at this
  clear HC1
  go_wp2_with fail
  go_loop [4, 7, 18] (fun _ _ i => ∃ k : Nat, k ≤ m ∧ i = .int .i64 k ∧ Hid (C = fz9 (fun j => pkF n (P j)) (m - k) k)) (fun _ _ i => m - (intOf i).toNat)
  case atStart => exact ⟨0, Nat.zero_le _, rfl, HC2⟩
  case round =>
    obtain ⟨k, hk, rfl, HF⟩ := hrel
    by_cases hlt : k < m
    · have hlt' : (k : Int) < (m : Int) := by omega
      have hk0 : (0 : Int) ≤ (k : Int) := by omega
      rcases HD.out with h | ⟨b, off, rfl, hl, hc⟩
      · omega
      have q0 := hc k hlt
      have HE0 : Hid (C = if pkF n (P k) = 0 then fz9 (fun j => pkF n (P j)) (m - (k + 1)) (k + 1) else pkF n (P k)) := HF.out.trans (fz9_at _ hlt)
      have HPK : Hid (pkF n (P k) = if inB (P k) 0 ((n : Int) - 1) = true then 0 else 3) := rfl
      clear hc HF HC2
      generalize pkF n (P k) = p at *
      go_wp2_with fail
      refine (isPlace9 (P k) n _ hn).mono ?_
      rintro e w2 ⟨rfl, hw2⟩
      obtain rfl := hw2.symm
      obtain hb | hb := bool_or9 (inB (P k) 0 ((n : Int) - 1))
      · rw [hb]
        have hp : p = 0 := by have := HPK.out; rwa [hb, if_pos rfl] at this
        have HE1 : Hid (C = fz9 (fun j => pkF n (P j)) (m - (k + 1)) (k + 1)) := by have := HE0.out; rwa [if_pos hp] at this
        clear HE0 HPK hp hb
        go_wp2_with fail
        go_round
        case rel => exact ⟨k + 1, hlt, by go_num, HE1⟩
        case measure => simp [intOf]; omega
      · rw [hb]
        have hp : p = 3 := by have := HPK.out; rwa [hb, if_neg (by simp)] at this
        have HE1 : Hid (C = 3) := by have := HE0.out; rw [hp, if_neg (by decide)] at this; exact this
        clear HE0 HPK hp hb
        go_wp2_with fail
        go_ret
        exact ⟨ret_int HE1.out.symm, HB.out⟩
    · have hC0 : Hid (C = 0) := by
        have h := HF.out
        rw [show m - k = 0 by omega] at h
        exact h
      have hnl : ¬ ((k : Int) < (m : Int)) := by omega
      go_wp2_with fail
      go_ret
      exact ⟨ret_int hC0.out.symm, HB.out⟩
set_option maxHeartbeats 2000000 in
theorem l16Asked_any (n : Nat) (T : Nat → Al) (a : Option Addr) (cap : Nat) (m : Nat) (P : Nat → Int) (d : Option Addr) (dc : Nat) (w : World) (hn : n ≤ 1048576) (hL : SmAl n T) (hm : m ≤ 1048576) (h : AlsAt w a n T) (hd : IntsAt w d m P) :
    Calls Try.prog 39 #[.slice a n cap, .slice d m dc] w fun e w' => e = .returned (.int .i64 (mgF n T m P)) ∧ w' = w := by
  have HA : Hid (AlsAt w a n T) := h
  have HD : Hid (IntsAt w d m P) := hd
  have HL : Hid (SmAl n T) := hL
  generalize hC : mgF n T m P = C
  have HC : Hid (C = if sF n T = 0 then (if 80 < m then 2 else fz9 (fun j => pkF n (P j)) m 0) else sF n T) := hC.symm
  clear h hd hL hC
  go_enter Try.func39, Try.ntmps39
  go_wp2_with fail
  refine (specSess_any n T a cap _ hn HL.out HA.out).mono ?_
  rintro e w1 ⟨rfl, hw1⟩
  obtain rfl := hw1.symm
  by_cases hs : sF n T = 0
  case neg =>
    have HC1 : Hid (C = sF n T) := by have := HC.out; rwa [if_neg hs] at this
    have hsF : (sF n T != 0) = true := by simpa using hs
    generalize sF n T = s at *
    clear hs HC
    go_wp2_with fail
    go_ret
    exact ⟨ret_int HC1.out.symm, rfl⟩
  have HC1 : Hid (C = if 80 < m then 2 else fz9 (fun j => pkF n (P j)) m 0) := by have := HC.out; rwa [if_pos hs] at this
  have hsF : (sF n T != 0) = false := by simpa using hs
  have hn1 : 1 ≤ n := (sF_few hs).1
  generalize sF n T = s at *
  clear hs HC
  by_cases h8 : (m : Int) > 80
  case pos =>
    have HC2 : Hid (C = 2) := by have := HC1.out; rwa [if_pos (by omega)] at this
    clear HC1
    go_wp2_with fail
    go_ret
    exact ⟨ret_int HC2.out.symm, rfl⟩
  have HC2 : Hid (C = fz9 (fun j => pkF n (P j)) m 0) := by have := HC1.out; rwa [if_neg (by omega)] at this
  clear HC1
  go_wp2_with fail
  go_loop [6] (fun i => ∃ k : Nat, k ≤ m ∧ i = .int .i64 k ∧ Hid (C = fz9 (fun j => pkF n (P j)) (m - k) k)) (fun i => m - (intOf i).toNat)
  case atStart => exact ⟨0, Nat.zero_le _, rfl, HC2⟩
  case round =>
    obtain ⟨k, hk, rfl, HF⟩ := hrel
    by_cases hlt : k < m
    · have hlt' : (k : Int) < (m : Int) := by omega
      have hk0 : (0 : Int) ≤ (k : Int) := by omega
      rcases HD.out with h | ⟨b, off, rfl, hl, hc⟩
      · omega
      have q0 := hc k hlt
      have HE0 : Hid (C = if pkF n (P k) = 0 then fz9 (fun j => pkF n (P j)) (m - (k + 1)) (k + 1) else pkF n (P k)) := HF.out.trans (fz9_at _ hlt)
      have HPK : Hid (pkF n (P k) = if inB (P k) 0 ((n : Int) - 1) = true then 0 else 3) := rfl
      clear hc HF HC2
      generalize pkF n (P k) = p at *
      go_wp2_with fail
      refine (l1In_any (P k) 0 ((n : Int) - 1) _).mono ?_
      rintro e w2 ⟨rfl, hw2⟩
      obtain rfl := hw2.symm
      obtain hb | hb := bool_or9 (inB (P k) 0 ((n : Int) - 1))
      · rw [hb]
        have hp : p = 0 := by have := HPK.out; rwa [hb, if_pos rfl] at this
        have HE1 : Hid (C = fz9 (fun j => pkF n (P j)) (m - (k + 1)) (k + 1)) := by have := HE0.out; rwa [if_pos hp] at this
        clear HE0 HPK hp hb
        go_wp2_with fail
        go_round
        case rel => exact ⟨k + 1, hlt, by go_num, HE1⟩
        case measure => simp [intOf]; omega
      · rw [hb]
        have hp : p = 3 := by have := HPK.out; rwa [hb, if_neg (by simp)] at this
        have HE1 : Hid (C = 3) := by have := HE0.out; rw [hp, if_neg (by decide)] at this; exact this
        clear HE0 HPK hp hb
        go_wp2_with fail
        go_ret
        exact ⟨ret_int HE1.out.symm, rfl⟩
    · have hC0 : Hid (C = 0) := by
        have h := HF.out
        rw [show m - k = 0 by omega] at h
        exact h
      have hnl : ¬ ((k : Int) < (m : Int)) := by omega
      go_wp2_with fail
      go_ret
      exact ⟨ret_int hC0.out.symm, rfl⟩
end Go.Proofs.Ytcfenhnggccmmaa
