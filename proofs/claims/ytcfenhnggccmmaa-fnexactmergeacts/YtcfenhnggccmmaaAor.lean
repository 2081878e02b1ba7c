/- Who only reads: both programs. -/
import Derived.Test.YtcfenhnggccmmaaAsh
namespace Go.Proofs.Ytcfenhnggccmmaa
open Go.ChangeShapes Go.WideShapes Go.ChangeAt Go.RowKit Go.Deep Go.Joins
set_option linter.unusedVariables false
set_option maxRecDepth 20000

theorem isPlace9 (v : Int) (c : Nat) (w : World) (hc : c ≤ 1048576) : Calls Try.prog 36 #[.int .i64 v, .int .i64 c] w fun e w' => e = .returned (.bool (inB v 0 ((c : Int) - 1))) ∧ w' = w := by
  by_cases h0 : 0 ≤ v
  · by_cases h1 : v < c
    · have hd : inB v 0 ((c : Int) - 1) = true := by simp [inB]; omega
      rw [hd]
      go_enter Try.func36, Try.ntmps36
      go_wp2_with fail
      go_ret
      exact ⟨by first | rfl | simp [h1], rfl⟩
    · have hd : inB v 0 ((c : Int) - 1) = false := by simp [inB]; omega
      rw [hd]
      go_enter Try.func36, Try.ntmps36
      go_wp2_with fail
      go_ret
      exact ⟨by first | rfl | simp [h1], rfl⟩
  · have hd : inB v 0 ((c : Int) - 1) = false := by simp [inB]; omega
    rw [hd]
    go_enter Try.func36, Try.ntmps36
    go_wp2_with fail
    go_ret
    exact ⟨by first | rfl | simp [h0], rfl⟩
def noRd (r : Ac) : Bool := (r.k != 2) && (r.k != 3)
def wrt16 (t : Al) : Bool := an9 (fun j => noRd (t.R j)) t.n 0
def oR (n : Nat) (T : Nat → Al) (v : Int) : Bool := if sF n T = 0 then (if inB v 0 ((n : Int) - 1) = true then !(wrt16 (T v.toNat)) else false) else false
/-! ### the program -/
theorem onlyReads1_any (r : Ac) (w : World) :
    Calls Try.prog 38 #[.agg #[.int .i64 r.k, .int .i64 r.t, .int .i64 r.y, .int .i64 r.o]] w fun e w' => e = .returned (.bool (noRd r)) ∧ Below w.heap.size w w' := by
  obtain ⟨k, t, y, o⟩ := r
  obtain h2 | h2 := bool_or9 (k != 2)
  · obtain h3 | h3 := bool_or9 (k != 3)
    · have hd : noRd ⟨k, t, y, o⟩ = true := by simp [noRd, h2, h3]
      rw [hd]
      go_enter Try.func38, Try.ntmps38
      go_wp2_with fail
      go_ret
      exact ⟨by first | rfl | simp [h3], below_new _ _⟩
    · have hd : noRd ⟨k, t, y, o⟩ = false := by simp [noRd, h2, h3]
      rw [hd]
      go_enter Try.func38, Try.ntmps38
      go_wp2_with fail
      go_ret
      exact ⟨by first | rfl | simp [h3], below_new _ _⟩
  · have hd : noRd ⟨k, t, y, o⟩ = false := by simp [noRd, h2]
    rw [hd]
    go_enter Try.func38, Try.ntmps38
    go_wp2_with fail
    go_ret
    exact ⟨by first | rfl | simp [h2], below_new _ _⟩
set_option maxHeartbeats 1000000 in
theorem idxWrites_any (n : Nat) (R : Nat → Ac) (a : Option Addr) (cap : Nat) (w : World) (hn : n ≤ 1048576) (h : AcsAt w a n R) :
    Calls Try.prog 51 #[.slice a n cap, .func (.func 38) #[] #[]] w fun e w' => e = .returned (.int .i64 (ix9 (fun j => noRd (R j)) n 0)) ∧ Below w.heap.size w w' := by
  have HA : Hid (AcsAt w a n R) := h
  generalize hC : ix9 (fun j => noRd (R j)) n 0 = C
  clear h
  go_enter Try.func51, Try.ntmps51
  go_wp2_with fail
  go_loopw [5, 8] (fun _ i wr => ∃ k : Nat, k ≤ n ∧ i = .int .i64 k ∧ Hid (C = ix9 (fun j => noRd (R j)) (n - k) k) ∧ Hid (Below w.heap.size w wr)) (fun _ i _ => n - (intOf i).toNat)
  case atStart => exact ⟨0, Nat.zero_le _, rfl, hC.symm, Below.refl _ _⟩
  case round =>
    obtain ⟨k, hk, rfl, HC, HB⟩ := hrel
    by_cases hlt : k < n
    · have hlt' : (k : Int) < (n : Int) := by omega
      have hk0 : (0 : Int) ≤ (k : Int) := by omega
      rcases HA.out.below HB.out with h | ⟨bb, off, rfl, hl, hcc⟩
      · omega
      obtain ⟨x0, x1, x2, x3⟩ := hcc k hlt
      have HE0 := HC.out.trans (ix9_at _ hlt)
      clear hcc HC hC
      go_wp2_with fail
      refine (onlyReads1_any (R k) wr).mono ?_
      rintro e w1 ⟨rfl, hb1⟩
      have HB1 : Hid (Below w.heap.size w w1) := below_then HB.out hb1
      clear hb1 x0 x1 x2 x3
      obtain hq | hq := bool_or9 (noRd (R k))
      · have HE : Hid (C = k) := by rw [if_pos hq] at HE0; exact HE0
        clear HE0
        rw [hq]
        go_wp2_with fail
        go_ret
        exact ⟨ret_int HE.out.symm, HB1.out⟩
      · have HE : Hid (C = ix9 (fun j => noRd (R j)) (n - (k + 1)) (k + 1)) := by rw [if_neg (by simpa using hq)] at HE0; exact HE0
        clear HE0
        rw [hq]
        go_wp2_with fail
        go_roundw
        case rel => exact ⟨k + 1, hlt, by go_num, HE, HB1⟩
        case measure => simp [intOf]; omega
    · have HE : Hid (C = -1) := by
        have h := HC.out
        rw [show n - k = 0 by omega] at h
        exact h
      clear HC hC
      have hnl : ¬ ((k : Int) < (n : Int)) := by omega
      go_wp2_with fail
      go_ret
      exact ⟨ret_int HE.out.symm, HB.out⟩
theorem anyWrites_any (n : Nat) (R : Nat → Ac) (a : Option Addr) (cap : Nat) (w : World) (hn : n ≤ 1048576) (h : AcsAt w a n R) :
    Calls Try.prog 37 #[.slice a n cap, .func (.func 38) #[] #[]] w fun e w' => e = .returned (.bool (an9 (fun j => noRd (R j)) n 0)) ∧ Below w.heap.size w w' := by
  have HF : Hid (an9 (fun j => noRd (R j)) n 0 = decide (0 ≤ ix9 (fun j => noRd (R j)) n 0)) := ix9_an _ n 0
  have HQ := idxWrites_any n R a cap w hn h
  clear h
  go_enter Try.func37, Try.ntmps37
  go_wp2_with fail
  refine HQ.mono ?_
  rintro e w1 ⟨rfl, hb⟩
  have HB : Hid (Below w.heap.size w w1) := hb
  generalize ix9 (fun j => noRd (R j)) n 0 = C at *
  clear hb
  go_wp2_with fail
  go_ret
  exact ⟨ret_bool HF.out.symm, HB.out⟩
theorem few16 {n : Nat} {T : Nat → Al} (h : sF n T = 0) : n ≤ 5 := (sF_few h).2.1
set_option maxHeartbeats 2000000 in
theorem implOr_any (n : Nat) (T : Nat → Al) (a : Option Addr) (cap : Nat) (v : Int) (w : World) (hn : n ≤ 1048576) (hL : SmAl n T) (h : AlsAt w a n T) :
    Calls Try.prog 13 #[.slice a n cap, .int .i64 v] w fun e w' => e = .returned (.bool (oR n T v)) ∧ Below w.heap.size w w' := by
  have HA : Hid (AlsAt w a n T) := h
  have HL : Hid (SmAl n T) := hL
  generalize hC : oR n T v = C
  have HC : Hid (C = if sF n T = 0 then (if inB v 0 ((n : Int) - 1) = true then !(wrt16 (T v.toNat)) else false) else false) := hC.symm
  clear h hL hC
  go_enter Try.func13, Try.ntmps13
  go_wp2_with fail
  refine (implSess_any n T a cap _ hn HL.out HA.out).mono ?_
  rintro e w1 ⟨rfl, hb⟩
  have HB : Hid (Below w.heap.size w w1) := hb
  replace HA : Hid (AlsAt w1 a n T) := HA.out.below hb
  clear hb
  by_cases hs : sF n T = 0
  · have HC1 : Hid (C = if inB v 0 ((n : Int) - 1) = true then !(wrt16 (T v.toNat)) else false) := by have := HC.out; rwa [if_pos hs] at this
    have hsF : (sF n T != 0) = false := by simpa using hs
    generalize sF n T = s at *
    clear hs HC
    go_wp2_with fail
    refine (isPlace9 v n _ hn).mono ?_
    rintro e w2 ⟨rfl, hw2⟩
    obtain rfl := hw2.symm
    obtain hb | hb := bool_or9 (inB v 0 ((n : Int) - 1))
    · have HC2 : Hid (C = !(wrt16 (T v.toNat))) := by have := HC1.out; rwa [hb, if_pos rfl] at this
      rw [hb]
      simp only [inB, decide_eq_true_eq, Bool.and_eq_true] at hb
      have hv0 : 0 ≤ v := by omega
      obtain ⟨k, rfl⟩ : ∃ k : Nat, v = k := ⟨v.toNat, by omega⟩
      have hlt : k < n := by omega
      have hlt' : (k : Int) < (n : Int) := by omega
      simp only [Int.toNat_natCast] at HC2
      rcases HA.out with h | ⟨bb, off, rfl, hl, hcc⟩
      · omega
      obtain ⟨a0, c0, x0, hI, -⟩ := hcc k hlt
      have hTk := HL.out k hlt
      have HQ : Hid (Calls Try.prog 37 #[.slice a0 (T k).n c0, .func (.func 38) #[] #[]] w1 fun e w' => e = .returned (.bool (wrt16 (T k))) ∧ Below w1.heap.size w1 w') := anyWrites_any (T k).n (T k).R a0 c0 w1 hTk hI
      clear hcc hI HC1 hb
      go_wp2_with fail
      refine HQ.out.mono ?_
      rintro e w2 ⟨rfl, hb⟩
      replace HB : Hid (Below w.heap.size w w2) := below_then HB.out hb
      clear hb HQ
      go_wp2_with fail
      go_ret
      exact ⟨ret_bool HC2.out.symm, HB.out⟩
    · have HC2 : Hid (C = false) := by have := HC1.out; rwa [hb, if_neg (by simp)] at this
      rw [hb]
      clear HC1 hb
      go_wp2_with fail
      go_ret
      exact ⟨ret_bool HC2.out.symm, HB.out⟩
  · have HC1 : Hid (C = false) := by have := HC.out; rwa [if_neg hs] at this
    have hsF : (sF n T != 0) = true := by simpa using hs
    generalize sF n T = s at *
    clear hs HC
    go_wp2_with fail
    go_ret
    exact ⟨ret_bool HC1.out.symm, HB.out⟩
/-! ### the model -/
set_option maxHeartbeats 2000000 in
theorem specOr_any (n : Nat) (T : Nat → Al) (a : Option Addr) (cap : Nat) (v : Int) (w : World) (hn : n ≤ 1048576) (hL : SmAl n T) (h : AlsAt w a n T) :
    Calls Try.prog 12 #[.slice a n cap, .int .i64 v] w fun e w' => e = .returned (.bool (oR n T v)) ∧ w' = w := by
  have HA : Hid (AlsAt w a n T) := h
  have HL : Hid (SmAl n T) := hL
  generalize hC : oR n T v = C
  have HC : Hid (C = if sF n T = 0 then (if inB v 0 ((n : Int) - 1) = true then !(wrt16 (T v.toNat)) else false) else false) := hC.symm
  clear h hL hC
  go_enter Try.func12, Try.ntmps12
  go_wp2_with fail
  refine (specSess_any n T a cap _ hn HL.out HA.out).mono ?_
  rintro e w1 ⟨rfl, hw1⟩
  obtain rfl := hw1.symm
  by_cases hs : sF n T = 0
  · have HC1 : Hid (C = if inB v 0 ((n : Int) - 1) = true then !(wrt16 (T v.toNat)) else false) := by have := HC.out; rwa [if_pos hs] at this
    have HFw := sF_few hs
    have hn1 : 1 ≤ n := HFw.1
    have hn5 : n ≤ 5 := HFw.2.1
    have HKi : Hid (∀ i, i < n → ∀ j, j < (T i).n → 2 ≤ ((T i).R j).k) := fun i hi j hj => (HFw.2.2.2 i hi j hj).1
    clear HFw
    have hsF : (sF n T != 0) = false := by simpa using hs
    generalize sF n T = s at *
    clear hs HC
    go_wp2_with fail
    refine (l1In_any v 0 ((n : Int) - 1) _).mono ?_
    rintro e w2 ⟨rfl, hw2⟩
    obtain rfl := hw2.symm
    obtain hb | hb := bool_or9 (inB v 0 ((n : Int) - 1))
    · have HC2 : Hid (C = !(wrt16 (T v.toNat))) := by have := HC1.out; rwa [hb, if_pos rfl] at this
      rw [hb]
      simp only [inB, decide_eq_true_eq, Bool.and_eq_true] at hb
      obtain ⟨k, rfl⟩ : ∃ k : Nat, v = k := ⟨v.toNat, by omega⟩
      have hlt : k < n := by omega
      have hlt' : (k : Int) < (n : Int) := by omega
      have hk0 : (0 : Int) ≤ (k : Int) := by omega
      simp only [Int.toNat_natCast] at HC2
      rcases HA.out with h | ⟨bb, off, rfl, hl, hcc⟩
      · omega
      obtain ⟨a0, c0, x0, hI, -⟩ := hcc k hlt
      have HI : Hid (AcsAt w a0 (T k).n (T k).R) := hI
      have hTk := HL.out k hlt
      have HK : Hid (∀ j, j < (T k).n → 2 ≤ ((T k).R j).k) := HKi.out k hlt
      have HW : Hid (C = !(an9 (fun j => noRd ((T k).R j)) (T k).n 0)) := HC2.out
      clear hcc hI HC1 hb HKi HC2
      generalize hm : (T k).n = m at *
      generalize hR : (T k).R = R at *
      clear hm hR
      go_wp2_with fail
      go_loop [5] (fun i => ∃ j : Nat, j ≤ m ∧ i = .int .i64 j ∧ Hid (C = !(an9 (fun j => noRd (R j)) (m - j) j))) (fun i => m - (intOf i).toNat)
      case atStart => exact ⟨0, Nat.zero_le _, rfl, HW⟩
      case round =>
        obtain ⟨j, hj, rfl, HG⟩ := hrel
        by_cases hjt : j < m
        · have hjt' : (j : Int) < (m : Int) := by omega
          have hj0 : (0 : Int) ≤ (j : Int) := by omega
          rcases HI.out with h | ⟨b2, off2, rfl, hl2, hc2⟩
          · omega
          obtain ⟨y0, y1, y2, y3⟩ := hc2 j hjt
          have hk2 := HK.out j hjt
          have HG0 := HG.out
          rw [an9_at _ hjt] at HG0
          clear hc2 HG
          by_cases hgt : (R j).k > 3
          · have hno : noRd (R j) = true := by simp [noRd]; omega
            have HC1 : Hid (C = false) := by rw [if_pos hno] at HG0; exact HG0
            clear HG0 hno
            go_wp2_with fail
            go_ret
            exact ⟨ret_bool HC1.out.symm, rfl⟩
          · have hno : ¬ noRd (R j) = true := by simp [noRd]; omega
            have HG1 : Hid (C = !(an9 (fun j => noRd (R j)) (m - (j + 1)) (j + 1))) := by rw [if_neg hno] at HG0; exact HG0
            clear HG0 hno
            go_wp2_with fail
            go_round
            case rel => exact ⟨j + 1, hjt, by go_num, HG1⟩
            case measure => simp [intOf]; omega
        · have HC1 : Hid (C = true) := by
            have h := HG.out
            rw [show m - j = 0 by omega] at h
            exact h
          have hnl : ¬ ((j : Int) < (m : Int)) := by omega
          clear HG
          go_wp2_with fail
          go_ret
          exact ⟨ret_bool HC1.out.symm, rfl⟩
    · have HC2 : Hid (C = false) := by have := HC1.out; rwa [hb, if_neg (by simp)] at this
      rw [hb]
      clear HC1 hb
      go_wp2_with fail
      go_ret
      exact ⟨ret_bool HC2.out.symm, rfl⟩
  · have HC1 : Hid (C = false) := by have := HC.out; rwa [if_neg hs] at this
    have hsF : (sF n T != 0) = true := by simpa using hs
    generalize sF n T = s at *
    clear hs HC
    go_wp2_with fail
    go_ret
    exact ⟨ret_bool HC1.out.symm, rfl⟩
end Go.Proofs.Ytcfenhnggccmmaa
