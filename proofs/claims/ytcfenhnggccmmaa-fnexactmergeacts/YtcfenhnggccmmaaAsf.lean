/- The fault of sessions: both programs. -/
import Derived.Test.YtcfenhnggccmmaaAct
namespace Go.Proofs.Ytcfenhnggccmmaa
open Go.ChangeShapes Go.WideShapes Go.ChangeAt Go.RowKit Go.Deep Go.Joins
set_option linter.unusedVariables false
set_option maxRecDepth 20000

/-- The first that is not 0. -/
def fz9 (f : Nat → Int) : Nat → Nat → Int
  | 0, _ => 0
  | m + 1, i => if f i = 0 then fz9 f m (i + 1) else f i
theorem fz9_at (f : Nat → Int) {n k : Nat} (h : k < n) : fz9 f (n - k) k = if f k = 0 then fz9 f (n - (k + 1)) (k + 1) else f k := by
  obtain ⟨m, hm⟩ : ∃ m, n - k = m + 1 := ⟨n - k - 1, by omega⟩
  rw [hm, fz9, show n - (k + 1) = m by omega]
theorem fz9_all (f : Nat → Int) : ∀ m i, fz9 f m i = 0 → ∀ j, i ≤ j → j < i + m → f j = 0
  | 0, i, _, j, h1, h2 => by omega
  | m + 1, i, h, j, h1, h2 => by
    simp only [fz9] at h
    split at h
    · rename_i h0
      by_cases e : j = i
      · rw [e]; exact h0
      · exact fz9_all f m (i + 1) h j (by omega) (by omega)
    · rename_i h0; exact absurd h h0
/-- Whether some is so, from i on. -/
def an9 (f : Nat → Bool) : Nat → Nat → Bool
  | 0, _ => false
  | m + 1, i => if f i = true then true else an9 f m (i + 1)
theorem an9_at (f : Nat → Bool) {n k : Nat} (h : k < n) : an9 f (n - k) k = if f k = true then true else an9 f (n - (k + 1)) (k + 1) := by
  obtain ⟨m, hm⟩ : ∃ m, n - k = m + 1 := ⟨n - k - 1, by omega⟩
  rw [hm, an9, show n - (k + 1) = m by omega]
theorem an9_no (f : Nat → Bool) : ∀ m i, an9 f m i = false → ∀ j, i ≤ j → j < i + m → f j = false
  | 0, i, _, j, h1, h2 => by omega
  | m + 1, i, h, j, h1, h2 => by
    simp only [an9] at h
    split at h
    · cases h
    · rename_i h0
      by_cases e : j = i
      · rw [e]; simpa using h0
      · exact an9_no f m (i + 1) h j (by omega) (by omega)
def tooLong (T : Nat → Al) (i : Nat) : Bool := decide (12 < (T i).n)
/-- The fault of an act in a session. -/
def aF (r : Ac) : Int := if inB r.k 2 7 = true then (if r.t = 0 then 0 else 1) else 3
def lF (t : Al) : Int := fz9 (fun j => aF (t.R j)) t.n 0
def sF (n : Nat) (T : Nat → Al) : Int := if inB n 1 5 = true then (if an9 (tooLong T) n 0 = true then 2 else fz9 (fun i => lF (T i)) n 0) else 2
theorem sF_few {n : Nat} {T : Nat → Al} (h : sF n T = 0) : 1 ≤ n ∧ n ≤ 5 ∧ (∀ i, i < n → (T i).n ≤ 12) ∧ ∀ i, i < n → ∀ j, j < (T i).n → 2 ≤ ((T i).R j).k ∧ ((T i).R j).k ≤ 7 ∧ ((T i).R j).t = 0 := by
  unfold sF at h
  split at h
  · rename_i h1
    split at h
    · cases h
    · rename_i h2
      simp only [inB, decide_eq_true_eq, Bool.and_eq_true] at h1
      have h3 : an9 (tooLong T) n 0 = false := by simpa using h2
      refine ⟨by omega, by omega, fun i hi => ?_, fun i hi j hj => ?_⟩
      · have := an9_no _ n 0 h3 i (Nat.zero_le _) (by omega)
        simp only [tooLong, decide_eq_false_iff_not] at this; omega
      · have h4 := fz9_all _ n 0 h i (Nat.zero_le _) (by omega)
        have h5 := fz9_all _ (T i).n 0 h4 j (Nat.zero_le _) (by omega)
        unfold aF at h5
        split at h5
        · rename_i h6
          simp only [inB, decide_eq_true_eq, Bool.and_eq_true] at h6
          split at h5
          · rename_i h7
            exact ⟨by omega, by omega, h7⟩
          · cases h5
        · cases h5
  · cases h
/-! ### the program -/
theorem isTooLong_any (n : Nat) (a : Option Addr) (c : Nat) (w : World) (hn : n ≤ 1048576) :
    Calls Try.prog 33 #[.slice a n c] w fun e w' => e = .returned (.bool (decide (12 < n))) ∧ w' = w := by
  by_cases h : (n : Int) > 12
  · have hd : decide (12 < n) = true := by simp; omega
    rw [hd]
    go_enter Try.func33, Try.ntmps33
    go_wp2_with fail
    go_ret
    exact ⟨by simp, rfl⟩
  · have hd : decide (12 < n) = false := by simp; omega
    rw [hd]
    go_enter Try.func33, Try.ntmps33
    go_wp2_with fail
    go_ret
    exact ⟨by simp, rfl⟩
theorem bool_or9 (c : Bool) : c = true ∨ c = false := by cases c <;> simp
/-- What the search answers: the first place at which it is so, or -1. -/
def ix9 (f : Nat → Bool) : Nat → Nat → Int
  | 0, _ => -1
  | m + 1, i => if f i = true then i else ix9 f m (i + 1)
theorem ix9_at (f : Nat → Bool) {n k : Nat} (h : k < n) : ix9 f (n - k) k = if f k = true then (k : Int) else ix9 f (n - (k + 1)) (k + 1) := by
  obtain ⟨m, hm⟩ : ∃ m, n - k = m + 1 := ⟨n - k - 1, by omega⟩
  rw [hm, ix9, show n - (k + 1) = m by omega]
theorem ix9_an (f : Nat → Bool) : ∀ m i, an9 f m i = decide (0 ≤ ix9 f m i)
  | 0, i => by simp [an9, ix9]
  | m + 1, i => by
    have hi := ix9_an f m (i + 1)
    by_cases h : f i = true
    · have e1 : ix9 f (m + 1) i = i := by rw [ix9, if_pos h]
      have e2 : an9 f (m + 1) i = true := by rw [an9, if_pos h]
      rw [e1, e2]; simp
    · have e1 : ix9 f (m + 1) i = ix9 f m (i + 1) := by rw [ix9, if_neg h]
      have e2 : an9 f (m + 1) i = an9 f m (i + 1) := by rw [an9, if_neg h]
      rw [e1, e2]; exact hi
set_option maxHeartbeats 1000000 in
theorem idxLong_any (n : Nat) (T : Nat → Al) (a : Option Addr) (cap : Nat) (w : World) (hn : n ≤ 1048576) (hL : SmAl n T) (h : AlsAt w a n T) :
    Calls Try.prog 49 #[.slice a n cap, .func (.func 33) #[] #[]] w fun e w' => e = .returned (.int .i64 (ix9 (tooLong T) n 0)) ∧ w' = w := by
  have HA : Hid (AlsAt w a n T) := h
  have HL : Hid (SmAl n T) := hL
  generalize hC : ix9 (tooLong T) n 0 = C
  clear h hL
  go_enter Try.func49, Try.ntmps49
  go_wp2_with fail
  go_loop [5, 8] (fun _ i => ∃ k : Nat, k ≤ n ∧ i = .int .i64 k ∧ Hid (C = ix9 (tooLong T) (n - k) k)) (fun _ i => n - (intOf i).toNat)
  case atStart => exact ⟨0, Nat.zero_le _, rfl, hC.symm⟩
  case round =>
    obtain ⟨k, hk, rfl, HC⟩ := hrel
    by_cases hlt : k < n
    · have hlt' : (k : Int) < (n : Int) := by omega
      have hk0 : (0 : Int) ≤ (k : Int) := by omega
      rcases HA.out with h | ⟨bb, off, rfl, hl, hcc⟩
      · omega
      obtain ⟨a0, c0, x0, -, -⟩ := hcc k hlt
      have HE0 := HC.out.trans (ix9_at _ hlt)
      have hTk := HL.out k hlt
      have HD : Hid (tooLong T k = decide (12 < (T k).n)) := rfl
      clear hcc HC hC
      go_wp2_with fail
      refine (isTooLong_any (T k).n a0 c0 w hTk).mono ?_
      rintro e w1 ⟨rfl, rfl⟩
      rw [← HD.out]
      obtain hq | hq := bool_or9 (tooLong T k)
      · have HE : Hid (C = k) := by rw [if_pos hq] at HE0; exact HE0
        clear HE0
        rw [hq]
        go_wp2_with fail
        go_ret
        exact ⟨ret_int HE.out.symm, rfl⟩
      · have HE : Hid (C = ix9 (tooLong T) (n - (k + 1)) (k + 1)) := by rw [if_neg (by simpa using hq)] at HE0; exact HE0
        clear HE0
        rw [hq]
        go_wp2_with fail
        go_round
        case rel => exact ⟨k + 1, hlt, by go_num, HE⟩
        case measure => simp [intOf]; omega
    · have HE : Hid (C = -1) := by
        have h := HC.out
        rw [show n - k = 0 by omega] at h
        exact h
      clear HC hC
      have hnl : ¬ ((k : Int) < (n : Int)) := by omega
      go_wp2_with fail
      go_ret
      exact ⟨ret_int HE.out.symm, rfl⟩
theorem anyLong_any (n : Nat) (T : Nat → Al) (a : Option Addr) (cap : Nat) (w : World) (hn : n ≤ 1048576) (hL : SmAl n T) (h : AlsAt w a n T) :
    Calls Try.prog 32 #[.slice a n cap, .func (.func 33) #[] #[]] w fun e w' => e = .returned (.bool (an9 (tooLong T) n 0)) ∧ w' = w := by
  have HF : Hid (an9 (tooLong T) n 0 = decide (0 ≤ ix9 (tooLong T) n 0)) := ix9_an _ n 0
  have HQ := idxLong_any n T a cap w hn hL h
  clear hL h
  go_enter Try.func32, Try.ntmps32
  go_wp2_with fail
  refine HQ.mono ?_
  rintro e w1 ⟨rfl, rfl⟩
  generalize ix9 (tooLong T) n 0 = C at *
  go_wp2_with fail
  go_ret
  exact ⟨ret_bool HF.out.symm, rfl⟩
theorem actFault_any (r : Ac) (w : World) :
    Calls Try.prog 34 #[.agg #[.int .i64 r.k, .int .i64 r.t, .int .i64 r.y, .int .i64 r.o]] w fun e w' => e = .returned (.int .i64 (aF r)) ∧ Below w.heap.size w w' := by
  obtain ⟨k, t, y, o⟩ := r
  generalize hC : aF ⟨k, t, y, o⟩ = C
  have HE : Hid (C = if inB k 2 7 = true then (if t = 0 then 0 else 1) else 3) := hC.symm
  clear hC
  obtain hb | hb := bool_or9 (inB k 2 7)
  · by_cases ht : t = 0
    · subst ht
      have HE' : Hid (C = 0) := by have := HE.out; rwa [hb, if_pos rfl, if_pos rfl] at this
      go_enter Try.func34, Try.ntmps34
      go_wp2_with fail
      refine (within_any k 2 7 _).mono ?_
      rintro e w1 ⟨rfl, rfl⟩
      rw [hb]
      clear HE hb
      go_wp2_with fail
      go_ret
      exact ⟨ret_int HE'.out.symm, below_new _ _⟩
    · have HE' : Hid (C = 1) := by have := HE.out; rwa [hb, if_pos rfl, if_neg ht] at this
      have hne : (t != 0) = true := by simpa using ht
      clear ht
      go_enter Try.func34, Try.ntmps34
      go_wp2_with fail
      refine (within_any k 2 7 _).mono ?_
      rintro e w1 ⟨rfl, rfl⟩
      rw [hb]
      clear HE hb
      go_wp2_with fail
      go_ret
      exact ⟨ret_int HE'.out.symm, below_new _ _⟩
  · have HE' : Hid (C = 3) := by have := HE.out; rwa [hb, if_neg (by simp)] at this
    go_enter Try.func34, Try.ntmps34
    go_wp2_with fail
    refine (within_any k 2 7 _).mono ?_
    rintro e w1 ⟨rfl, rfl⟩
    rw [hb]
    clear HE hb
    go_wp2_with fail
    go_ret
    exact ⟨ret_int HE'.out.symm, below_new _ _⟩
end Go.Proofs.Ytcfenhnggccmmaa
