/- Strings: rows of them that the call makes; a byte of one; the number that digits are. -/
import Derived.Test.YtfipdkhbehfohaaDoorBase
import Derived.Laws.AppendOwn
import Derived.OwnWalk
import Derived.Deep.AppendLies
import Derived.Deep.RegionLaw
import Derived.Deep.DeepCutAuto
namespace Go.Proofs.YtfipdkhbehfohaaDoor
open Go.RowKit Go.Deep
set_option linter.unusedVariables false
set_option maxRecDepth 20000

/-- The i-th byte. -/
def bt (s : ByteArray) (i : Nat) : Int := ((s.data.toList.getD i 0).toNat : Int)
theorem bt_bd (s : ByteArray) (i : Nat) : 0 ≤ bt s i ∧ bt s i ≤ 255 := by
  have := (s.data.toList.getD i 0).toNat_lt
  unfold bt
  omega
theorem bt_at (s : ByteArray) (i : Nat) (h : i < s.size) : ((s[i]'h).toNat : Int) = bt s i := by
  obtain ⟨⟨l⟩⟩ := s
  have hl : i < l.length := h
  have e : (ByteArray.mk ⟨l⟩)[i]'h = l.getD i 0 := by
    simp only [List.getD, List.getElem?_eq_getElem hl, Option.getD_some]
    rfl
  rw [e]
  rfl
/-- What the first k digits make. -/
def dv (s : ByteArray) : Nat → Int
  | 0 => 0
  | k + 1 => 10 * dv s k + (bt s k - 48)
def dok (s : ByteArray) : Nat → Bool
  | 0 => true
  | k + 1 => dok s k && decide (48 ≤ bt s k ∧ bt s k ≤ 57)
theorem dok_le {s : ByteArray} {k m : Nat} (h : dok s m = true) (hk : k ≤ m) : dok s k = true := by
  induction m with
  | zero => have : k = 0 := by omega
            subst this; rfl
  | succ m ih =>
    by_cases e : k = m + 1
    · subst e; exact h
    · simp only [dok, Bool.and_eq_true] at h
      exact ih h.1 (by omega)
theorem dok_not {s : ByteArray} {k m : Nat} (hk : k < m) (h : ¬ (48 ≤ bt s k ∧ bt s k ≤ 57)) : dok s m = false := by
  cases e : dok s m with
  | false => rfl
  | true =>
    have := dok_le e (show k + 1 ≤ m by omega)
    simp only [dok, Bool.and_eq_true, decide_eq_true_eq] at this
    exact absurd this.2 h
theorem dv_bd {s : ByteArray} : ∀ {k : Nat}, dok s k = true → 0 ≤ dv s k ∧ dv s k < (10 ^ k : Nat)
  | 0, _ => by simp [dv]
  | k + 1, h => by
    simp only [dok, Bool.and_eq_true, decide_eq_true_eq] at h
    have ih := dv_bd (k := k) h.1
    simp only [dv, Nat.pow_succ]
    omega
theorem dv_small {s : ByteArray} {k : Nat} (h : dok s k = true) (hk : k ≤ 9) : 0 ≤ dv s k ∧ dv s k < 1000000000 := by
  have h1 := dv_bd h
  have h2 : 10 ^ k ≤ 10 ^ 9 := Nat.pow_le_pow_right (by decide) hk
  omega
/-- The number that a word is. -/
def numB (s : ByteArray) : Bool := decide (s.size ≤ 9) && dok s s.size
def numV (s : ByteArray) : Int := if numB s = true then dv s s.size else 0
end Go.Proofs.YtfipdkhbehfohaaDoor
