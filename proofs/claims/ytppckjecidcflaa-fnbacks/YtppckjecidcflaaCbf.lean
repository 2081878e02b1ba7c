/- What is left of puts: the numbers fall, each is a put of the transaction, and one undo more takes the first away. -/
import Derived.Test.YtppckjecidcflaaCba
namespace Go.Proofs.Ytppckjecidcflaa
open Go.RowKit Go.Deep
set_option linter.unusedVariables false
set_option maxRecDepth 20000

theorem bkL_mem (R : Nat → Rc) (txn : Int) (n : Nat) : ∀ j, j ≤ n → ∀ y, y ∈ bkL R txn n j → ∃ i : Nat, n - j ≤ i ∧ i < n ∧ y = ((i + 1 : Nat) : Int) ∧ (R i).t = txn ∧ (R i).k = 2
  | 0, _, y, hy => by simp [bkL] at hy
  | j + 1, hj, y, hy => by
    simp only [bkL] at hy
    split at hy
    · rename_i h
      rcases List.mem_append.1 hy with h1 | h1
      · obtain ⟨i, k1, k2, k3⟩ := bkL_mem R txn n j (by omega) y h1
        exact ⟨i, by omega, k2, k3⟩
      · simp only [List.mem_singleton] at h1
        exact ⟨n - 1 - j, by omega, by omega, by rw [h1, show n - 1 - j + 1 = n - j by omega], h.1, h.2.1⟩
    · obtain ⟨i, k1, k2, k3⟩ := bkL_mem R txn n j (by omega) y hy
      exact ⟨i, by omega, k2, k3⟩
theorem bkL_falls (R : Nat → Rc) (txn : Int) (n : Nat) : ∀ j, j ≤ n → (bkL R txn n j).Pairwise (fun a b => b < a)
  | 0, _ => by simp [bkL]
  | j + 1, hj => by
    have ih := bkL_falls R txn n j (by omega)
    simp only [bkL]
    split
    · refine List.pairwise_append.2 ⟨ih, List.pairwise_singleton _ _, fun a ha b hb => ?_⟩
      simp only [List.mem_singleton] at hb
      obtain ⟨i, k1, k2, k3, _⟩ := bkL_mem R txn n j (by omega) a ha
      omega
    · exact ih
/-- One record more, an undo of x. -/
theorem gnL_more {R R' : Nat → Rc} {txn x : Int} {n : Nat} (hR : ∀ i, i < n → R' i = R i) (hu : (R' n).t = txn ∧ (R' n).k = 5 ∧ (R' n).bk = x) : ∀ j, j ≤ n → gnL R' txn (n + 1) (j + 1) = [x] ++ gnL R txn n j
  | 0, _ => by
    simp only [gnL, show n + 1 - 1 - 0 = n by omega, hu.1, hu.2.1, hu.2.2, and_self, if_true]
    rfl
  | j + 1, hj => by
    have ih := gnL_more hR hu j (by omega)
    have e : n + 1 - 1 - (j + 1) = n - 1 - j := by omega
    rw [gnL, e, hR (n - 1 - j) (by omega), ih]
    simp only [gnL]
    split
    · rw [List.append_assoc]
    · rfl
theorem bkL_more {R R' : Nat → Rc} {txn x : Int} {n : Nat} (hR : ∀ i, i < n → R' i = R i) (hu : (R' n).t = txn ∧ (R' n).k = 5 ∧ (R' n).bk = x) : ∀ j, j ≤ n → bkL R' txn (n + 1) (j + 1) = (bkL R txn n j).filter (fun y => decide (y ≠ x))
  | 0, _ => by
    have h : ¬ ((R' (n + 1 - 1 - 0)).t = txn ∧ (R' (n + 1 - 1 - 0)).k = 2 ∧ ((n + 1 - 0 : Nat) : Int) ∉ gnL R' txn (n + 1) 0) := fun h => by
      have h2 := h.2.1
      rw [show n + 1 - 1 - 0 = n by omega, hu.2.1] at h2
      omega
    simp only [bkL, if_neg h]
    rfl
  | j + 1, hj => by
    have ih := bkL_more hR hu j (by omega)
    have eg := gnL_more hR hu j (by omega)
    have e : n + 1 - 1 - (j + 1) = n - 1 - j := by omega
    have e2 : n + 1 - (j + 1) = n - j := by omega
    rw [bkL, e, e2, hR (n - 1 - j) (by omega), ih, eg]
    simp only [bkL]
    by_cases h1 : (R (n - 1 - j)).t = txn ∧ (R (n - 1 - j)).k = 2
    · by_cases h2 : ((n - j : Nat) : Int) ∈ gnL R txn n j
      · rw [if_neg (fun h => h.2.2 (List.mem_append.2 (.inr h2))), if_neg (fun h => h.2.2 h2)]
      · rw [if_pos (show (R (n - 1 - j)).t = txn ∧ (R (n - 1 - j)).k = 2 ∧ ((n - j : Nat) : Int) ∉ gnL R txn n j from ⟨h1.1, h1.2, h2⟩), List.filter_append]
        by_cases h3 : ((n - j : Nat) : Int) = x
        · rw [if_neg (fun h => h.2.2 (List.mem_append.2 (.inl (by rw [h3]; simp))))]
          simp [h3]
        · rw [if_pos ⟨h1.1, h1.2, fun h => by
            rcases List.mem_append.1 h with k | k
            · simp only [List.mem_singleton] at k; exact h3 k
            · exact h2 k⟩]
          simp [h3]
    · rw [if_neg (fun h => h1 ⟨h.1, h.2.1⟩), if_neg (fun h => h1 ⟨h.1, h.2.1⟩)]
/-- One undo more of the first one that is left: the others are left. -/
theorem bkL_undo {R R' : Nat → Rc} {txn x : Int} {n : Nat} {xs : List Int} (hR : ∀ i, i < n → R' i = R i) (hu : (R' n).t = txn ∧ (R' n).k = 5 ∧ (R' n).bk = x) (hx : bkL R txn n n = x :: xs) : bkL R' txn (n + 1) (n + 1) = xs := by
  rw [bkL_more hR hu n (Nat.le_refl _), hx]
  have hp := bkL_falls R txn n n (Nat.le_refl _)
  rw [hx] at hp
  have hp2 := (List.pairwise_cons.1 hp).1
  rw [List.filter_cons]
  simp only [ne_eq, not_true_eq_false, decide_false, Bool.false_eq_true, if_false]
  refine List.filter_eq_self.2 fun a ha => ?_
  have := hp2 a ha
  simp only [decide_eq_true_eq]
  omega
end Go.Proofs.Ytppckjecidcflaa
