/- Among rising cells spec.l1With and impl.withCell answer one list. -/
import Derived.Test.YtnhkjdcbaphfcaaSw
namespace Go.Proofs.Ytnhkjdcbaphfcaa
open Go.RowKit Go.Deep
set_option linter.unusedVariables false
set_option maxRecDepth 20000

theorem lst_next (K V : Nat → Int) (i m : Nat) : lst K V i (m + 1) = lst K V i m ++ [(K (i + m), V (i + m))] := by simp [lst, List.range_succ]
theorem lst_self (L : List (Int × Int)) (i m : Nat) (h : i + m ≤ L.length) : lst (kOf L) (vOf L) i m = (L.drop i).take m := by
  apply List.ext_getElem
  · simp [lst_len]; omega
  · intro q h1 h2
    rw [lst_len] at h1
    have h3 : i + q < L.length := by omega
    simp [lst, kOf, vOf, h3]
theorem wo_small (K V : Nat → Int) (key : Int) (p : Nat) (h : ∀ j, j < p → K j < key) : ∀ k, k ≤ p → wo K V key k = lst K V 0 k
  | 0, _ => rfl
  | k + 1, hk => by
    have := h k (by omega)
    rw [wo, if_neg (by omega), wo_small K V key p h k (by omega), lst_next, Nat.zero_add]
theorem wo_big (K V : Nat → Int) (key : Int) (q : Nat) (A : List (Int × Int)) (h0 : wo K V key q = A) (n : Nat) (h : ∀ j, q ≤ j → j < n → K j ≠ key) : ∀ m, q + m ≤ n → wo K V key (q + m) = A ++ lst K V q m
  | 0, _ => by simp [h0, lst]
  | m + 1, hm => by
    rw [← Nat.add_assoc, wo, if_neg (h (q + m) (by omega) (by omega)), wo_big K V key q A h0 n h m (by omega), lst_next, List.append_assoc]
theorem pl_unique {K : Nat → Int} {key : Int} {n p : Nat} (h1 : p ≤ n) (h2 : ∀ j, j < p → K j < key) (h3 : p < n → ¬ K p < key) : pl K key n = p := by
  have hs := plc_spec K key n 0
  simp only [Nat.zero_add] at hs
  show plc K key n 0 = p
  rcases Nat.lt_trichotomy (plc K key n 0) p with h | h | h
  · exact absurd (h2 _ h) (hs.2.2.2 (by omega))
  · exact h
  · exact absurd (hs.2.2.1 p (Nat.zero_le _) h) (h3 (by omega))
theorem wo_eq {K V : Nat → Int} {key : Int} {n : Nat} (hr : Rising K n) : wo K V key n = lst K V 0 (pl K key n) ++ lst K V (nx K key n) (n - nx K key n) := by
  have hs := plc_spec K key n 0
  simp only [Nat.zero_add] at hs
  have hple := pl_le K key n
  have hpre : ∀ j, j < pl K key n → K j < key := fun j hj => hs.2.2.1 j (Nat.zero_le _) hj
  have hat : pl K key n < n → ¬ K (pl K key n) < key := fun h => hs.2.2.2 h
  have hsm := wo_small K V key _ hpre (pl K key n) (Nat.le_refl _)
  have hnx := nx_le K key n
  have hq : wo K V key (nx K key n) = lst K V 0 (pl K key n) := by
    unfold nx
    by_cases h : has K key n = true
    · rw [if_pos h, wo, if_pos (has_iff.1 h).2, hsm]
    · rw [if_neg h, hsm]
  have hbig := wo_big K V key (nx K key n) _ hq n (fun j h1 h2 e => by
    have h3 : pl K key n ≤ nx K key n := by unfold nx; split <;> omega
    by_cases e2 : j = pl K key n
    · have hh : has K key n = true := has_iff.2 ⟨by omega, by rw [← e2]; exact e⟩
      have : nx K key n = pl K key n + 1 := by unfold nx; rw [if_pos hh]
      omega
    · have h4 := hr (pl K key n) j (by omega) h2
      have h5 := hat (by omega)
      omega) (n - nx K key n) (by omega)
  rw [show nx K key n + (n - nx K key n) = n by omega] at hbig
  exact hbig
theorem ws_eq {K V : Nat → Int} {key val : Int} {n : Nat} (hr : Rising K n) : ws K V key val n = wi K V key val n := by
  have hs := plc_spec K key n 0
  simp only [Nat.zero_add] at hs
  have hpre : ∀ j, j < pl K key n → K j < key := fun j hj => hs.2.2.1 j (Nat.zero_le _) hj
  have hat : pl K key n < n → ¬ K (pl K key n) < key := fun h => hs.2.2.2 h
  have hple := pl_le K key n
  have hnx := nx_le K key n
  have hpn : pl K key n ≤ nx K key n := by unfold nx; split <;> omega
  have hL := wo_eq (V := V) (key := key) hr
  have hlen : (wo K V key n).length = pl K key n + (n - nx K key n) := by rw [hL]; simp [lst_len]
  have hkey : ∀ j, j < (wo K V key n).length → kOf (wo K V key n) j = if j < pl K key n then K j else K (nx K key n + (j - pl K key n)) := by
    intro j hj
    rw [hlen] at hj
    rw [hL]
    by_cases h : j < pl K key n
    · rw [if_pos h]
      simp [kOf, List.getElem?_append, h, lst]
    · rw [if_neg h]
      have h2 : j - pl K key n < n - nx K key n := by omega
      simp [kOf, List.getElem?_append, h, lst, h2]
  have hp : pl (kOf (wo K V key n)) key (wo K V key n).length = pl K key n := by
    refine pl_unique (by omega) (fun j hj => ?_) (fun h => ?_)
    · rw [hkey j (by omega), if_pos hj]; exact hpre j hj
    · rw [hkey _ h, if_neg (by omega), Nat.sub_self, Nat.add_zero]
      rw [hlen] at h
      by_cases e : nx K key n = pl K key n
      · rw [e]; exact hat (by omega)
      · have h4 := hr (pl K key n) (nx K key n) (by omega) (by omega)
        have h5 := hat (by omega)
        omega
  rw [ws, wi, hp, lst_self _ 0 _ (by omega), lst_self _ _ _ (by omega), hL]
  congr 1
  · congr 1
    simp [lst_len]
  · have e : List.drop (pl K key n) (lst K V 0 (pl K key n)) = [] := List.drop_of_length_le (by rw [lst_len]; exact Nat.le_refl _)
    rw [List.drop_append, e, lst_len, Nat.sub_self, List.nil_append, List.drop_zero]
    exact List.take_of_length_le (by simp [lst_len])
end Go.Proofs.Ytnhkjdcbaphfcaa
