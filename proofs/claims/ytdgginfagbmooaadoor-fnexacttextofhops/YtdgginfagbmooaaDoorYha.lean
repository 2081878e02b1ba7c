/- Hops as texts: as functions. -/
import Derived.Test.YtdgginfagbmooaaDoorYib
import Derived.Test.YtdgginfagbmooaaDoorHfa
namespace Go.Proofs.YtdgginfagbmooaaDoor
open Go.RowKit Go.Deep
set_option linter.unusedVariables false
set_option maxRecDepth 20000

def ltL : List ByteArray := [⟨#[]⟩, ⟨#[98]⟩, ⟨#[114]⟩, ⟨#[119]⟩, ⟨#[99]⟩, ⟨#[97]⟩]
def lt5 (k : Nat) : ByteArray := ltL.getD k ByteArray.empty
theorem lt5_ext : ∀ q, q < 5 → (⟨#[98, 114, 119, 99, 97]⟩ : ByteArray).extract q (q + 1) = lt5 (q + 1) := by decide
def col : ByteArray := ⟨#[58]⟩
def who (r : Hp) : ByteArray := lt5 r.k.toNat ++ dg r.t.toNat
def ht (r : Hp) : ByteArray := (if r.k = 2 then who r ++ blk ++ (dg r.y.toNat ++ col ++ dg r.o.toNat) else if r.k = 3 then who r ++ blk ++ dg r.y.toNat else who r) ++ nl
def HTx (R : Nat → Hp) : Nat → ByteArray
  | 0 => ByteArray.empty
  | m + 1 => HTx R m ++ ht (R m)
theorem hiF_good {R : Nat → Hp} : ∀ {n : Nat}, hiF R n = 0 → ∀ i, i < n → hpIn (R i) = true
  | 0, _, i, hi => by omega
  | n + 1, h, i, hi => by
    simp only [hiF] at h
    by_cases h0 : hiF R n = 0
    · rw [if_neg (by simp [h0])] at h
      by_cases e : i = n
      · rw [e]; exact (hpF_zero h).1
      · exact hiF_good h0 i (by omega)
    · rw [if_pos h0] at h
      exact absurd h h0
/-- A hop in its bounds, in natural numbers. -/
theorem hop_nat {r : Hp} (h : hpIn r = true) : ∃ k t y o : Nat, r = ⟨k, t, y, o⟩ ∧ 1 ≤ k ∧ k ≤ 5 ∧ t ≤ 999 ∧ y ≤ 31 ∧ o ≤ 999 := by
  obtain ⟨k, t, y, o⟩ := r
  simp only [hpIn, Bool.and_eq_true, inB_iff] at h
  obtain ⟨⟨⟨h1, h2⟩, h3⟩, h4⟩ := h
  exact ⟨k.toNat, t.toNat, y.toNat, o.toNat, by rw [Int.toNat_of_nonneg (by omega), Int.toNat_of_nonneg (by omega), Int.toNat_of_nonneg (by omega), Int.toNat_of_nonneg (by omega)], by omega, by omega, by omega, by omega, by omega⟩
theorem lt5_size : ∀ k, k ≤ 5 → (lt5 k).size ≤ 1 := by decide
theorem who_size {k t y o : Nat} (hk : k ≤ 5) (ht : t ≤ 999) : (who ⟨k, t, y, o⟩).size ≤ 21 := by
  have h1 := lt5_size k hk
  have h2 := dg_size t (by omega)
  have e1 : ((k : Int)).toNat = k := by omega
  have e2 : ((t : Int)).toNat = t := by omega
  simp only [who, e1, e2, ByteArray.size_append]
  omega
theorem ht_size {r : Hp} (h : hpIn r = true) : (ht r).size ≤ 70 := by
  obtain ⟨k, t, y, o, rfl, h1, h2, h3, h4, h5⟩ := hop_nat h
  have a1 := who_size (k := k) (t := t) (y := y) (o := o) h2 h3
  have a2 := dg_size y (by omega)
  have a3 := dg_size o (by omega)
  have e1 : ((y : Int)).toNat = y := by omega
  have e2 : ((o : Int)).toNat = o := by omega
  have b1 : blk.size = 1 := rfl
  have b2 : col.size = 1 := rfl
  have b3 : nl.size = 1 := rfl
  simp only [ht]
  split
  · simp only [ByteArray.size_append, e1, e2]; omega
  · split
    · simp only [ByteArray.size_append, e1]; omega
    · simp only [ByteArray.size_append]; omega
theorem HTx_size {R : Nat → Hp} {n : Nat} (h : ∀ i, i < n → hpIn (R i) = true) : ∀ m, m ≤ n → (HTx R m).size ≤ 70 * m
  | 0, _ => by simp [HTx]
  | m + 1, hm => by
    have h1 := HTx_size h m (by omega)
    have h2 := ht_size (h m (by omega))
    simp only [HTx, ByteArray.size_append]
    omega
end Go.Proofs.YtdgginfagbmooaaDoor
