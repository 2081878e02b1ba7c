/- Where a key stands among cells: its model, and the walks of spec.l1Find, impl.placeOfKey and impl.hasCell. -/
import Derived.Test.YtiflheclfgloaaaDoorSfault
namespace Go.Proofs.YtiflheclfgloaaaDoor
open Go.RowKit Go.Deep
set_option linter.unusedVariables false

def plc (K : Nat → Int) (key : Int) : Nat → Nat → Nat
  | 0, i => i
  | m + 1, i => if K i < key then plc K key m (i + 1) else i
def fnd (K : Nat → Int) (key : Int) : Nat → Nat → Int
  | 0, _ => -1
  | m + 1, i => if K i = key then (i : Int) else fnd K key m (i + 1)
theorem plc_at {K : Nat → Int} {key : Int} {n k : Nat} (h : k < n) : plc K key (n - k) k = if K k < key then plc K key (n - (k + 1)) (k + 1) else k := by
  obtain ⟨m, hm⟩ : ∃ m, n - k = m + 1 := ⟨n - k - 1, by omega⟩
  rw [hm, plc, show n - (k + 1) = m by omega]
theorem fnd_at {K : Nat → Int} {key : Int} {n k : Nat} (h : k < n) : fnd K key (n - k) k = if K k = key then (k : Int) else fnd K key (n - (k + 1)) (k + 1) := by
  obtain ⟨m, hm⟩ : ∃ m, n - k = m + 1 := ⟨n - k - 1, by omega⟩
  rw [hm, fnd, show n - (k + 1) = m by omega]
theorem plc_spec (K : Nat → Int) (key : Int) : ∀ m i, i ≤ plc K key m i ∧ plc K key m i ≤ i + m ∧ (∀ j, i ≤ j → j < plc K key m i → K j < key) ∧ (plc K key m i < i + m → ¬ K (plc K key m i) < key)
  | 0, i => by simp only [plc]; exact ⟨Nat.le_refl _, by omega, fun j _ _ => by omega, fun h => by omega⟩
  | m + 1, i => by
    have ih := plc_spec K key m (i + 1)
    by_cases h : K i < key
    · simp only [plc, if_pos h]
      refine ⟨by omega, by omega, fun j h1 h2 => ?_, fun h1 => ih.2.2.2 (by omega)⟩
      by_cases e : j = i
      · subst e; exact h
      · exact ih.2.2.1 j (by omega) h2
    · simp only [plc, if_neg h]
      exact ⟨Nat.le_refl _, by omega, fun j h1 h2 => by omega, fun _ => h⟩
/-- The place of a key among n cells. -/
def pl (K : Nat → Int) (key : Int) (n : Nat) : Nat := plc K key n 0
def has (K : Nat → Int) (key : Int) (n : Nat) : Bool := decide (pl K key n < n) && decide (K (pl K key n) = key)
theorem has_iff {K : Nat → Int} {key : Int} {n : Nat} : has K key n = true ↔ pl K key n < n ∧ K (pl K key n) = key := by simp [has]
def Rising (K : Nat → Int) (n : Nat) : Prop := ∀ i j, i < j → j < n → K i < K j
theorem fnd_none {K : Nat → Int} {key : Int} : ∀ m i, (∀ j, i ≤ j → j < i + m → K j ≠ key) → fnd K key m i = -1
  | 0, i, _ => rfl
  | m + 1, i, h => by
    rw [fnd, if_neg (h i (Nat.le_refl _) (by omega))]
    exact fnd_none m (i + 1) fun j h1 h2 => h j (by omega) (by omega)
theorem fnd_some {K : Nat → Int} {key : Int} {p : Nat} : ∀ m i, i ≤ p → p < i + m → K p = key → (∀ j, i ≤ j → j < p → K j ≠ key) → fnd K key m i = p
  | 0, i, _, _, _, _ => by omega
  | m + 1, i, h1, h2, h3, h4 => by
    rw [fnd]
    by_cases e : i = p
    · subst e; rw [if_pos h3]
    · rw [if_neg (h4 i (Nat.le_refl _) (by omega))]
      exact fnd_some m (i + 1) (by omega) (by omega) h3 fun j a b => h4 j (by omega) b
theorem fnd_eq {K : Nat → Int} {key : Int} {n : Nat} (hr : Rising K n) : fnd K key n 0 = if has K key n = true then (pl K key n : Int) else -1 := by
  have hs := plc_spec K key n 0
  simp only [Nat.zero_add] at hs
  by_cases h : has K key n = true
  · rw [if_pos h]
    rw [has_iff] at h
    refine fnd_some n 0 (Nat.zero_le _) (by omega) h.2 fun j _ hj => ?_
    have := hs.2.2.1 j (Nat.zero_le _) hj
    omega
  · rw [if_neg h]
    rw [has_iff] at h
    refine fnd_none n 0 fun j _ hj e => h ?_
    have h1 : ¬ j < plc K key n 0 := fun hj2 => by have := hs.2.2.1 j (Nat.zero_le _) hj2; omega
    have h3 : plc K key n 0 < n := by omega
    have h4 := hs.2.2.2 h3
    by_cases e2 : plc K key n 0 = j
    · exact ⟨h3, by show K (plc K key n 0) = key; rw [e2]; exact e⟩
    · have := hr _ j (show plc K key n 0 < j by omega) (by omega)
      omega
/-- A page without a fault: its cells rise. -/
theorem cff_zero {K V : Nat → Int} : ∀ m i, cff K V m i = 0 → ∀ j, i ≤ j → j < i + m → (inB (K j) 0 31 = true ∧ inB (V j) 0 9999 = true ∧ (0 < j → K (j - 1) < K j))
  | 0, i, _ => fun j _ _ => by omega
  | m + 1, i, h => fun j h1 h2 => by
    rw [cff] at h
    by_cases c1 : inB (K i) 0 31 = false ∨ inB (V i) 0 9999 = false
    · rw [if_pos c1] at h; omega
    · rw [if_neg c1] at h
      by_cases c2 : 0 < i ∧ K i ≤ K (i - 1)
      · rw [if_pos c2] at h; omega
      · rw [if_neg c2] at h
        by_cases e : j = i
        · subst e
          refine ⟨?_, ?_, fun h0 => by omega⟩
          · cases hh : inB (K j) 0 31 with
            | true => rfl
            | false => exact absurd (.inl hh) c1
          · cases hh : inB (V j) 0 9999 with
            | true => rfl
            | false => exact absurd (.inr hh) c1
        · exact cff_zero m (i + 1) h j (by omega) (by omega)
structure GoodP (idn lsn : Int) (n : Nat) (K V : Nat → Int) : Prop where
  gid : inB idn 0 7 = true
  glsn : inB lsn 0 1000000 = true
  gn : n ≤ 12
  gkey : ∀ i, i < n → 0 ≤ K i ∧ K i ≤ 31
  gval : ∀ i, i < n → 0 ≤ V i ∧ V i ≤ 9999
  grise : Rising K n
theorem good_of {idn lsn : Int} {n : Nat} {K V : Nat → Int} (h : pf idn lsn n K V = 0) : GoodP idn lsn n K V := by
  unfold pf at h
  by_cases c1 : inB idn 0 7 = false ∨ inB lsn 0 1000000 = false
  · rw [if_pos c1] at h; omega
  · rw [if_neg c1] at h
    by_cases c2 : 12 < n
    · rw [if_pos c2] at h; omega
    · rw [if_neg c2] at h
      have hz := cff_zero n 0 h
      have hstep : ∀ i, i + 1 < n → K i < K (i + 1) := fun i hi => by
        have := (hz (i + 1) (Nat.zero_le _) (by omega)).2.2 (by omega)
        simpa using this
      refine ⟨?_, ?_, by omega, fun i hi => inB_iff.1 (hz i (Nat.zero_le _) (by omega)).1, fun i hi => inB_iff.1 (hz i (Nat.zero_le _) (by omega)).2.1, ?_⟩
      · cases hh : inB idn 0 7 with
        | true => rfl
        | false => exact absurd (.inl hh) c1
      · cases hh : inB lsn 0 1000000 with
        | true => rfl
        | false => exact absurd (.inr hh) c1
      · intro i j hij
        induction j with
        | zero => omega
        | succ j ih =>
          intro hj
          by_cases e : i = j
          · subst e; exact hstep i hj
          · have h1 := ih (by omega) (by omega)
            have h2 := hstep j hj
            omega

/-! ### the walks -/
theorem pl_le (K : Nat → Int) (key : Int) (n : Nat) : pl K key n ≤ n := by have := (plc_spec K key n 0).2.1; unfold pl; omega
end Go.Proofs.YtiflheclfgloaaaDoor
