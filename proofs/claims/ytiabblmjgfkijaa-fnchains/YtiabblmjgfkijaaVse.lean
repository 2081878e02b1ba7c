/- What a purge leaves tells the same. -/
import Derived.Test.YtiabblmjgfkijaaVsd
import Derived.Test.YtiabblmjgfkijaaVl
namespace Go.Proofs.Ytiabblmjgfkijaa
open Go.RowKit Go.Deep
set_option linter.unusedVariables false
set_option maxRecDepth 20000

theorem psn_before (R : Nat → Vr) (x o : Int) : ∀ m i j, i ≤ j → j < psn R x o m i → kd (R j) x o = 0
  | 0, i, j, h1, h2 => by rw [psn] at h2; omega
  | m + 1, i, j, h1, h2 => by
    rw [psn] at h2
    by_cases e : kd (R i) x o = 0
    · rw [if_pos e] at h2
      by_cases e2 : j = i
      · subst e2; exact e
      · exact psn_before R x o m (i + 1) j (by omega) h2
    · rw [if_neg e] at h2; omega
theorem psn_of (R : Nat → Vr) (x o : Int) (p : Nat) : ∀ m i, i ≤ p → p ≤ i + m → (∀ j, i ≤ j → j < p → kd (R j) x o = 0) → (p < i + m → kd (R p) x o ≠ 0) → psn R x o m i = p
  | 0, i, h1, h2, _, _ => by rw [psn]; omega
  | m + 1, i, h1, h2, h3, h4 => by
    rw [psn]
    by_cases e : i = p
    · subst e
      rw [if_neg (h4 (by omega))]
    · rw [if_pos (h3 i (Nat.le_refl _) (by omega))]
      exact psn_of R x o p m (i + 1) (by omega) (by omega) (fun j a b => h3 j (by omega) b) (fun a => h4 (by omega))
theorem pS_before {n : Nat} {R : Nat → Vr} {x o : Int} {j : Nat} (h : j < pS n R x o) : kd (R j) x o = 0 := psn_before R x o n 0 j (Nat.zero_le _) h
theorem pS_of {n : Nat} {R : Nat → Vr} {x o : Int} {p : Nat} (h1 : p ≤ n) (h2 : ∀ j, j < p → kd (R j) x o = 0) (h3 : p < n → kd (R p) x o ≠ 0) : pS n R x o = p :=
  psn_of R x o p n 0 (Nat.zero_le _) (by omega) (fun j _ b => h2 j b) (fun a => h3 (by omega))
theorem pS_at {n : Nat} {R : Nat → Vr} {x o : Int} (h : pS n R x o < n) : kd (R (pS n R x o)) x o ≠ 0 := (psn_le R x o n 0).2 (by unfold pS at h; omega)
theorem chf_zero {R : Nat → Vr} : ∀ {m i : Nat}, (∀ j, i ≤ j → j < i + m → vR (R j) = true ∧ vF R j = false) → chf R m i = 0
  | 0, i, _ => by rw [chf]
  | m + 1, i, h => by
    have h0 := h i (Nat.le_refl _) (by omega)
    rw [chf, h0.1, h0.2, if_neg (by simp), if_neg (by simp)]
    exact chf_zero fun j a b => h j (by omega) (by omega)
theorem chF_less {m n : Nat} {R : Nat → Vr} (h : chF n R = 0) (hm : m ≤ n) : chF m R = 0 := by
  have hg := chF_good h
  unfold chF
  rw [if_neg (by omega)]
  exact chf_zero fun j _ b => hg.2 j (by omega)
theorem kd_up {n : Nat} {R : Nat → Vr} {f x o : Int} {i : Nat} (hc : chF n R = 0) (hi : i < n) (hx : f ≤ x) (h : kd (R i) f 0 ≠ 0) : kd (R i) x o ≠ 0 := by
  have h1 : (R i).a ≠ 0 ∧ (R i).a ≤ f := Classical.byContradiction fun h9 => h ((kd_nobody hc hi).2 h9)
  unfold kd
  rw [if_pos (.inl ⟨h1.1, by omega⟩)]
  cases (R i).g <;> simp
/-- Seen through a view that is not behind the floor. -/
theorem pu_told {n : Nat} {R : Nat → Vr} {f x : Int} (o : Int) (hc : chF n R = 0) (hx : f ≤ x) :
    told (puN n R f) R x o = told n R x o ∧ (told n R x o = true → pS (puN n R f) R x o = pS n R x o) := by
  have hp := pS_le n R f 0
  have hq := pS_le n R x o
  have hM := puN_le n R f
  have hqp : pS n R x o ≤ pS n R f 0 := by
    by_cases h : pS n R f 0 < n
    · have h1 := kd_up (o := o) hc h hx (pS_at h)
      exact Nat.not_lt.1 fun h9 => h1 (pS_before h9)
    · omega
  have hMp : pS n R f 0 ≤ puN n R f := by unfold puN; split <;> omega
  by_cases h : pS n R x o < puN n R f
  · have e : pS (puN n R f) R x o = pS n R x o := pS_of (by omega) (fun j hj => pS_before hj) (fun _ => pS_at (by omega))
    refine ⟨?_, fun _ => e⟩
    unfold told
    rw [e]
    have a1 : decide (pS n R x o < puN n R f) = true := by simp; exact h
    have a2 : decide (pS n R x o < n) = true := by simp; omega
    rw [a1, a2]
  · have e1 : pS n R x o = puN n R f := by omega
    have e2 : pS n R f 0 = puN n R f := by omega
    have e : pS (puN n R f) R x o = puN n R f := pS_of (Nat.le_refl _) (fun j hj => pS_before (n := n) (by omega)) (fun h9 => absurd h9 (Nat.lt_irrefl _))
    have t1 : told (puN n R f) R x o = false := by unfold told; rw [e]; simp
    have t2 : ¬ told n R x o = true := fun h9 => by
      have h8 := told_iff.1 h9
      have h7 : told n R f 0 = true := told_iff.2 (by rw [e2, ← e1]; exact h8)
      have h6 : puN n R f = pS n R f 0 + 1 := by unfold puN; rw [if_pos h7]
      omega
    refine ⟨?_, fun h9 => absurd h9 t2⟩
    rw [t1]
    simpa using t2
theorem pu_seC {n : Nat} {R : Nat → Vr} {f x : Int} (o : Int) (hc : chF n R = 0) (hx : f ≤ x) : seC (puN n R f) R x o = seC n R x o := by
  have h := pu_told o hc hx
  unfold seC avC
  rw [chF_less hc (puN_le n R f), hc, h.1]
theorem pu_seV {n : Nat} {R : Nat → Vr} {f x : Int} (o : Int) (hc : chF n R = 0) (hx : f ≤ x) : seV (puN n R f) R x o = seV n R x o := by
  have h := pu_told o hc hx
  unfold seV avC
  rw [chF_less hc (puN_le n R f), hc, h.1]
  by_cases ht : told n R x o = true
  · rw [h.2 ht]
  · simp only [if_neg ht]
theorem pu_mwC {n : Nat} {R : Nat → Vr} {f x : Int} (o : Int) (hc : chF n R = 0) (hx : f ≤ x) : mwC (puN n R f) R x o = mwC n R x o := by
  have hb : mayB (puN n R f) R x o = mayB n R x o := by
    have hM := puN_le n R f
    by_cases h0 : n = 0
    · have : puN n R f = n := by omega
      rw [this]
    · by_cases h1 : puN n R f = 0
      · have hp : pS n R f 0 = 0 := by unfold puN at h1; split at h1 <;> omega
        have hk := pS_at (n := n) (R := R) (x := f) (o := 0) (by omega)
        rw [hp] at hk
        have h2 : (R 0).a ≠ 0 ∧ (R 0).a ≤ f := Classical.byContradiction fun h9 => hk ((kd_nobody hc (by omega)).2 h9)
        unfold mayB
        rw [h1, if_neg h2.1]
        have h3 : decide ((R 0).a ≤ x) = true := by simp; omega
        rw [h3]
        simp
      · unfold mayB
        have a1 : decide (n = 0) = false := by simpa using h0
        have a2 : decide (puN n R f = 0) = false := by simpa using h1
        rw [a1, a2]
  unfold mwC avC
  rw [chF_less hc (puN_le n R f), hc, hb]
theorem pu_again {n : Nat} {R : Nat → Vr} {f : Int} (hc : chF n R = 0) : puN (puN n R f) R f = puN n R f := by
  have h := pu_told (f := f) 0 hc (Int.le_refl f)
  by_cases ht : told n R f 0 = true
  · have e : puN n R f = pS n R f 0 + 1 := by rw [puN, if_pos ht]
    have e2 := h.2 ht
    rw [← h.1] at ht
    show (if told (puN n R f) R f 0 = true then pS (puN n R f) R f 0 + 1 else pS (puN n R f) R f 0) = _
    rw [if_pos ht, e2, e]
  · have e : puN n R f = pS n R f 0 := by rw [puN, if_neg ht]
    rw [← h.1] at ht
    show (if told (puN n R f) R f 0 = true then pS (puN n R f) R f 0 + 1 else pS (puN n R f) R f 0) = _
    rw [if_neg ht]
    refine pS_of (Nat.le_refl _) (fun j hj => pS_before (n := n) (by omega)) (fun h9 => absurd h9 (Nat.lt_irrefl _))
end Go.Proofs.Ytiabblmjgfkijaa
