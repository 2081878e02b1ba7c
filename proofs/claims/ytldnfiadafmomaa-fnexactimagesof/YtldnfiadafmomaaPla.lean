/- What a good disk is; answers that are disks. impl.PlaceDisk: an answer that is a disk. -/
import Derived.Test.YtldnfiadafmomaaLcp
import Derived.Test.YtldnfiadafmomaaDg
namespace Go.Proofs.Ytldnfiadafmomaa
open Go.RowKit Go.Deep
set_option linter.unusedVariables false
set_option maxRecDepth 20000

/-- A disk without a fault. -/
structure GoodD (D : Dk) : Prop where
  n1 : 1 ≤ D.n
  n8 : D.n ≤ 8
  L : ∀ i, i < D.n → D.L i = 48
  m : D.m ≤ 60
  P : ∀ i, i < D.m → 0 ≤ D.P i ∧ D.P i < D.n
  T : ∀ i, i < D.m → 0 ≤ D.T i ∧ D.T i ≤ 2
  M : ∀ i, i < D.m → D.M i = 16
theorem pgf_zero {L : Nat → Nat} : ∀ {f k : Nat}, pgf L f k = 0 → ∀ i, k ≤ i → i < k + f → L i = 48
  | 0, k, _, i, h1, h2 => by omega
  | f + 1, k, h, i, h1, h2 => by
    rw [pgf] at h
    by_cases e : L k = 48
    · rw [if_pos e] at h
      by_cases d : i = k
      · subst d; exact e
      · exact pgf_zero h i (by omega) (by omega)
    · rw [if_neg e] at h; omega
theorem lsf_zero {n : Nat} {P T : Nat → Int} {M : Nat → Nat} : ∀ {f k : Nat}, lsf n P T M f k = 0 → ∀ i, k ≤ i → i < k + f → (0 ≤ P i ∧ P i < n) ∧ (0 ≤ T i ∧ T i ≤ 2) ∧ M i = 16
  | 0, k, _, i, h1, h2 => by omega
  | f + 1, k, h, i, h1, h2 => by
    rw [lsf] at h
    by_cases e : inB (P k) 0 ((n : Int) - 1) = false ∨ inB (T k) 0 2 = false
    · rw [if_pos e] at h; omega
    · rw [if_neg e] at h
      by_cases e2 : M k = 16
      · rw [if_pos e2] at h
        by_cases d : i = k
        · subst d
          simp [inB] at e
          exact ⟨⟨by omega, by omega⟩, ⟨by omega, by omega⟩, e2⟩
        · exact lsf_zero h i (by omega) (by omega)
      · rw [if_neg e2] at h; omega
theorem goodD_of {D : Dk} (h : df D = 0) : GoodD D := by
  unfold df at h
  by_cases h1 : inB D.n 1 8 = false
  · rw [if_pos h1] at h; omega
  · rw [if_neg h1] at h
    simp [inB] at h1
    by_cases h2 : pgf D.L D.n 0 = 1
    · rw [if_pos h2] at h; omega
    · rw [if_neg h2] at h
      have h3 : pgf D.L D.n 0 = 0 := by
        rcases pgf_01 D.L D.n 0 with h | h
        · exact h
        · exact absurd h h2
      by_cases h4 : 60 < D.m
      · rw [if_pos h4] at h; omega
      · rw [if_neg h4] at h
        have hl := fun i (hi : i < D.m) => lsf_zero h i (Nat.zero_le _) (by omega)
        exact ⟨by omega, by omega, fun i hi => pgf_zero h3 i (Nat.zero_le _) (by omega), by omega, fun i hi => (hl i hi).1, fun i hi => (hl i hi).2.1, fun i hi => (hl i hi).2.2⟩
/-- The disk of an answer with a code. -/
def E0 : Dk := ⟨0, fun _ => 0, fun _ _ => 0, 0, fun _ => 0, fun _ => 0, fun _ => 0, fun _ _ => 0⟩
def rD (c : Int) (X : Dk) : Dk := if c = 0 then X else E0
def DRes (c : Int) (X : Dk) (w : World) (e : Ending) (w' : World) : Prop :=
  ∃ a a' cap cap', e = .returned (.agg #[.int .i64 c, .slice a (rD c X).n cap, .slice a' (rD c X).m cap']) ∧ Below w.heap.size w w' ∧ OwnD w' w.heap.size w'.heap.size a a' (rD c X)
theorem dres_bad {c : Int} {X : Dk} {w w' : World} (hb : Below w.heap.size w w') (hc : c ≠ 0) : DRes c X w (.returned (.agg #[.int .i64 c, .slice none 0 0, .slice none 0 0])) w' := by
  unfold DRes rD
  rw [if_neg hc]
  exact ⟨none, none, 0, 0, rfl, hb, Nat.le_refl _, w.heap.size, w.heap.size, w.heap.size, w.heap.size, Nat.le_refl _, hb.size, Nat.le_refl _, hb.size, .inl (Nat.le_refl _), ⟨hb.size, .inl rfl⟩, ⟨hb.size, .inl rfl⟩⟩
theorem shl_get (Z : Nat → Nat → Int) : ∀ n i q, i < n → q < 48 → (shl Z n)[i * 48 + q]? = (bvs (Z i) 48)[q]?
  | 0, i, q, h, _ => by omega
  | n + 1, i, q, h, hq => by
    simp only [shl]
    by_cases e : i = n
    · subst e
      rw [List.getElem?_append_right (by rw [shl_len]; omega), shl_len]
      congr 1; omega
    · rw [List.getElem?_append_left (by rw [shl_len]; omega)]
      exact shl_get Z n i q (by omega) hq
theorem shl_range {w : World} {base b n c : Nat} {Z : Nat → Nat → Int} (h : w.ownsRow base 66 48 (.slice (some ⟨b, 0, none⟩) n c) n (shl Z n)) : ∀ i, i < n → w.rangeAt b (i * 48) (bvs (Z i) 48) := fun i hi j v hv => by
  obtain ⟨hj, rfl⟩ := bvs_get _ _ _ _ hv
  rw [h.cellAt (i * 48 + j) (by omega), shl_get Z n i j hi hj, hv]
end Go.Proofs.Ytldnfiadafmomaa
