/- Stores whose lists are short: what the laws over answers ask. -/
import Derived.Test.YtannmobmmnoegaaGreatQZee
import Derived.Test.YtannmobmmnoegaaGreatQDf
namespace Go.Proofs.YtannmobmmnoegaaGreat
open Go.ChangeShapes Go.WideShapes Go.ChangeAt Go.RowKit Go.Deep Go.Joins
set_option linter.unusedVariables false
set_option maxRecDepth 20000

theorem smf9_few (f : Nat → Nat) (c : Nat) : ∀ n, (∀ i, i < n → f i ≤ c) → smf9 f n ≤ n * c
  | 0, _ => by simp [smf9]
  | n + 1, h => by
    have h1 := smf9_few f c n fun i hi => h i (by omega)
    have h2 := h n (by omega)
    have h3 : smf9 f (n + 1) = smf9 f n + f n := by simp [smf9]
    rw [h3, Nat.succ_mul]
    omega
theorem sumL_few (L : Nat → Nat) (c : Nat) : ∀ n, (∀ i, i < n → L i ≤ c) → sumL L n ≤ n * c
  | 0, _ => by simp [sumL]
  | n + 1, h => by
    have h1 := sumL_few L c n fun i hi => h i (by omega)
    have h2 := h n (by omega)
    have h3 : sumL L (n + 1) = sumL L n + L n := by simp [sumL]
    rw [h3, Nat.succ_mul]
    omega
/-- Four pages of at most 12 cells, a good disk, a log of at most 4000 bytes, few held and open. -/
theorem few_of {t : Sto} (h1 : t.pn = 4) (h2 : ∀ i, i < 4 → (t.pT i).cn ≤ 12) (h3 : GoodD t.d) (h4 : t.g.n1 + t.g.n2 ≤ 4000) (h5 : t.hn ≤ 32) (h6 : t.on ≤ 999) : FewS t := by
  have e1 : smPg t.pT t.pn ≤ t.pn * 12 := smf9_few _ 12 t.pn fun i hi => h2 i (by omega)
  have e2 := sPg_eq t.pT t.pn
  have e3 : sumL t.d.L t.d.n ≤ t.d.n * 48 := sumL_few _ 48 _ fun i hi => by rw [h3.L i hi]; exact Nat.le_refl _
  have e4 : sumL t.d.M t.d.m ≤ t.d.m * 16 := sumL_few _ 16 _ fun i hi => by rw [h3.M i hi]; exact Nat.le_refl _
  have e5 := s2_eq t.d.M t.d.m
  have e6 := h3.n8
  have e7 := h3.m
  refine ⟨⟨⟨by omega, fun i hi => ⟨by have := h2 i (by omega); omega, trivial⟩, by omega⟩, ⟨by omega, by omega, fun i hi => by rw [h3.L i hi]; omega, fun i hi => by rw [h3.M i hi]; omega, by omega, by omega⟩, ⟨by omega, by omega⟩, by omega, by omega⟩, ?_⟩
  have e8 : tot t.d = sumL t.d.L t.d.n + s2 t.d.M t.d.m := rfl
  omega
theorem GoodSt.cells {t : Sto} (h : GoodSt t) : ∀ i, i < 4 → (t.pT i).cn ≤ 12 := fun i hi => (good_of (h.pg i hi).1).gn
/-- What BeginStore answers is short. -/
theorem bg_few (t : Sto) : FewS (bgT t) := by
  unfold bgT
  by_cases c : bgC t = 0
  · rw [if_pos c]
    unfold bgC at c
    by_cases h0 : stF t = 0
    · rw [if_pos h0] at c
      have hG := stF_good h0
      by_cases k1 : t.nx = 999 ∨ 20 ≤ t.on
      · rw [if_pos k1] at c; omega
      · rw [if_neg k1] at c
        by_cases k2 : t.g.n1 + t.g.n2 + 13 ≤ 4000
        · exact few_of hG.pn hG.cells (goodD_of hG.df) (show t.g.n1 + (t.g.n2 + 13) ≤ 4000 by omega) (hdF_few hG.hd) (show t.on + 1 ≤ 999 by omega)
        · rw [if_neg k2] at c; omega
    · rw [if_neg h0] at c; exact absurd c h0
  · rw [if_neg c]; exact zSt_few
end Go.Proofs.YtannmobmmnoegaaGreat
