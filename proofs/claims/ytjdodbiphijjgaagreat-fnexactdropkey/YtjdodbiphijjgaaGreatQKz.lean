/- What a good engine keeps to; what an open transaction is asked for. -/
import Derived.Test.YtjdodbiphijjgaaGreatQKa
namespace Go.Proofs.YtjdodbiphijjgaaGreat
open Go.RowKit Go.Deep
set_option linter.unusedVariables false
set_option maxRecDepth 20000

theorem eF_good {E : En} (h : eF E = 0) : (1 ≤ E.nx ∧ E.nx ≤ 999) ∧ (0 ≤ E.ck ∧ E.ck ≤ 1000000) ∧ (∀ i, i < E.p → tF E.nx E.ck E.T i = 0) ∧ (∀ i, i < E.q → rF E.ck E.p E.T E.R i = 0) := by
  unfold eF at h
  split at h
  · omega
  · rename_i h1
    split at h
    · omega
    · split at h
      · rename_i h2
        split at h
        · rename_i h3
          have hn : inB E.nx 1 999 = true := by
            cases e : inB E.nx 1 999 with
            | true => rfl
            | false => exact absurd (.inl e) h1
          have hk : inB E.ck 0 1000000 = true := by
            cases e : inB E.ck 0 1000000 with
            | true => rfl
            | false => exact absurd (.inr e) h1
          exact ⟨inB_iff.1 hn, inB_iff.1 hk, fun i hi => ffz_zero h2 i hi, fun i hi => ffz_zero h3 i hi⟩
        · rename_i h3; exact absurd h h3
      · rename_i h2; exact absurd h h2
theorem rows12 {E : En} (h : eF E = 0) : ∀ i, i < E.q → (E.R i).n ≤ 12 := fun i hi => (chF_good (rF_good ((eF_good h).2.2.2 i hi)).2.2.1).1
theorem undos60 {E : En} (h : eF E = 0) : ∀ i, i < E.p → (E.T i).n ≤ 60 := fun i hi => usF_le (tF_good ((eF_good h).2.2.1 i hi)).2.2.2.2
theorem ask_open {E : En} {id : Int} (h : askC E id = 0) : eF E = 0 ∧ ∃ j, j < E.p ∧ askP E id = (j : Int) ∧ (E.T j).id = id := by
  have h0 : eF E = 0 := by
    by_cases e : eF E = 0
    · exact e
    · rw [(ask_bad (id := id) e).1] at h; exact absurd h e
  refine ⟨h0, ?_⟩
  rcases fT_cases E id with h1 | ⟨j, hj, h1, h2⟩
  · rw [(ask_none h0 h1).1] at h; cases h
  · refine ⟨j, hj, ?_, h2⟩
    unfold askP
    rw [if_pos h, h1]
end Go.Proofs.YtjdodbiphijjgaaGreat
