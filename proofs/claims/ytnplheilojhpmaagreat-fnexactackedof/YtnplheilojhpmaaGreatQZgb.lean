/- What a store without a fault is; GetStore. -/
import Derived.Test.YtnplheilojhpmaaGreatQZfe
import Derived.Test.YtnplheilojhpmaaGreatQWae
import Derived.Test.YtnplheilojhpmaaGreatQFind
namespace Go.Proofs.YtnplheilojhpmaaGreat
open Go.RowKit Go.Deep
set_option linter.unusedVariables false
set_option maxRecDepth 20000

theorem pgF_good {p : Pg} {i : Nat} (h : pgF p i = 0) : pf p.id p.lsn p.cn p.cK p.cV = 0 ∧ p.id = (i : Int) ∧ ksB p.id p.cK p.cn 0 = true := by
  unfold pgF at h
  by_cases h1 : pf p.id p.lsn p.cn p.cK p.cV = 0
  · rw [if_pos h1] at h
    by_cases h2 : p.id = (i : Int)
    · rw [if_pos h2] at h
      by_cases h3 : ksB p.id p.cK p.cn 0 = true
      · exact ⟨h1, h2, h3⟩
      · rw [if_neg h3] at h; omega
    · rw [if_neg h2] at h; omega
  · rw [if_neg h1] at h; exact absurd h h1
theorem psF_good {T : Nat → Pg} {n : Nat} : ∀ d k, n - k = d → psF T (n - k) k = 0 → ∀ i, k ≤ i → i < n → pgF (T i) i = 0
  | 0, k, h, _, i, h1, h2 => by omega
  | d + 1, k, h, e, i, h1, h2 => by
    rw [psF_at (by omega)] at e
    by_cases c1 : pgF (T k) k = 0
    · rw [if_pos c1] at e
      by_cases q : i = k
      · subst q; exact c1
      · exact psF_good d (k + 1) (by omega) e i (by omega) h2
    · rw [if_neg c1] at e; exact absurd e c1
structure GoodSt (t : Sto) : Prop where
  nx : 1 ≤ t.nx ∧ t.nx ≤ 999
  pn : t.pn = 4
  pg : ∀ i, i < 4 → pf (t.pT i).id (t.pT i).lsn (t.pT i).cn (t.pT i).cK (t.pT i).cV = 0 ∧ (t.pT i).id = (i : Int) ∧ ksB (t.pT i).id (t.pT i).cK (t.pT i).cn 0 = true
  df : df t.d = 0
  dn : t.d.n = 4
  lg : lgC t.g = 0
  on : onF t.nx t.oF t.on 0 = 0
  hd : hdF (ivL t.oF t.on) t.hK t.hV t.hn 0 = 0
theorem stF_good {t : Sto} (h : stF t = 0) : GoodSt t := by
  unfold stF at h
  by_cases h1 : inB t.nx 1 999 = true
  · rw [if_pos h1] at h
    by_cases h2 : t.pn = 4
    · rw [if_pos h2] at h
      by_cases h3 : psF t.pT t.pn 0 = 0
      · rw [if_pos h3] at h
        by_cases h4 : df t.d = 0
        · rw [if_pos h4] at h
          by_cases h5 : t.d.n = 4
          · rw [if_pos h5] at h
            by_cases h6 : lgC t.g = 0
            · rw [if_pos h6] at h
              by_cases h7 : onF t.nx t.oF t.on 0 = 0
              · rw [if_pos h7] at h
                exact ⟨inB_iff.1 h1, h2, fun i hi => pgF_good (psF_good (n := t.pn) t.pn 0 rfl h3 i (by omega) (by omega)), h4, h5, h6, h7, h⟩
              · rw [if_neg h7] at h; exact absurd h h7
            · rw [if_neg h6] at h; exact absurd h h6
          · rw [if_neg h5] at h; omega
        · rw [if_neg h4] at h; exact absurd h h4
      · rw [if_neg h3] at h; exact absurd h h3
    · rw [if_neg h2] at h; omega
  · rw [if_neg h1] at h; omega
end Go.Proofs.YtnplheilojhpmaaGreat
