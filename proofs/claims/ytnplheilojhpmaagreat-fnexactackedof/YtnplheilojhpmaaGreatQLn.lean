/- Both FlushLogs. -/
import Derived.Test.YtnplheilojhpmaaGreatQLh
import Derived.Test.YtnplheilojhpmaaGreatQLi
namespace Go.Proofs.YtnplheilojhpmaaGreat
open Go.RowKit Go.Deep
set_option linter.unusedVariables false
set_option maxRecDepth 20000

theorem lgC_zero {L : Lo} (h : lgC L = 0) : L.n1 + L.n2 ≤ 4000 ∧ 13 * cnt (aZ L) (L.n1 + L.n2) = L.n1 + L.n2 := by
  unfold lgC at h
  by_cases h1 : 4000 < L.n1 + L.n2
  · rw [if_pos h1] at h; omega
  · rw [if_neg h1] at h
    by_cases h2 : 13 * cnt (aZ L) (L.n1 + L.n2) = L.n1 + L.n2
    · exact ⟨by omega, h2⟩
    · rw [if_neg h2] at h; omega
end Go.Proofs.YtnplheilojhpmaaGreat
