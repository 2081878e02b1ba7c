/- spec.ChainFault: the walk. -/
import Derived.Test.YtjdodbiphijjgaaVe
namespace Go.Proofs.Ytjdodbiphijjgaa
open Go.RowKit Go.Deep
set_option linter.unusedVariables false
set_option maxRecDepth 20000

theorem inB_at {a : Int} (h : a ≠ 0) : inB a 1 1000000 = inB a 0 1000000 := by
  unfold inB
  by_cases h1 : 1 ≤ a
  · have h2 : 0 ≤ a := by omega
    simp [h1, h2]
  · have h2 : ¬ 0 ≤ a := by omega
    simp [h1, h2]
theorem inB_zero : inB 0 0 1000000 = true := by decide
end Go.Proofs.Ytjdodbiphijjgaa
