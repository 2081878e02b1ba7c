/- impl.CommitChain. -/
import Derived.Test.YtjdodbiphijjgaaGreatQRsb
import Derived.Deep.DeepCutAuto
namespace Go.Proofs.YtjdodbiphijjgaaGreat
open Go.RowKit Go.Deep
set_option linter.unusedVariables false
set_option maxRecDepth 20000

/-- What is joined: the first version, committed, and the rest. -/
theorem co_join (R : Nat → Vr) (y : Int) (n : Nat) (hp : 0 < n) : (vL (fun _ => (⟨(R 0).t, y, (R 0).g, (R 0).v⟩ : Vr)) 1 ++ vL (fun i => R (i + 1)) (n - 1)).length = n ∧ ∀ i, i < n → (vL (fun _ => (⟨(R 0).t, y, (R 0).g, (R 0).v⟩ : Vr)) 1 ++ vL (fun i => R (i + 1)) (n - 1)).getD i zV = coS R y i := by
  refine ⟨by rw [List.length_append, vL_len, vL_len]; omega, fun i hi => ?_⟩
  rw [List.getD_eq_getElem?_getD]
  by_cases e : i = 0
  · subst e
    rw [List.getElem?_append_left (by rw [vL_len]; omega), vL_get (by omega)]
    rfl
  · rw [List.getElem?_append_right (by rw [vL_len]; omega), vL_len, vL_get (by omega)]
    show R (i - 1 + 1) = coS R y i
    rw [show i - 1 + 1 = i by omega]
    exact (if_neg e).symm
end Go.Proofs.YtjdodbiphijjgaaGreat
