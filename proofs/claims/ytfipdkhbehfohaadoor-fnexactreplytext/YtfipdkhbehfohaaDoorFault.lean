/- PageFault: its model, and the walks of spec.PageFault and impl.PageFault. -/
import Derived.Test.YtfipdkhbehfohaaDoorBox
namespace Go.Proofs.YtfipdkhbehfohaaDoor
open Go.RowKit Go.Deep
set_option linter.unusedVariables false

def inB (v lo hi : Int) : Bool := decide (lo ≤ v) && decide (v ≤ hi)
theorem inB_iff {v lo hi : Int} : inB v lo hi = true ↔ lo ≤ v ∧ v ≤ hi := by simp [inB]
/-- The first fault of the cells from the i-th on, m of them. -/
def cff (K V : Nat → Int) : Nat → Nat → Int
  | 0, _ => 0
  | m + 1, i => if inB (K i) 0 31 = false ∨ inB (V i) 0 9999 = false then 3 else if 0 < i ∧ K i ≤ K (i - 1) then 1 else cff K V m (i + 1)
def pf (id lsn : Int) (n : Nat) (K V : Nat → Int) : Int :=
  if inB id 0 7 = false ∨ inB lsn 0 1000000 = false then 3 else if 12 < n then 2 else cff K V n 0
theorem cff_at {K V : Nat → Int} {n k : Nat} (h : k < n) : cff K V (n - k) k = if inB (K k) 0 31 = false ∨ inB (V k) 0 9999 = false then 3 else if 0 < k ∧ K k ≤ K (k - 1) then 1 else cff K V (n - (k + 1)) (k + 1) := by
  obtain ⟨m, hm⟩ : ∃ m, n - k = m + 1 := ⟨n - k - 1, by omega⟩
  rw [hm, cff, show n - (k + 1) = m by omega]

/-! ### the small tests -/
/-! ### impl.cellsFault -/
/-! ### impl.PageFault -/
end Go.Proofs.YtfipdkhbehfohaaDoor
