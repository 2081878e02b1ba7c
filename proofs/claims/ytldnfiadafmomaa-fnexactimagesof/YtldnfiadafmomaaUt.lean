/- impl.UnpackRecs. -/
import Derived.Test.YtldnfiadafmomaaUs
namespace Go.Proofs.Ytldnfiadafmomaa
open Go.RowKit Go.Deep
set_option linter.unusedVariables false
set_option maxRecDepth 20000

def sh (z : Nat → Int) (k i : Nat) : Int := z (k + i)
/-- The eight cells of the record that 13 bytes tell. -/
def rvl (z : Nat → Int) : List Value := [.int .i64 (num z 0 1), .int .i64 (num z 1 2), .int .i64 (num z 3 1), .bool (hdB z), .int .i64 (num z 5 2), .bool (hsB z), .int .i64 (num z 7 2), .int .i64 (num z 9 2)]
/-- The cells of the first k records. -/
def rvs (z : Nat → Int) : Nat → List Value
  | 0 => []
  | k + 1 => rvs z k ++ rvl (sh z (13 * k))
theorem rvl_one (z : Nat → Int) : ∀ u ∈ rvl z, u.oneCell' = true := by
  intro u hu
  simp only [rvl, List.mem_cons, List.mem_nil_iff, or_false] at hu
  rcases hu with rfl | rfl | rfl | rfl | rfl | rfl | rfl | rfl <;> rfl
/-- How many records stand at the beginning of n bytes, counted on from the k-th. -/
def rcn (z : Nat → Int) (n : Nat) : Nat → Nat → Nat
  | 0, k => k
  | f + 1, k => if 13 * (k + 1) ≤ n ∧ okR (sh z (13 * k)) = true then rcn z n f (k + 1) else k
def cnt (z : Nat → Int) (n : Nat) : Nat := rcn z n n 0
theorem rcn_at {z : Nat → Int} {n k : Nat} (h : 13 * (k + 1) ≤ n) (ho : okR (sh z (13 * k)) = true) : rcn z n (n - k) k = rcn z n (n - (k + 1)) (k + 1) := by
  have e : n - k = (n - (k + 1)) + 1 := by omega
  rw [e, rcn, if_pos ⟨h, ho⟩]
theorem rcn_end {z : Nat → Int} {n k : Nat} (h : ¬ (13 * (k + 1) ≤ n ∧ okR (sh z (13 * k)) = true)) : rcn z n (n - k) k = k := by
  cases hf : n - k with
  | zero => rfl
  | succ f => rw [rcn, if_neg h]
def slen : Value → Nat
  | .slice _ n _ => n
  | _ => 0
theorem cell_eight_new (w : World) (z : Nat → Int) (t : TypeId) : ∀ j u, (rvl z)[j]? = some u → (w.alloc (.cells (rvl z).toArray t)).cell? ((⟨w.heap.size, 0, none⟩ : Addr).add j) = some u := by
  intro j u hj
  rw [WideShapes.add_plain]
  have hlt : j < 8 := by
    have := (List.getElem?_eq_some_iff.1 hj).1
    simpa [rvl] using this
  rcases (by omega : j = 0 ∨ j = 1 ∨ j = 2 ∨ j = 3 ∨ j = 4 ∨ j = 5 ∨ j = 6 ∨ j = 7) with rfl | rfl | rfl | rfl | rfl | rfl | rfl | rfl <;> (simp [rvl] at hj; subst hj; simp [rvl])
end Go.Proofs.Ytldnfiadafmomaa
