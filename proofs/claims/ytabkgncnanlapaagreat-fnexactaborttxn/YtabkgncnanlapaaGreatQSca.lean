/- Cells that grow by append; answers that are lists of cells; what a scan answers. -/
import Derived.Test.YtabkgncnanlapaaGreatQKa
import Derived.Test.YtabkgncnanlapaaGreatQVg
import Derived.Test.YtabkgncnanlapaaGreatQKz
import Derived.Test.YtabkgncnanlapaaGreatQOa
namespace Go.Proofs.YtabkgncnanlapaaGreat
open Go.RowKit Go.Deep
set_option linter.unusedVariables false
set_option maxRecDepth 20000

/-- Cells, as values. -/
def cb : List (Int × Int) → List Value
  | [] => []
  | r :: rs => [.int .i64 r.1, .int .i64 r.2] ++ cb rs
theorem fi_self {f : Nat → Bool} : ∀ (m k j : Nat), j < m → f (k + j) = true → (∀ i, i < j → f (k + i) = false) → fi f m k = ((k + j : Nat) : Int)
  | 0, k, j, h, _, _ => absurd h (Nat.not_lt_zero _)
  | m + 1, k, 0, h, h1, h2 => by simp [fi, show f k = true from h1]
  | m + 1, k, j + 1, h, h1, h2 => by
    have h0 : f k = false := h2 0 (by omega)
    have := fi_self (f := f) m (k + 1) j (by omega) (by rw [show k + 1 + j = k + (j + 1) by omega]; exact h1) (fun i hi => by rw [show k + 1 + i = k + (i + 1) by omega]; exact h2 (i + 1) (by omega))
    simp only [fi, h0]
    rw [show k + (j + 1) = k + 1 + j by omega, ← this]
    rfl
theorem fR_self {q : Nat} {R : Nat → Rw} (hs : ∀ j, j < q → ∀ i, i < j → (R i).key < (R j).key) {k : Nat} (hk : k < q) : fR q R (R k).key = (k : Int) := by
  have := fi_self (f := fun i => (R i).key == (R k).key) q 0 k hk (by simp) (fun i hi => by have := hs k hk i hi; simp; omega)
  rw [Nat.zero_add] at this
  exact this
end Go.Proofs.YtabkgncnanlapaaGreat
