/- Chapter 5: the first version of a chain; both WriterOfs. -/
import Derived.Test.YtjdodbiphijjgaaVf
namespace Go.Proofs.Ytjdodbiphijjgaa
open Go.RowKit Go.Deep
set_option linter.unusedVariables false
set_option maxRecDepth 20000

theorem VersAt.first {w : World} {a : Option Addr} {n : Nat} {R : Nat → Vr} (h : VersAt w a n R) (hp : 0 < n) : ∃ b off, a = some ⟨b, off, none⟩ ∧ b < w.heap.size ∧ C4 w b off (R 0) := by
  rcases h with h | ⟨b, off, ha, hl, hc⟩
  · omega
  · have := hc 0 hp
    rw [Nat.zero_mul, Nat.add_zero] at this
    exact ⟨b, off, ha, hl, this⟩
theorem chf_good {R : Nat → Vr} : ∀ {m i : Nat}, chf R m i = 0 → ∀ j, i ≤ j → j < i + m → vR (R j) = true ∧ vF R j = false
  | 0, i, _, j, h1, h2 => by omega
  | m + 1, i, h, j, h1, h2 => by
    rw [chf] at h
    split at h
    · omega
    · rename_i hr
      split at h
      · omega
      · rename_i hf
        by_cases e : j = i
        · subst e
          exact ⟨by simpa using hr, by simpa using hf⟩
        · exact chf_good h j (by omega) (by omega)
theorem chF_good {n : Nat} {R : Nat → Vr} (h : chF n R = 0) : n ≤ 12 ∧ ∀ j, j < n → vR (R j) = true ∧ vF R j = false := by
  unfold chF at h
  split at h
  · omega
  · exact ⟨by omega, fun j hj => chf_good h j (by omega) (by omega)⟩
/-- Who wrote what is not committed; 0: nobody. -/
def wrt (n : Nat) (R : Nat → Vr) : Int := if 0 < n ∧ (R 0).a = 0 then (R 0).t else 0
def fop (n : Nat) (R : Nat → Vr) : Bool := decide (0 < n) && (R 0).a == 0
def fob (n : Nat) (R : Nat → Vr) (x : Int) : Bool := decide (0 < n) && ((R 0).t == x && (R 0).a == 0)
end Go.Proofs.Ytjdodbiphijjgaa
