/- The laws' own helpers over bytes; spec.PackPage. -/
import Derived.Test.YtnhkjdcbaphfcaaSp
namespace Go.Proofs.Ytnhkjdcbaphfcaa
open Go.RowKit Go.Deep
set_option linter.unusedVariables false

def bk (m : Int) (i : Nat) : Int := (m + i) % 256
def mkb (m : Int) (z : Nat → Int) (j i : Nat) : Int := if i < j then bk m i else z i
def Row1 (w : World) (b off n : Nat) (z : Nat → Int) : Prop := (∀ i, i < n → w.cell? ⟨b, off + i, none⟩ = some (.int .u8 (z i))) ∧ (∀ i, i < n → w.frozen? ⟨b, off + i, none⟩ = false)
theorem row1_step {w : World} {b off n k : Nat} {z : Nat → Int} {m : Int} (hlt : k < n) (h : Row1 w b off n (mkb m z k)) : Row1 (w.setCell ⟨b, off + k, none⟩ (.int .u8 ((m + k) % 256))) b off n (mkb m z (k + 1)) := by
  obtain ⟨hc, hf⟩ := h
  refine ⟨fun i hi => ?_, fun i hi => ?_⟩
  · by_cases e : i = k
    · subst e; rw [setS (hc i hi)]; simp [mkb, bk]
    · rw [setO (by omega), hc i hi]
      have : (i < k + 1) ↔ (i < k) := by omega
      simp only [mkb, this]
  · rw [World.frozen?_setCell]; exact hf i hi
end Go.Proofs.Ytnhkjdcbaphfcaa
