/- impl.SyncDisk. -/
import Derived.Test.YtldnfiadafmomaaGreatQSet
namespace Go.Proofs.YtldnfiadafmomaaGreat
open Go.RowKit Go.Deep
set_option linter.unusedVariables false
set_option maxRecDepth 20000

/-- The disk with the writes at k places done, none left. -/
def syD (D : Dk) (F : Nat → Int) (k : Nat) : Dk := ⟨D.n, fun _ => 48, stl D F k, 0, fun _ => 0, fun _ => 0, fun _ => 0, fun _ _ => 0⟩
theorem ownD_sy {w : World} {lo hi : Nat} {a a' : Option Addr} {D : Dk} {F : Nat → Int} {k : Nat} (h : OwnP w lo hi a D.n (fun _ => 48) (stl D F k)) (hl : lo ≤ hi) : OwnD w lo hi a a' (syD D F k) := by
  have h0 := h.1
  exact ⟨h0, lo, hi, lo, lo, Nat.le_refl _, Nat.le_refl _, Nat.le_refl _, hl, .inr (Nat.le_refl _), h, ⟨by omega, .inl rfl⟩⟩
end Go.Proofs.YtldnfiadafmomaaGreat
