/- A copied engine's rows at the start of a roll-back, between rounds, and at its end. -/
import Derived.Test.YtjdodbiphijjgaaGreatQRqc
import Derived.Test.YtjdodbiphijjgaaGreatQBase
import Derived.Test.YtjdodbiphijjgaaGreatQRla
import Derived.Test.YtjdodbiphijjgaaGreatQRlb
import Derived.Test.YtjdodbiphijjgaaGreatQPgb
import Derived.Test.YtjdodbiphijjgaaGreatQWae
import Derived.Test.YtjdodbiphijjgaaGreatQOa
import Derived.Test.YtjdodbiphijjgaaGreatQCa
import Derived.Test.YtjdodbiphijjgaaGreatQVsd
import Derived.Test.YtjdodbiphijjgaaGreatQKz
import Derived.Test.YtjdodbiphijjgaaGreatQCb
import Derived.Test.YtjdodbiphijjgaaGreatQSca
import Derived.Test.YtjdodbiphijjgaaGreatQKa
import Derived.Test.YtjdodbiphijjgaaGreatQPgk
namespace Go.Proofs.YtjdodbiphijjgaaGreat
open Go.RowKit Go.Deep Go.Shelf
set_option linter.unusedVariables false
set_option linter.unusedSimpArgs false
set_option maxRecDepth 20000

theorem box4_put (w : World) (B : Nat) (c0 c1 c2 c3 : Value) {z0 z1 z2 z3 : Value} (h : Box4 w B z0 z1 z2 z3) :
    Box4 ((((w.setCell ⟨B, 0, none⟩ c0).setCell ⟨B, 1, none⟩ c1).setCell ⟨B, 2, none⟩ c2).setCell ⟨B, 3, none⟩ c3) B c0 c1 c2 c3 ∧
    Writes B (B + 1) w ((((w.setCell ⟨B, 0, none⟩ c0).setCell ⟨B, 1, none⟩ c1).setCell ⟨B, 2, none⟩ c2).setCell ⟨B, 3, none⟩ c3) ∧
    ((((w.setCell ⟨B, 0, none⟩ c0).setCell ⟨B, 1, none⟩ c1).setCell ⟨B, 2, none⟩ c2).setCell ⟨B, 3, none⟩ c3).heap.size = w.heap.size := by
  obtain ⟨h0, h1, h2, h3⟩ := h
  refine ⟨⟨?_, ?_, ?_, ?_⟩, ?_, by simp [World.setCell]⟩
  · rw [setO (by omega), setO (by omega), setO (by omega)]; exact setS h0
  · rw [setO (by omega), setO (by omega)]; exact setS ((setO (by omega)).trans h1)
  · rw [setO (by omega)]; exact setS ((setO (by omega)).trans ((setO (by omega)).trans h2))
  · exact setS ((setO (by omega)).trans ((setO (by omega)).trans ((setO (by omega)).trans h3)))
  · exact (((Writes.refl _ _ _).setCell (p := ⟨B, 0, none⟩) (Nat.le_refl _) (Nat.lt_succ_self _) _).setCell (p := ⟨B, 1, none⟩) (Nat.le_refl _) (Nat.lt_succ_self _) _ |>.setCell (p := ⟨B, 2, none⟩) (Nat.le_refl _) (Nat.lt_succ_self _) _).setCell (p := ⟨B, 3, none⟩) (Nat.le_refl _) (Nat.lt_succ_self _) _
end Go.Proofs.YtjdodbiphijjgaaGreat
