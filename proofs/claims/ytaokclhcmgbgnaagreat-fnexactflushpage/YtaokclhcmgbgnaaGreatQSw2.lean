/- spec.WriteDisk. -/
import Derived.Test.YtaokclhcmgbgnaaGreatQSpl
namespace Go.Proofs.YtaokclhcmgbgnaaGreat
open Go.RowKit Go.Deep
set_option linter.unusedVariables false
set_option maxRecDepth 20000

/-- Bytes that were just packed: where they lie. -/
theorem packed_form {w : World} {base : Nat} {v : Value} {zs : List Int} (h : w.ownsRow base 5 1 v zs.length (bl zs)) (hl : zs.length = 48) : ∃ g cap, v = .slice (some ⟨g, 0, none⟩) 48 cap ∧ 48 ≤ cap ∧ BytesAt w (some ⟨g, 0, none⟩) 48 (zOf zs) := by
  obtain ⟨g, cap, rfl, h1, h2⟩ := h.form (by omega)
  have hc := own_cap h
  obtain ⟨a, cp, e, ho⟩ := ownB_of_row h
  simp only [Value.slice.injEq] at e
  obtain ⟨rfl, -, rfl⟩ := e
  rw [hl] at hc
  have hb := ho.at
  rw [hl] at hb
  exact ⟨g, cap, by rw [hl], hc, hb⟩
end Go.Proofs.YtaokclhcmgbgnaaGreat
