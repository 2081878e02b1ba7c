/- An argument of bytes, opened. -/
import Derived.Test.YtiflheclfgloaaaDoorBase
import Derived.Lib.SmallJoins
namespace Go.Proofs.YtiflheclfgloaaaDoor
open Go.ChangeShapes Go.WideShapes Go.ChangeAt Go.RowKit Go.Deep Go.Joins
set_option linter.unusedVariables false
set_option maxRecDepth 20000
theorem cells5 : Tryd.prog.cellsOf 5 = 1 := by kernel_rfl
theorem cells22 : Tryd.prog.cellsOf 36 = 1 := by kernel_rfl
theorem openBytes {H : Type} {enc : TypeId × Value → H} {W : World} {fuel : Nat} {cs : List Value} {x : DataW H × List MemPlace}
    (h : DataW.trod enc Tryd.prog W 0 (fun _ => true) true fuel 36 cs = some x) :
    ∃ (a : Option Addr) (n cap : Nat) (z : Nat → Int), cs = [.slice a n cap] ∧ n ≤ 9223372036854775807 ∧ Byt n z ∧ BytesAt W a n z ∧ n ≤ cap := by
  rcases open_ints Tryd.underlying36 Tryd.underlying5 cells5 h with ⟨rfl, _⟩ | ⟨a, l, c, zs, rfl, _, hl, hm, hz, _, hcell, hwz⟩
  · exact ⟨none, 0, 0, fun _ => 0, rfl, by omega, fun i hi => by omega, .inl rfl, Nat.le_refl _⟩
  · have hz' : zs.length = c := by simpa using hz
    unfold maxLen at hm
    refine ⟨some a, l, c, fun i => zs.getD i 0, rfl, by omega, fun i hi => ?_, ?_, hl⟩
    · have hin : zs.getD i 0 ∈ zs := by
        rw [List.getD_eq_getElem?_getD, List.getElem?_eq_getElem (by omega)]; simp
      have := hwz _ hin
      simpa [Lit.wf, IntKind.min, IntKind.max, IntKind.signed, IntKind.bits] using this
    · by_cases hz0 : l = 0
      · exact .inl hz0
      · obtain ⟨b, off, spot⟩ := a
        have hc0 := hcell 0 (by omega)
        have hspot : spot = none := by simpa [Addr.add] using World.cell?_spot hc0
        subst hspot
        exact .inr ⟨b, off, rfl, Go.block_lt_of_cell hc0, fun i hi => by have := hcell i (by omega); rwa [add_plain] at this⟩
end Go.Proofs.YtiflheclfgloaaaDoor
