/- NewEngine: the model's walk. -/
import Derived.Test.YtnhlcadipkmhhaaGreatQNa
import Derived.Deep.RegionLaw
namespace Go.Proofs.YtnhlcadipkmhhaaGreat
open Go.RowKit Go.Deep
set_option linter.unusedVariables false
set_option maxRecDepth 20000

theorem l6Bad_any (c : Int) (w : World) : Calls Tryz.prog 47 #[.int .i64 c] w fun e w' => e = .returned (.agg #[.int .i64 c, .int .i64 0, .int .i64 0, .int .i64 0, .slice none 0 0, .slice none 0 0]) ∧ Below w.heap.size w w' := by
  go_enter Tryz.func47, Tryz.ntmps47
  go_wp2_with fail
  refine bodyPost_ret (v := .agg #[.int .i64 c, .int .i64 0, .int .i64 0, .int .i64 0, .slice none 0 0, .slice none 0 0]) (by simp [results, Tryz.results47, go_sem]) rfl ⟨rfl, ?_⟩
  repeat (first | with_reducible exact Below.refl _ _ | with_reducible refine Below.setCell ?_ (by first | omega | (simp <;> omega)) _ | with_reducible refine Below.alloc ?_ (by first | omega | (simp <;> omega)) _)
/-- A code that is told by l6Bad and stored into the answer. -/
theorem NEi.bad {w wr w7 : World} {B : Nat} {v : Value} {k : Nat} {K V : Nat → Int} {ck c : Int} (h : NEi w wr B v k K V ck) (hb : Below wr.heap.size wr w7) :
    (w7.cell? ⟨w.heap.size, 0, none⟩ = some (.int .i64 0) ∧ w7.cell? ⟨w.heap.size, 1, none⟩ = some (.int .i64 0) ∧ w7.cell? ⟨w.heap.size, 2, none⟩ = some (.int .i64 0) ∧ w7.cell? ⟨w.heap.size, 3, none⟩ = some (.int .i64 0) ∧ w7.cell? ⟨w.heap.size, 4, none⟩ = some (.slice none 0 0) ∧ w7.cell? ⟨w.heap.size, 5, none⟩ = some (.slice none 0 0)) ∧ (∀ i, w7.frozen? ⟨w.heap.size, i, none⟩ = false) ∧ Below w.heap.size w w7 := by
  have g := h.mono hb
  exact ⟨⟨g.r0, g.r1, g.r2, g.r3, g.r4, g.r5⟩, g.rf, g.below⟩
end Go.Proofs.YtnhlcadipkmhhaaGreat
