/- An argument of type laws.Page, opened. -/
import Derived.Test.YtjggplfhkejbbaaQCel
import Derived.Lib.SmallJoins
namespace Go.Proofs.Ytjggplfhkejbbaa
open Go.ChangeShapes Go.WideShapes Go.ChangeAt Go.RowKit Go.Deep Go.Joins
set_option linter.unusedVariables false
theorem cells73 : Try.prog.cellsOf 87 = 3 := by kernel_rfl
theorem cells153 : Try.prog.cellsOf 152 = 2 := by kernel_rfl
theorem cells2 : Try.prog.cellsOf 2 = 1 := by kernel_rfl

set_option maxRecDepth 20000 in
theorem openPage {H : Type} {enc : TypeId × Value → H} {W : World} {r : Reach} {b0 : Nat} {v : Value} {d : DataW H} {p : List MemPlace}
    (hv : Value.okWide Try.prog W r b0 87 v) (h : DataW.Trod enc Try.prog W 0 (fun _ => true) true 87 v d p) :
    ∃ (idn lsn : Int) (a : Option Addr) (n cap : Nat) (K V : Nat → Int), v = .agg #[.int .i64 idn, .int .i64 lsn, .slice a n cap] ∧ n ≤ maxLen ∧ CellsAt W a n K V := by
  obtain ⟨c0, c1, c2, y0, y1, y2, m, rfl, rfl, rfl, h0, h1, h2⟩ := open_agg3 Try.underlying87 (by kernel_rfl) cells73 hv h
  obtain ⟨x0, e0, _, _⟩ := DataW.trod_int Try.underlying2 h0
  obtain ⟨x1, e1, _, _⟩ := DataW.trod_int Try.underlying2 h1
  simp at e0 e1
  subst e0 e1
  rcases open_slice_pairs Try.underlying85 Try.underlying152 cells153 rfl rfl cells2 cells2 h2 with ⟨e2, _⟩ | ⟨a, len, cap, m', n', V0, V1, D0, D1, P0, P1, e2, _, hl, hm, hmm, _, hc⟩
  · simp at e2
    subst e2
    exact ⟨x0, x1, none, 0, 0, fun _ => 0, fun _ => 0, rfl, Nat.zero_le _, .inl rfl⟩
  · simp at e2
    subst e2
    refine ⟨x0, x1, some a, len, cap, fun i => intOf (V0 i), fun i => intOf (V1 i), rfl, by omega, ?_⟩
    have hmc : m' = cap := by simpa using hmm
    by_cases hz : len = 0
    · exact .inl hz
    · obtain ⟨b, off, spot⟩ := a
      have hc0 := (hc 0 (by omega)).1
      have hspot : spot = none := by simpa [Addr.add] using World.cell?_spot hc0
      subst hspot
      refine .inr ⟨b, off, rfl, Go.block_lt_of_cell hc0, fun i hi => ?_, fun i hi => ?_⟩
      · obtain ⟨g0, g1, g2, g3⟩ := hc i (by omega)
        obtain ⟨z, ez, _, _⟩ := DataW.trod_int Try.underlying2 g2
        simp at ez
        rw [add_plain, ez] at g0
        show _ = some (Value.int .i64 (intOf (V0 i)))
        rw [g0, ez]; rfl
      · obtain ⟨g0, g1, g2, g3⟩ := hc i (by omega)
        obtain ⟨z, ez, _, _⟩ := DataW.trod_int Try.underlying2 g3
        simp at ez
        rw [add_plain, ez] at g1
        show _ = some (Value.int .i64 (intOf (V1 i)))
        rw [show off + i * 2 + 1 = off + (i * 2 + 1) by omega, g1, ez]; rfl
end Go.Proofs.Ytjggplfhkejbbaa
