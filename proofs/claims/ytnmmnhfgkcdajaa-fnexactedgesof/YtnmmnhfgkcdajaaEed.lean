/- A map whose keys are edges: its keys. -/
import Derived.DeepKeys4
import Derived.WideKeyEntry
import Derived.Maps.OwnIn
import Derived.Test.YtnmmnhfgkcdajaaEec
namespace Go.Proofs.Ytnmmnhfgkcdajaa
open Go.RowKit Go.Deep Go.Maps
set_option linter.unusedVariables false
set_option maxRecDepth 20000

theorem kE1 : Try.prog.keyTypeAt 3 61 = true := by kernel_rfl
theorem kE2 : Try.prog.tiled 3 61 = true := by kernel_rfl
theorem lawE : WideMaps.KeyLaw Try.prog 61 := deep_law (m := 3) (by omega) kE1 kE2 (by kernel_rfl)
theorem keysE : Keyed Try.prog 61 := Keyed.of_law lawE
theorem kE3 : Try.prog.keyType 61 = true := by kernel_rfl
theorem kE4 : ∃ m, Try.prog.types.size = m + 3 := ⟨_, rfl⟩
theorem kE5 : Try.prog.cellsOf 61 = 3 := by kernel_rfl
theorem kE6 : Try.prog.cellsOf 2 = 1 := by kernel_rfl
theorem litsI (d : Nat) (x : Int) (hx : (Lit.int .i64 x).wf = true) : Try.prog.keyLits (d + 1) 2 [.int .i64 x] = some [.int .i64 x] := by
  simp [Program.keyLits, Try.underlying2, hx]
theorem litsE (d : Nat) (e : Ed) (hf : (Lit.int .i64 e.f).wf = true) (ht : (Lit.int .i64 e.t).wf = true) (hk : (Lit.int .i64 e.k).wf = true) :
    Try.prog.keyLits (d + 2) 61 [.int .i64 e.f, .int .i64 e.t, .int .i64 e.k] = some [.int .i64 e.f, .int .i64 e.t, .int .i64 e.k] := by
  unfold Program.keyLits
  rw [Try.underlying61]
  simp [kE5, kE6, litsI d _ hf, litsI d _ ht, litsI d _ hk]
theorem keyE (e : Ed) (hf : (Lit.int .i64 e.f).wf = true) (ht : (Lit.int .i64 e.t).wf = true) (hk : (Lit.int .i64 e.k).wf = true) :
    keyOf Try.prog 61 (.agg #[.int .i64 e.f, .int .i64 e.t, .int .i64 e.k]) = some (.string (keyBytes [.int .i64 e.f, .int .i64 e.t, .int .i64 e.k])) := by
  have h1 : (Value.agg #[.int .i64 e.f, .int .i64 e.t, .int .i64 e.k]).formed Try.prog 61 = true := by simp [Value.formed, Try.underlying61, kE5]
  obtain ⟨m, hm⟩ := kE4
  have h2 := litsE (m + 2) e hf ht hk
  unfold keyOf
  rw [Try.underlying61]
  simp only [kE3, Bool.true_and, h1, if_true, hm]
  have h3 : (Value.agg #[.int .i64 e.f, .int .i64 e.t, .int .i64 e.k]).cells.toList = [.int .i64 e.f, .int .i64 e.t, .int .i64 e.k] := by simp [Value.cells]
  rw [h3, h2]
  rfl
end Go.Proofs.Ytnmmnhfgkcdajaa
