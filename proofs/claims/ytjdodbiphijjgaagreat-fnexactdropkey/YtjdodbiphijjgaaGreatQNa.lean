/- NewEngine: what is answered; an engine that grows row by row in a box; the program's walk. -/
import Derived.Test.YtjdodbiphijjgaaGreatQRsa
import Derived.Test.YtjdodbiphijjgaaGreatQBase
import Derived.BigQuiet
namespace Go.Proofs.YtjdodbiphijjgaaGreat
open Go.RowKit Go.Deep
set_option linter.unusedVariables false
set_option maxRecDepth 20000

def zEn : En := ⟨0, 0, 0, fun _ => zTx, 0, fun _ => zRw⟩
/-- An answer that is an engine, of the call's own. -/
def ERes (c v : Int) (E : En) (w : World) (e : Ending) (w' : World) : Prop := ∃ a cap a' cap', e = .returned (.agg #[.int .i64 c, .int .i64 v, .int .i64 E.nx, .int .i64 E.ck, .slice a E.p cap, .slice a' E.q cap']) ∧ Below w.heap.size w w' ∧ OwnE w' w.heap.size w'.heap.size a a' E
theorem zEn_own (w : World) (lo : Nat) (h : lo ≤ w.heap.size) : OwnE w lo w.heap.size none none zEn :=
  ⟨Nat.le_refl _, lo, lo, lo, lo, Nat.le_refl _, h, Nat.le_refl _, h, .inl (Nat.le_refl _), ⟨h, .inl rfl⟩, ⟨h, .inl rfl⟩⟩
theorem eres_bad {c : Int} {w w' : World} (hb : Below w.heap.size w w') : ERes c 0 zEn w (.returned (.agg #[.int .i64 c, .int .i64 0, .int .i64 0, .int .i64 0, .slice none 0 0, .slice none 0 0])) w' :=
  ⟨none, 0, none, 0, rfl, hb, zEn_own _ _ hb.size⟩
end Go.Proofs.YtjdodbiphijjgaaGreat
