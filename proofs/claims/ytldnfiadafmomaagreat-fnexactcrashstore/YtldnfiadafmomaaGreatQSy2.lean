/- spec.l2Sync, spec.SyncDisk. -/
import Derived.Test.YtldnfiadafmomaaGreatQDo
import Derived.Test.YtldnfiadafmomaaGreatQSpa
namespace Go.Proofs.YtldnfiadafmomaaGreat
open Go.RowKit Go.Deep
set_option linter.unusedVariables false
set_option maxRecDepth 20000

theorem below_of_writes {lo hi a : Nat} {w w' : World} (h : Writes lo hi w w') (e : a ≤ lo) (e2 : a ≤ w.heap.size) : Below a w w' := ⟨h.os, h.tape, h.output, h.size, fun q hq => h.block q (by omega) (by omega)⟩
end Go.Proofs.YtldnfiadafmomaaGreat
