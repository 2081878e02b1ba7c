/- A closed fact of the whole cut, that every row's step asks. -/
import Derived.Test.YtmopoblladnjbaaRows
namespace Go.Proofs.Ytmopoblladnjbaa
set_option maxRecDepth 100000
theorem clLift : (Rows.fnExactRecFaultRow.lifted == Try.prog.liftsFinal) = true := by kernel_rfl
end Go.Proofs.Ytmopoblladnjbaa
