/- SumBytes: the walks. -/
import Derived.Test.YtiabblmjgfkijaaBase
namespace Go.Proofs.Ytiabblmjgfkijaa
open Go.RowKit Go.Deep

/-! ### spec.SumBytes -/
/-! ### impl.SumBytes -/
/-! ### laws.toByteS -/
/-! ### laws.eqByteS: two rows of the same bytes -/
end Go.Proofs.Ytiabblmjgfkijaa
