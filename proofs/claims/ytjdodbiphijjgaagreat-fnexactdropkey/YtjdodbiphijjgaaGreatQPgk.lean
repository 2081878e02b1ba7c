/- PurgeEngine and GarbageOf: how many versions an engine has; what they answer. -/
import Derived.Test.YtjdodbiphijjgaaGreatQPgb
import Derived.Test.YtjdodbiphijjgaaGreatQWae
import Derived.Test.YtjdodbiphijjgaaGreatQOa
import Derived.Test.YtjdodbiphijjgaaGreatQCa
import Derived.Test.YtjdodbiphijjgaaGreatQVsd
import Derived.Test.YtjdodbiphijjgaaGreatQKz
import Derived.Test.YtjdodbiphijjgaaGreatQNa
import Derived.Test.YtjdodbiphijjgaaGreatQVe
import Derived.Test.YtjdodbiphijjgaaGreatQFf
import Derived.Test.YtjdodbiphijjgaaGreatQGg
namespace Go.Proofs.YtjdodbiphijjgaaGreat
open Go.RowKit Go.Deep
set_option linter.unusedVariables false
set_option linter.unusedSimpArgs false
set_option maxRecDepth 20000

theorem eres_bad2 {c : Int} {w w' : World} (hb : Below w.heap.size w w') : ERes2 c 0 zEn w (.returned (.agg #[.int .i64 c, .int .i64 0, .int .i64 0, .int .i64 0, .slice none 0 0, .slice none 0 0])) w' := by
  obtain ⟨a, cap, a', cap', h1, h2, h3⟩ := eres_bad (c := c) hb
  exact ⟨a, cap, a', cap', h1, h2, h3.to2⟩
end Go.Proofs.YtjdodbiphijjgaaGreat
