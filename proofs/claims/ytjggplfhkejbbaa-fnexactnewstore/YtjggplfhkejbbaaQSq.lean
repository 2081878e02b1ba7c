/- spec.PackRec. -/
import Derived.Test.YtjggplfhkejbbaaQSl0
import Derived.Test.YtjggplfhkejbbaaQSl1
import Derived.Test.YtjggplfhkejbbaaQSl2
import Derived.Test.YtjggplfhkejbbaaQSl3
import Derived.Test.YtjggplfhkejbbaaQSum
import Derived.Test.YtjggplfhkejbbaaQSri
namespace Go.Proofs.Ytjggplfhkejbbaa
open Go.RowKit Go.Deep
set_option linter.unusedVariables false
set_option maxRecDepth 20000

theorem specL3_any (k t key : Int) (hd : Bool) (old : Int) (hs : Bool) (nw bk : Int) (w : World) (g : GoodR k t key hd old hs nw bk) :
    Calls Try.prog 114 #[.agg #[.int .i64 k, .int .i64 t, .int .i64 key, .bool hd, .int .i64 old, .bool hs, .int .i64 nw, .int .i64 bk]] w fun e w' => ∃ v, e = .returned v ∧ Below w.heap.size w w' ∧ w'.ownsRow w.heap.size 5 1 v (rb k t key hd old hs nw bk).length (bl (rb k t key hd old hs nw bk)) ∧ v ≠ .slice none 0 0 := by
  cases hd <;> cases hs
  · exact specL3_0 k t key old nw bk w g
  · exact specL3_2 k t key old nw bk w g
  · exact specL3_1 k t key old nw bk w g
  · exact specL3_3 k t key old nw bk w g
end Go.Proofs.Ytjggplfhkejbbaa
