/- PackPage with what its answer has room for; pages in the laws over disks. -/
import Derived.Test.YtldnfiadafmomaaPk
import Derived.Test.YtldnfiadafmomaaSp
namespace Go.Proofs.Ytldnfiadafmomaa
open Go.RowKit Go.Deep
set_option linter.unusedVariables false
set_option maxRecDepth 20000

theorem pgb_48 {idn lsn : Int} {n : Nat} {K V : Nat → Int} (h : n ≤ 12) : (pgb idn lsn n K V).length = 48 := by
  simp only [pgb, fld, bdy, List.length_append, List.length_replicate, hd_len, cb_len, nb_len]; omega
end Go.Proofs.Ytldnfiadafmomaa
