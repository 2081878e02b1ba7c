/- Four tables that a row lists: what the condition gives; a start that meets it. -/
import Derived.Test.YtiflheclfgloaaaDoorYtb
import Derived.LaidMore
import Derived.OpenShut
import Derived.ChangeVars
import Derived.Carry
import Derived.Test.YtiflheclfgloaaaDoorYslb
import Derived.Lib.LaidTab
namespace Go.Proofs.YtiflheclfgloaaaDoor
open Go.ChangeShapes Go.WideShapes Go.ChangeAt Go.RowKit Go.Deep
set_option linter.unusedVariables false
set_option maxRecDepth 100000

def laid4 : List (String × DataW Unit) := [("math/bits.deBruijn32tab", Rows.laid_math_bits_deBruijn32tab), ("math/bits.deBruijn64tab", Rows.laid_math_bits_deBruijn64tab), ("internal/strconv.uint64pow10", Rows.laid_internal_strconv_uint64pow10), ("loop.example/g00216/impl.actForms", Rows.laid_loop_example_g00216_impl_actForms)]
theorem gPow : ∃ g, Tryd.prog.globalNamed "internal/strconv.uint64pow10" = some g ∧ (Tryd.prog.globals[g]?).map (·.type) = some 93 := ⟨1, by kernel_rfl, by kernel_rfl⟩
theorem cP : Tryd.prog.cellsOf 93 = 20 := by kernel_rfl
theorem cU : Tryd.prog.cellsOf 83 = 1 := by kernel_rfl
theorem pow_eq {H : Type} : (Rows.laid_internal_strconv_uint64pow10 : DataW H) = Lib.tabData .u64 Lib.pow10Tab := by rfl
theorem of_laid4 {W : World} (h : laidMetH Tryd.prog laid4 W) : PowAt W ∧ W.var? Tryd.prog "loop.example/g00216/impl.actForms" = some cells16.toArray := by
  rw [MakeChecks.laidMetH_plain _ _ _ (by kernel_rfl)] at h
  obtain ⟨ps, ⟨g0, t0, cs0, f0, p0, q0, hg0, ht0, hv0, hd0, ⟨g1, t1, cs1, f1, p1, q1, hg1, ht1, hv1, hd1, ⟨g2, t2, cs2, f2, p2, q2, hg2, ht2, hv2, hd2, ⟨g3, t3, cs3, f3, p3, q3, hg3, ht3, hv3, hd3, _⟩, _⟩, _⟩, _⟩, _⟩ := h
  constructor
  · obtain ⟨g, hg, ht⟩ := gPow
    obtain rfl := Option.some.inj (hg.symm.trans hg2)
    obtain rfl := Option.some.inj (ht.symm.trans ht2)
    rw [pow_eq] at hd2
    show W.var? Tryd.prog "internal/strconv.uint64pow10" = _
    rw [hv2, ← Lib.cells_of_tab Tryd.underlying93 Tryd.underlying83 cU cP hd2]
  · obtain rfl := Option.some.inj (gForms.symm.trans hg3)
    obtain rfl := Option.some.inj (tForms.symm.trans ht3)
    rw [forms_eq] at hd3
    have e := cells_of_trod hd3
    rw [hv3]
    congr 1
    rw [← e]
theorem door_met4 (os : Os) (args : Array Value) : laidMetH Tryd.prog laid4 ((World.doorLaid Tryd.prog 400 os).forCall (fun _ _ => 0) ⟨#[], args, []⟩).memory :=
  laidMetH_of_parts3 (fuel := 8) (laidMet_of_run' 8 (by kernel_rfl) (by kernel_rfl)) (by kernel_rfl) (by kernel_rfl)
end Go.Proofs.YtiflheclfgloaaaDoor
