/- The law FnExactFormatAct, walked. -/
import Derived.Test.YtiflheclfgloaaaDoorYtc
import Derived.Test.YtiflheclfgloaaaDoorYtd
namespace Go.Proofs.YtiflheclfgloaaaDoor
open Go.RowKit Go.Deep
set_option linter.unusedVariables false
set_option maxRecDepth 20000

theorem toAct_any (k x y z : Int) (w : World) : Calls Tryd.prog 10 #[.agg #[.int .i64 k, .int .i64 x, .int .i64 y, .int .i64 z]] w fun e w' => e = .returned (.agg #[.int .i64 k, .int .i64 x, .int .i64 y, .int .i64 z]) ∧ Below w.heap.size w w' := by
  have HB3 : Hid (∀ o1 o2 o3, Below w.heap.size w (((w.alloc o1).alloc o2).alloc o3)) := fun o1 o2 o3 => ((below_new _ _).alloc (by simp) _).alloc (by simp; omega) _
  go_enter Tryd.func10, Tryd.ntmps10
  go_wp2_with fail
  refine bodyPost_ret (v := .agg #[.int .i64 k, .int .i64 x, .int .i64 y, .int .i64 z]) (by simp [results, Tryd.results10, go_sem]) rfl ?_
  refine ⟨rfl, ?_⟩
  repeat (first | with_reducible exact HB3.out _ _ _ | with_reducible refine Below.setCell ?_ (by first | omega | (simp <;> omega)) _)
theorem eqTextResult_same (c : Int) (s : ByteArray) (w : World) : Calls Tryd.prog 12 #[.agg #[.int .i64 c, .string s], .agg #[.int .i64 c, .string s]] w fun e w' => e = .returned (.bool true) ∧ Below w.heap.size w w' := by
  have HB : Hid (∀ o1 o2, Below w.heap.size w ((w.alloc o1).alloc o2)) := fun o1 o2 => (below_new _ _).alloc (by simp) _
  go_enter Tryd.func12, Tryd.ntmps12
  go_wp2_with fail
  go_ret
  exact ⟨rfl, HB.out _ _⟩
theorem formatLaw (k x y z : Int) (w : World) (hT : TabAt w) (hP : PowAt w) : Calls Tryd.prog 4 #[.agg #[.int .i64 k, .int .i64 x, .int .i64 y, .int .i64 z]] w fun e w' => e = .returned (.bool true) ∧ Below w.heap.size w w' := by
  have HT : Hid (TabAt w) := hT
  have HP : Hid (PowAt w) := hP
  clear hT hP
  have HS := fun w1 => specFormat_any k x y z w1
  have HI := fun w1 (h1 : TabAt w1) (h2 : PowAt w1) => implFormat_any k x y z w1 h1 h2
  unfold FRes at HS HI
  generalize fcode k x y z = c at *
  generalize ftext k x y z = s at *
  have HSS : Hid (∀ w1, _) := HS
  have HII : Hid (∀ w1 : World, TabAt w1 → PowAt w1 → _) := HI
  clear HS HI
  go_enter Tryd.func4, Tryd.ntmps4
  go_wp2_with fail
  refine (toAct_any k x y z _).mono ?_
  rintro e w1 ⟨rfl, hb1⟩
  have HB1 : Hid (Below w.heap.size w w1) := (below_new w _).trans (hb1.mono (by simp))
  have a0 : w1.cell? ⟨w.heap.size, 0, none⟩ = some (.int .i64 k) := cell_below (by simp) hb1
  have a1 : w1.cell? ⟨w.heap.size, 1, none⟩ = some (.int .i64 x) := cell_below (by simp) hb1
  have a2 : w1.cell? ⟨w.heap.size, 2, none⟩ = some (.int .i64 y) := cell_below (by simp) hb1
  have a3 : w1.cell? ⟨w.heap.size, 3, none⟩ = some (.int .i64 z) := cell_below (by simp) hb1
  clear hb1
  go_wp2_with fail
  refine (HSS.out _).mono ?_
  rintro e w2 ⟨rfl, hb2⟩
  have HB2 : Hid (Below w.heap.size w w2) := HB1.out.trans (hb2.mono HB1.out.size)
  have b0 : ∀ o1 : Obj, (w2.alloc o1).cell? ⟨w.heap.size, 0, none⟩ = some (.int .i64 k) := fun o1 => cell_alloc (cell_below a0 hb2) _
  have b1 : ∀ o1 : Obj, (w2.alloc o1).cell? ⟨w.heap.size, 1, none⟩ = some (.int .i64 x) := fun o1 => cell_alloc (cell_below a1 hb2) _
  have b2 : ∀ o1 : Obj, (w2.alloc o1).cell? ⟨w.heap.size, 2, none⟩ = some (.int .i64 y) := fun o1 => cell_alloc (cell_below a2 hb2) _
  have b3 : ∀ o1 : Obj, (w2.alloc o1).cell? ⟨w.heap.size, 3, none⟩ = some (.int .i64 z) := fun o1 => cell_alloc (cell_below a3 hb2) _
  clear hb2 a0 a1 a2 a3
  go_wp2_with fail
  refine (toAct_any k x y z _).mono ?_
  rintro e w3 ⟨rfl, hb3⟩
  have HB3 : Hid (Below w.heap.size w w3) := (HB2.out.alloc HB2.out.size _).trans (hb3.mono (by have := HB2.out.size; simp; omega))
  have hs3 : w2.heap.size + 1 ≤ w3.heap.size := by have := hb3.size; simpa using this
  have c0 : w3.cell? ⟨w2.heap.size, 0, none⟩ = some (.int .i64 c) := cell_below (by simp) hb3
  have c1 : w3.cell? ⟨w2.heap.size, 1, none⟩ = some (.string s) := cell_below (by simp) hb3
  clear hb3 b0 b1 b2 b3
  go_wp2_with fail
  refine (HII.out _ (HT.out.below HB3.out) (HP.out.below HB3.out)).mono ?_
  rintro e w4 ⟨rfl, hb4⟩
  have HB4 : Hid (Below w.heap.size w w4) := HB3.out.trans (hb4.mono HB3.out.size)
  have d0 : ∀ o1 : Obj, (w4.alloc o1).cell? ⟨w2.heap.size, 0, none⟩ = some (.int .i64 c) := fun o1 => cell_alloc (cell_below c0 hb4) _
  have d1 : ∀ o1 : Obj, (w4.alloc o1).cell? ⟨w2.heap.size, 1, none⟩ = some (.string s) := fun o1 => cell_alloc (cell_below c1 hb4) _
  clear hb4 c0 c1
  go_wp2_with fail
  refine (eqTextResult_same c s _).mono ?_
  rintro e w5 ⟨rfl, hb5⟩
  have HB5 : Hid (Below w.heap.size w w5) := (HB4.out.alloc HB4.out.size _).trans (hb5.mono (by have := HB4.out.size; simp; omega))
  clear hb5
  go_wp2_with fail
  go_ret
  exact ⟨rfl, HB5.out⟩
end Go.Proofs.YtiflheclfgloaaaDoor
