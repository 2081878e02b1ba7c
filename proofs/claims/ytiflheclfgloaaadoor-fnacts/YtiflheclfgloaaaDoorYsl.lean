/- The law FnExactParseAct, walked. -/
import Derived.Test.YtiflheclfgloaaaDoorYsi
import Derived.Test.YtiflheclfgloaaaDoorYsk
namespace Go.Proofs.YtiflheclfgloaaaDoor
open Go.RowKit Go.Deep
set_option linter.unusedVariables false
set_option maxRecDepth 20000

theorem actOf_A (L : List ByteArray) : actOf L = (if okA L = true then #[Value.int .i64 0] else #[Value.int .i64 5]) ++ actA L := by
  cases h : okA L with
  | true => simp [actOf, actA, h]
  | false => simp [actOf, actA, h]
theorem act_cells (L : List ByteArray) : ∃ c k x y z : Int, actOf L = #[.int .i64 c, .int .i64 k, .int .i64 x, .int .i64 y, .int .i64 z] := by
  cases h : okA L with
  | true => exact ⟨_, _, _, _, _, actOf_yes h⟩
  | false => exact ⟨_, _, _, _, _, actOf_no h⟩
theorem specParse_any (s : ByteArray) (w : World) (hn : s.size ≤ 1048576) : Calls Tryd.prog 6 #[.string s] w fun e w' => e = .returned (.agg (actOf (wds s))) ∧ Below w.heap.size w w' := by
  obtain ⟨L, hL⟩ : ∃ L, wds s = L := ⟨_, rfl⟩
  have HLW : Hid (wds s = L) := hL
  rw [hL]
  clear hL
  go_enter Tryd.func6, Tryd.ntmps6
  go_wp2_with fail
  refine (l15Act_any s _ hn).mono ?_
  rintro e w1 ⟨he, hB1⟩
  rw [HLW.out] at he
  have HB1 : Hid (Below w.heap.size w w1) := (below_new w _).trans (hB1.mono (by simp))
  have HZ : Hid (∀ o, o < 5 → w1.cell? ⟨w.heap.size, o, none⟩ = some (.int .i64 0) ∧ w1.frozen? ⟨w.heap.size, o, none⟩ = false) := fun o ho => by
    obtain ⟨h1, h2⟩ := bcell hB1
    rw [h1 _ _ (by simp), h2 _ _ (by simp)]
    match o, ho with
    | 0, _ => simp
    | 1, _ => simp
    | 2, _ => simp
    | 3, _ => simp
    | 4, _ => simp
  have hsz : w.heap.size + 1 ≤ w1.heap.size := by have := hB1.size; simpa using this
  have z0 : ∀ o1 : Obj, (w1.alloc o1).cell? ⟨w.heap.size, 0, none⟩ = some (.int .i64 0) := fun o1 => cell_alloc (HZ.out 0 (by omega)).1 _
  have f0 : ∀ o1 : Obj, (w1.alloc o1).frozen? ⟨w.heap.size, 0, none⟩ = false := fun o1 => by rw [(bcell (below_new w1 o1)).2 _ _ (by omega)]; exact (HZ.out 0 (by omega)).2
  have z1 : ∀ o1 : Obj, (w1.alloc o1).cell? ⟨w.heap.size, 1, none⟩ = some (.int .i64 0) := fun o1 => cell_alloc (HZ.out 1 (by omega)).1 _
  have f1 : ∀ o1 : Obj, (w1.alloc o1).frozen? ⟨w.heap.size, 1, none⟩ = false := fun o1 => by rw [(bcell (below_new w1 o1)).2 _ _ (by omega)]; exact (HZ.out 1 (by omega)).2
  have z2 : ∀ o1 : Obj, (w1.alloc o1).cell? ⟨w.heap.size, 2, none⟩ = some (.int .i64 0) := fun o1 => cell_alloc (HZ.out 2 (by omega)).1 _
  have f2 : ∀ o1 : Obj, (w1.alloc o1).frozen? ⟨w.heap.size, 2, none⟩ = false := fun o1 => by rw [(bcell (below_new w1 o1)).2 _ _ (by omega)]; exact (HZ.out 2 (by omega)).2
  have z3 : ∀ o1 : Obj, (w1.alloc o1).cell? ⟨w.heap.size, 3, none⟩ = some (.int .i64 0) := fun o1 => cell_alloc (HZ.out 3 (by omega)).1 _
  have f3 : ∀ o1 : Obj, (w1.alloc o1).frozen? ⟨w.heap.size, 3, none⟩ = false := fun o1 => by rw [(bcell (below_new w1 o1)).2 _ _ (by omega)]; exact (HZ.out 3 (by omega)).2
  have z4 : ∀ o1 : Obj, (w1.alloc o1).cell? ⟨w.heap.size, 4, none⟩ = some (.int .i64 0) := fun o1 => cell_alloc (HZ.out 4 (by omega)).1 _
  have f4 : ∀ o1 : Obj, (w1.alloc o1).frozen? ⟨w.heap.size, 4, none⟩ = false := fun o1 => by rw [(bcell (below_new w1 o1)).2 _ _ (by omega)]; exact (HZ.out 4 (by omega)).2
  have hne1 : ¬ w1.heap.size = w.heap.size := by omega
  have hne2 : ¬ w.heap.size = w1.heap.size := by omega
  clear hB1
  cases hok : okA L with
  | true =>
    rw [(actA_yes hok).1, hok] at he
    have HA : Hid (actOf L = _) := actOf_yes hok
    clear hok
    subst he
    generalize nA L 1 = n1 at *
    generalize nA L 2 = n2 at *
    generalize nA L 3 = n3 at *
    go_wp2_with fail
    refine bodyPost_ret (v := .agg #[.int .i64 0, .int .i64 (kindP L), .int .i64 n1, .int .i64 n2, .int .i64 n3]) (by simp [results, Tryd.results6, go_sem, z0, z1, z2, z3, z4]) rfl ?_
    refine ⟨by rw [HA.out], ?_⟩
    repeat (first | with_reducible exact HB1.out | with_reducible refine Below.setCell ?_ (by first | omega | (simp <;> omega)) _ | with_reducible refine Below.alloc ?_ (by first | omega | (simp <;> omega)) _)
  | false =>
    rw [(actA_no hok).1, hok] at he
    have HA : Hid (actOf L = _) := actOf_no hok
    clear hok
    subst he
    go_wp2_with fail
    refine bodyPost_ret (v := .agg #[.int .i64 5, .int .i64 0, .int .i64 0, .int .i64 0, .int .i64 0]) (by simp [results, Tryd.results6, go_sem, z0, z1, z2, z3, z4]) rfl ?_
    refine ⟨by rw [HA.out], ?_⟩
    repeat (first | with_reducible exact HB1.out | with_reducible refine Below.setCell ?_ (by first | omega | (simp <;> omega)) _ | with_reducible refine Below.alloc ?_ (by first | omega | (simp <;> omega)) _)
theorem eqAct_same (k x y z : Int) (w : World) : Calls Tryd.prog 21 #[.agg #[.int .i64 k, .int .i64 x, .int .i64 y, .int .i64 z], .agg #[.int .i64 k, .int .i64 x, .int .i64 y, .int .i64 z]] w fun e w' => e = .returned (.bool true) ∧ Below w.heap.size w w' := by
  have hb : ∀ o1 o2, Below w.heap.size w ((w.alloc o1).alloc o2) := fun o1 o2 => (below_new _ _).alloc (by simp) _
  go_enter Tryd.func21, Tryd.ntmps21
  go_wp2_with fail
  go_ret
  exact ⟨rfl, hb _ _⟩
theorem eqActResult_same (c k x y z : Int) (w : World) : Calls Tryd.prog 8 #[.agg #[.int .i64 c, .int .i64 k, .int .i64 x, .int .i64 y, .int .i64 z], .agg #[.int .i64 c, .int .i64 k, .int .i64 x, .int .i64 y, .int .i64 z]] w fun e w' => e = .returned (.bool true) ∧ Below w.heap.size w w' := by
  have HB : Hid (∀ o1 o2, Below w.heap.size w ((w.alloc o1).alloc o2)) := fun o1 o2 => (below_new _ _).alloc (by simp) _
  go_enter Tryd.func8, Tryd.ntmps8
  go_wp2_with fail
  refine (eqAct_same k x y z _).mono ?_
  rintro e w1 ⟨rfl, hb1⟩
  have HB1 : Hid (Below w.heap.size w w1) := (HB.out _ _).trans (hb1.mono (by simp; omega))
  clear hb1
  go_wp2_with fail
  go_ret
  exact ⟨rfl, HB1.out⟩
theorem parseLaw (s : ByteArray) (w : World) (hT : TabAt w) : Calls Tryd.prog 3 #[.string s] w fun e w' => e = .returned (.bool true) ∧ Below w.heap.size w w' := by
  have HT : Hid (TabAt w) := hT
  clear hT
  by_cases hbig : 1048576 < s.size
  · have hb2 : (1048576 : Int) < (s.size : Int) := by omega
    go_enter Tryd.func3, Tryd.ntmps3
    go_wp2_with fail
    go_ret
    exact ⟨rfl, Below.refl _ _⟩
  · have hn : s.size ≤ 1048576 := by omega
    have hb2 : ¬ (1048576 : Int) < (s.size : Int) := by omega
    obtain ⟨c, k, x, y, z, hA⟩ := act_cells (wds s)
    have HS : Hid (∀ w1 : World, Calls Tryd.prog 6 #[.string s] w1 fun e w' => e = .returned (.agg #[.int .i64 c, .int .i64 k, .int .i64 x, .int .i64 y, .int .i64 z]) ∧ Below w1.heap.size w1 w') := fun w1 => by
      have h := specParse_any s w1 hn
      rw [hA] at h
      exact h
    have HI : Hid (∀ w1 : World, TabAt w1 → Calls Tryd.prog 7 #[.string s] w1 fun e w' => e = .returned (.agg #[.int .i64 c, .int .i64 k, .int .i64 x, .int .i64 y, .int .i64 z]) ∧ Below w1.heap.size w1 w') := fun w1 h1 => by
      have h := implParse_any s w1 hn h1
      rw [hA] at h
      exact h
    clear hA hbig
    go_enter Tryd.func3, Tryd.ntmps3
    go_wp2_with fail
    refine (HS.out _).mono ?_
    rintro e w1 ⟨rfl, hb1⟩
    have HB1 : Hid (Below w.heap.size w w1) := hb1
    clear hb1
    go_wp2_with fail
    refine (HI.out _ (HT.out.below (HB1.out.alloc HB1.out.size _))).mono ?_
    rintro e w2 ⟨rfl, hb2⟩
    have hsz : w1.heap.size + 1 ≤ w2.heap.size := by have := hb2.size; simpa using this
    have q0 : ∀ o1 : Obj, (w2.alloc o1).cell? ⟨w1.heap.size, 0, none⟩ = some (.int .i64 c) := fun o1 => cell_alloc (cell_below (by simp) hb2) _
    have q1 : ∀ o1 : Obj, (w2.alloc o1).cell? ⟨w1.heap.size, 1, none⟩ = some (.int .i64 k) := fun o1 => cell_alloc (cell_below (by simp) hb2) _
    have q2 : ∀ o1 : Obj, (w2.alloc o1).cell? ⟨w1.heap.size, 2, none⟩ = some (.int .i64 x) := fun o1 => cell_alloc (cell_below (by simp) hb2) _
    have q3 : ∀ o1 : Obj, (w2.alloc o1).cell? ⟨w1.heap.size, 3, none⟩ = some (.int .i64 y) := fun o1 => cell_alloc (cell_below (by simp) hb2) _
    have q4 : ∀ o1 : Obj, (w2.alloc o1).cell? ⟨w1.heap.size, 4, none⟩ = some (.int .i64 z) := fun o1 => cell_alloc (cell_below (by simp) hb2) _
    have HB2 : Hid (Below w.heap.size w w2) := (HB1.out.alloc HB1.out.size _).trans (hb2.mono (by have := HB1.out.size; simp; omega))
    clear hb2
    go_wp2_with fail
    refine (eqActResult_same c k x y z _).mono ?_
    rintro e w3 ⟨rfl, hb3⟩
    have HB3 : Hid (Below w.heap.size w w3) := (HB2.out.alloc HB2.out.size _).trans (hb3.mono (by have := HB2.out.size; simp; omega))
    clear hb3
    go_wp2_with fail
    go_ret
    exact ⟨rfl, HB3.out⟩
end Go.Proofs.YtiflheclfgloaaaDoor
