/- FnExactSameCells: the walk of the law. -/
import Derived.Test.YtfhldkmbflbmbaaScy
namespace Go.Proofs.Ytfhldkmbflbmbaa
open Go.ChangeShapes Go.WideShapes Go.ChangeAt Go.RowKit Go.Deep Go.Joins
set_option linter.unusedVariables false
set_option maxRecDepth 20000

set_option maxHeartbeats 4000000 in
theorem sameCellsLaw (n : Nat) (K V : Nat → Int) (a : Option Addr) (cap : Nat) (m : Nat) (K' V' : Nat → Int) (d : Option Addr) (cap2 : Nat) (w : World) (hn : n ≤ 9223372036854775807) (h : CellsAt w a n K V) (hm : m ≤ 9223372036854775807) (h2 : CellsAt w d m K' V') :
    Calls Try.prog 3 #[.slice a n cap, .slice d m cap2] w fun e w' => e = .returned (.bool true) ∧ Below w.heap.size w w' := by
  have HA : Hid (CellsAt w a n K V) := h
  have HD : Hid (CellsAt w d m K' V') := h2
  clear h h2
  by_cases hnA : ¬ (n : Int) ≤ 1048576
  · go_enter Try.func3, Try.ntmps3
    go_wp2_with fail
    refine (szCellS_at n a cap 1048576 w hn (by omega) (by omega)).mono ?_
    rw [if_neg (by omega)]
    rintro e w1 ⟨rfl, hw1⟩
    rw [hw1]
    go_wp2_with fail
    go_ret
    exact ⟨rfl, Below.refl _ _⟩
  replace hnA : (n : Int) ≤ 1048576 := by omega
  by_cases hmA : ¬ (m : Int) ≤ 1048576 - n
  · go_enter Try.func3, Try.ntmps3
    go_wp2_with fail
    refine (szCellS_at n a cap 1048576 w hn (by omega) (by omega)).mono ?_
    rw [if_pos hnA]
    rintro e w1 ⟨rfl, hw1⟩
    rw [hw1]
    obtain ⟨r, hr⟩ : ∃ r : Int, r = 1048576 - n := ⟨_, rfl⟩
    rw [← hr]
    have hr0 : ¬ r < 0 := by omega
    have HR : Hid (r = 1048576 - n) := hr
    have hm1 : r < (m : Int) := by omega
    have HM : Hid (r < (m : Int)) := hm1
    clear hr hmA hm1
    go_wp2_with fail
    refine (szCellS_at m d cap2 r _ hm (by omega) (by have := HR.out; omega)).mono ?_
    rw [if_neg (by have := HM.out; omega)]
    rintro e w2 ⟨rfl, hw2⟩
    rw [hw2]
    go_wp2_with fail
    go_ret
    exact ⟨rfl, Below.refl _ _⟩
  replace hmA : (m : Int) ≤ 1048576 - n := by omega
  have hnN : n ≤ 1048576 := by omega
  have hmN : m ≤ 1048576 := by omega
  obtain ⟨r, hr⟩ : ∃ r : Int, r = 1048576 - n := ⟨_, rfl⟩
  obtain ⟨r2, hr2⟩ : ∃ r2 : Int, r2 = r - m := ⟨_, rfl⟩
  have hr0 : ¬ r < 0 := by omega
  have hr20 : ¬ r2 < 0 := by omega
  have HR : Hid (r = 1048576 - n) := hr
  have HR2 : Hid (r2 = r - m) := hr2
  clear hr hr2
  have HCC : Hid (ceq n K V m K' V' = ceq n K V m K' V') := rfl
  go_enter Try.func3, Try.ntmps3
  go_wp2_with fail
  refine (szCellS_at n a cap 1048576 w hn (by omega) (by omega)).mono ?_
  rw [if_pos hnA, ← HR.out]
  rintro e w1 ⟨rfl, hw1⟩
  rw [hw1]
  go_wp2_with fail
  refine (szCellS_at m d cap2 r _ hm (by omega) (by have := HR.out; omega)).mono ?_
  rw [if_pos (by have := HR.out; omega), ← HR2.out]
  rintro e w2 ⟨rfl, hw2⟩
  rw [hw2]
  have HB2 : Hid (Below w.heap.size w w) := Below.refl _ _
  clear HR HR2 hw1 hw2 w1 w2 hnA hmA hn hm
  go_wp2_with fail
  refine (toCellS_any n K V a cap _ (by omega) (HA.out.below HB2.out)).mono ?_
  rintro e w3 ⟨rfl, hb3, ho3⟩
  have HB3 : Hid (Below w.heap.size w w3) := below_then HB2.out hb3
  have H3 : Hid (CellsAt w3 (some ⟨w.heap.size, 0, none⟩) n K V) := cells_at_row ho3
  clear hb3 ho3 HB2
  go_wp2_with fail
  refine (toCellS_any m K' V' d cap2 _ (by omega) (HD.out.below HB3.out)).mono ?_
  rintro e w4 ⟨rfl, hb4, ho4⟩
  have HB4 : Hid (Below w.heap.size w w4) := below_then HB3.out hb4
  have H4 : Hid (CellsAt w4 (some ⟨w3.heap.size, 0, none⟩) m K' V') := cells_at_row ho4
  replace H3 : Hid (CellsAt w4 (some ⟨w.heap.size, 0, none⟩) n K V) := H3.out.below hb4
  clear hb4 ho4 HB3
  go_wp2_with fail
  refine (specSmc_any n m K V K' V' _ _ n m _ (by omega) (by omega) H3.out H4.out).mono ?_
  rintro e w5 ⟨rfl, hb5⟩
  have HB5 : Hid (Below w.heap.size w w5) := below_then HB4.out hb5
  clear hb5 HB4 H3 H4
  generalize hC : ceq n K V m K' V' = C
  replace HCC : Hid (ceq n K V m K' V' = C) := hC
  clear hC
  go_wp2_with fail
  refine (toCellS_any n K V a cap _ (by omega) (HA.out.below HB5.out)).mono ?_
  rintro e w6 ⟨rfl, hb6, ho6⟩
  have HB6 : Hid (Below w.heap.size w w6) := below_then HB5.out hb6
  have H6 : Hid (CellsAt w6 (some ⟨w5.heap.size, 0, none⟩) n K V) := cells_at_row ho6
  clear hb6 ho6 HB5
  go_wp2_with fail
  refine (toCellS_any m K' V' d cap2 _ (by omega) (HD.out.below HB6.out)).mono ?_
  rintro e w7 ⟨rfl, hb7, ho7⟩
  have HB7 : Hid (Below w.heap.size w w7) := below_then HB6.out hb7
  have H7 : Hid (CellsAt w7 (some ⟨w6.heap.size, 0, none⟩) m K' V') := cells_at_row ho7
  replace H6 : Hid (CellsAt w7 (some ⟨w5.heap.size, 0, none⟩) n K V) := H6.out.below hb7
  clear hb7 ho7 HB6
  go_wp2_with fail
  refine (implSmc_any n m K V K' V' _ _ n m _ (by omega) (by omega) H6.out H7.out).mono ?_
  rintro e w8 ⟨rfl, hb8⟩
  rw [HCC.out]
  have HB8 : Hid (Below w.heap.size w w8) := below_then HB7.out hb8
  replace H6 : Hid (CellsAt w8 (some ⟨w5.heap.size, 0, none⟩) n K V) := H6.out.below hb8
  replace H7 : Hid (CellsAt w8 (some ⟨w6.heap.size, 0, none⟩) m K' V') := H7.out.below hb8
  have hcc : (C != C) = false := by simp
  clear hb8 HB7 HCC
  go_wp2_with fail
  refine (toCellS_any n K V a cap _ (by omega) (HA.out.below HB8.out)).mono ?_
  rintro e w9 ⟨rfl, hb9, ho9⟩
  have HB9 : Hid (Below w.heap.size w w9) := below_then HB8.out hb9
  have H9 : Hid (CellsAt w9 (some ⟨w8.heap.size, 0, none⟩) n K V) := cells_at_row ho9
  replace H6 : Hid (CellsAt w9 (some ⟨w5.heap.size, 0, none⟩) n K V) := H6.out.below hb9
  replace H7 : Hid (CellsAt w9 (some ⟨w6.heap.size, 0, none⟩) m K' V') := H7.out.below hb9
  clear hb9 ho9 HB8
  go_wp2_with fail
  refine (eqCellS_any n K V _ _ n n _ (by omega) H6.out H9.out).mono ?_
  rintro e w10 ⟨rfl, hb10⟩
  have HB10 : Hid (Below w.heap.size w w10) := below_then HB9.out hb10
  replace H7 : Hid (CellsAt w10 (some ⟨w6.heap.size, 0, none⟩) m K' V') := H7.out.below hb10
  clear hb10 HB9 H6 H9
  go_wp2_with fail
  refine (toCellS_any m K' V' d cap2 _ (by omega) (HD.out.below HB10.out)).mono ?_
  rintro e w11 ⟨rfl, hb11, ho11⟩
  have HB11 : Hid (Below w.heap.size w w11) := below_then HB10.out hb11
  have H11 : Hid (CellsAt w11 (some ⟨w10.heap.size, 0, none⟩) m K' V') := cells_at_row ho11
  replace H7 : Hid (CellsAt w11 (some ⟨w6.heap.size, 0, none⟩) m K' V') := H7.out.below hb11
  clear hb11 ho11 HB10
  go_wp2_with fail
  refine (eqCellS_any m K' V' _ _ m m _ (by omega) H7.out H11.out).mono ?_
  rintro e w12 ⟨rfl, hb12⟩
  have HB12 : Hid (Below w.heap.size w w12) := below_then HB11.out hb12
  clear hb12
  go_wp2_with fail
  go_ret
  exact ⟨rfl, HB12.out⟩
end Go.Proofs.Ytfhldkmbflbmbaa
