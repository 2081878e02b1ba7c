/- FnExactCellOf: the walk of the law. -/
import Derived.Test.YtenglcgkachomaaCof
namespace Go.Proofs.Ytenglcgkachomaa
open Go.RowKit Go.Deep
set_option linter.unusedVariables false
set_option maxRecDepth 20000
theorem szPage_below (idn lsn : Int) (n : Nat) (a : Option Addr) (cap : Nat) (w : World) (hn : n ≤ 1048576) :
    Calls Try.prog 7 #[.agg #[.int .i64 idn, .int .i64 lsn, .slice a n cap], .int .i64 1048576] w fun e w' => e = .returned (.int .i64 (1048576 - n)) ∧ Below w.heap.size w w' := by
  refine (szPage_any idn lsn n a cap w (by omega)).mono ?_
  rintro e w' ⟨rfl, c, rfl⟩
  exact ⟨by rw [if_pos hn], below_new _ _⟩
theorem szPage_big (idn lsn : Int) (n : Nat) (a : Option Addr) (cap : Nat) (w : World) (hn : n ≤ 9223372036854775807) (hb : ¬ n ≤ 1048576) :
    Calls Try.prog 7 #[.agg #[.int .i64 idn, .int .i64 lsn, .slice a n cap], .int .i64 1048576] w fun e w' => e = .returned (.int .i64 (-1)) ∧ Below w.heap.size w w' := by
  refine (szPage_any idn lsn n a cap w (by omega)).mono ?_
  rintro e w' ⟨rfl, c, rfl⟩
  exact ⟨by rw [if_neg hb], below_new _ _⟩



set_option maxHeartbeats 2000000 in
theorem cellOfLaw (idn lsn : Int) (n : Nat) (K V : Nat → Int) (a : Option Addr) (cap : Nat) (key : Int) (w : World) (hn : n ≤ 9223372036854775807) (HA0 : CellsAt w a n K V) :
    Calls Try.prog 3 #[.agg #[.int .i64 idn, .int .i64 lsn, .slice a n cap], .int .i64 key] w fun e w' => e = .returned (.bool true) ∧ Below w.heap.size w w' := by
  by_cases hbig : n ≤ 1048576
  · go_enter Try.func3, Try.ntmps3
    go_wp2_with fail
    refine (szPage_below idn lsn n a cap _ hbig).mono ?_
    rintro e w1 ⟨rfl, hb⟩
    have hB : Below w.heap.size w w1 := below_then (below_new _ _) hb
    have BA := (Box3.new w (.int .i64 idn) (.int .i64 lsn) (.slice a n cap) 24).below hb
    have HA := HA0.below hB
    have sw1 : Hid (w.heap.size < w1.heap.size) := by have hq := hb.size; simp at hq; show w.heap.size < w1.heap.size; omega
    clear hb
    have hneg : ¬ ((1048576 : Int) - (n : Int) < 0) := by omega
    have TA := BA
    obtain ⟨qA0, qA1, qA2⟩ := TA
    go_wp2_with fail
    refine (toPage_any idn lsn n K V a cap _ (by omega) HA).mono ?_
    rintro e w2 ⟨b1, rfl, hb, ho⟩
    clear qA0 qA1 qA2
    replace hB := below_then hB hb
    replace BA := BA.below hb
    replace HA := HA.below hb
    have sw2 : Hid (w1.heap.size ≤ w2.heap.size) := by have hq := hb.size; show w1.heap.size ≤ w2.heap.size; omega
    clear hb
    go_wp2_with fail
    refine (specCellOf_any idn lsn n K V _ n key _ (by omega) ho.at).mono ?_
    rintro e w3 ⟨rfl, hb⟩
    replace hB := below_then hB hb
    replace BA := BA.below hb
    replace HA := HA.below hb
    have sw3 : Hid (w2.heap.size ≤ w3.heap.size) := by have hq := hb.size; show w2.heap.size ≤ w3.heap.size; omega
    clear hb
    clear ho
    have TA := BA
    obtain ⟨qA0, qA1, qA2⟩ := TA
    have rA0 := fun o : Obj => cell_alloc qA0 o
    have rA1 := fun o : Obj => cell_alloc qA1 o
    have rA2 := fun o : Obj => cell_alloc qA2 o
    go_wp2_with fail
    refine (toPage_any idn lsn n K V a cap _ (by omega) (HA.below (below_new _ _))).mono ?_
    rintro e w4 ⟨bx, rfl, hb, ho⟩
    clear qA0 qA1 qA2 rA0 rA1 rA2
    replace hB := below_then hB (below_then (below_new _ _) hb)
    replace BA := (BA.alloc _).below hb
    have BW := (Box2.new w3 (.int .i64 (coC idn lsn n K V key)) (.int .i64 (coV idn lsn n K V key)) 27).below hb
    replace HA := (HA.below (below_new _ _)).below hb
    have sw4 : Hid (w3.heap.size < w4.heap.size) := by have hq := hb.size; simp at hq; show w3.heap.size < w4.heap.size; omega
    have OX := ho.wide (Nat.zero_le _) (Nat.le_refl _) (Nat.le_refl _)
    clear ho
    clear hb
    go_wp2_with fail
    refine (implCellOf_any idn lsn n K V _ n key _ (by omega) (OX.at.below (below_new _ _))).mono ?_
    rintro e w5 ⟨rfl, hb⟩
    replace hB := below_then hB (below_then (below_new _ _) hb)
    replace BA := (BA.alloc _).below hb
    replace BW := (BW.alloc _).below hb
    have BX := (Box3.new w4 (.int .i64 idn) (.int .i64 lsn) (.slice (some ⟨bx, 0, none⟩) n n) 31).below hb
    replace OX := (OX.below (below_new _ _)).below hb
    replace HA := (HA.below (below_new _ _)).below hb
    have sw5 : Hid (w4.heap.size < w5.heap.size) := by have hq := hb.size; simp at hq; show w4.heap.size < w5.heap.size; omega
    clear hb
    have TW := BW
    obtain ⟨qW0, qW1⟩ := TW
    have rW0 := fun o : Obj => cell_alloc qW0 o
    have rW1 := fun o : Obj => cell_alloc qW1 o
    go_wp2_with fail
    refine (eqIntResult_same (coC idn lsn n K V key) (coV idn lsn n K V key) _).mono ?_
    rintro e w6 ⟨rfl, hb⟩
    clear qW0 qW1 rW0 rW1
    replace hB := below_then hB (below_then (below_new _ _) hb)
    replace BA := (BA.alloc _).below hb
    replace BW := (BW.alloc _).below hb
    replace BX := (BX.alloc _).below hb
    have BG := (Box2.new w5 (.int .i64 (coC idn lsn n K V key)) (.int .i64 (coV idn lsn n K V key)) 27).below hb
    replace OX := (OX.below (below_new _ _)).below hb
    replace HA := (HA.below (below_new _ _)).below hb
    have sw6 : Hid (w5.heap.size < w6.heap.size) := by have hq := hb.size; simp at hq; show w5.heap.size < w6.heap.size; omega
    clear hb
    have TX := BX
    obtain ⟨qX0, qX1, qX2⟩ := TX
    have TA := BA
    obtain ⟨qA0, qA1, qA2⟩ := TA
    go_wp2_with fail
    have hb0 : Below w6.heap.size w6 w6.drew := (Below.refl _ _).drew
    go_region_held3 (fun w' => Below w6.heap.size w6 w' ∧ w'.cell? ⟨w4.heap.size, 0, none⟩ = some (.int .i64 idn) ∧ w'.cell? ⟨w4.heap.size, 1, none⟩ = some (.int .i64 lsn) ∧ w'.cell? ⟨w4.heap.size, 2, none⟩ = some (.slice (some ⟨bx, 0, none⟩) n n) ∧ w'.cell? ⟨w.heap.size, 0, none⟩ = some (.int .i64 idn) ∧ w'.cell? ⟨w.heap.size, 1, none⟩ = some (.int .i64 lsn) ∧ w'.cell? ⟨w.heap.size, 2, none⟩ = some (.slice a n cap)) (go_keep)
      (first | (go_at_call 9; refine (toPage_any idn lsn n K V a cap _ (by omega) (HA.below (by simp [*]))).mono ?_; rintro e wq ⟨bq, rfl, hbq, hoq⟩; have hS := below_then (w := w6) (by simp [*]) hbq; have hS0 := cell_below (B := w4.heap.size) (o := 0) (v := .int .i64 idn) (by simp [*]) hbq; have hS1 := cell_below (B := w4.heap.size) (o := 1) (v := .int .i64 lsn) (by simp [*]) hbq; have hS2 := cell_below (B := w4.heap.size) (o := 2) (v := .slice (some ⟨bx, 0, none⟩) n n) (by simp [*]) hbq; have hS3 := cell_below (B := w.heap.size) (o := 0) (v := .int .i64 idn) (by simp [*]) hbq; have hS4 := cell_below (B := w.heap.size) (o := 1) (v := .int .i64 lsn) (by simp [*]) hbq; have hS5 := cell_below (B := w.heap.size) (o := 2) (v := .slice a n cap) (by simp [*]) hbq) | (go_at_call 12; refine (eqPage_same idn lsn n K V _ _ n n _ (by omega) (OX.at.below (by simp [*])) hoq.at).mono ?_; rintro e wz ⟨rfl, hbz⟩; have hS := below_then (w := w6) (by simp [*]) hbz; have hS0 := cell_below (B := w4.heap.size) (o := 0) (v := .int .i64 idn) (by simp [*]) hbz; have hS1 := cell_below (B := w4.heap.size) (o := 1) (v := .int .i64 lsn) (by simp [*]) hbz; have hS2 := cell_below (B := w4.heap.size) (o := 2) (v := .slice (some ⟨bx, 0, none⟩) n n) (by simp [*]) hbz; have hS3 := cell_below (B := w.heap.size) (o := 0) (v := .int .i64 idn) (by simp [*]) hbz; have hS4 := cell_below (B := w.heap.size) (o := 1) (v := .int .i64 lsn) (by simp [*]) hbz; have hS5 := cell_below (B := w.heap.size) (o := 2) (v := .slice a n cap) (by simp [*]) hbz))
    go_wp2
    go_ret
    exact ⟨rfl, below_then hB hS⟩
  · go_enter Try.func3, Try.ntmps3
    go_wp2_with fail
    refine (szPage_big idn lsn n a cap _ hn hbig).mono ?_
    rintro e w1 ⟨rfl, hb⟩
    go_wp2_with fail
    go_ret
    exact ⟨rfl, below_then (below_new _ _) hb⟩
end Go.Proofs.Ytenglcgkachomaa
