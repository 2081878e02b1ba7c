/- FnExactGarbageOf: the walk of the law. -/
import Derived.Test.YtnhlcadipkmhhaaGreatQPgm
namespace Go.Proofs.YtnhlcadipkmhhaaGreat
open Go.RowKit Go.Deep
set_option linter.unusedVariables false
set_option maxRecDepth 20000

theorem eqGarbage_same (c v r1 t1 : Int) (w : World) :
    Calls Tryz.prog 21 #[.agg #[.int .i64 c, .int .i64 v, .int .i64 r1, .int .i64 t1], .agg #[.int .i64 c, .int .i64 v, .int .i64 r1, .int .i64 t1]] w fun e w' => e = .returned (.bool true) ∧ Below w.heap.size w w' := by
  go_enter Tryz.func21, Tryz.ntmps21
  go_wp2_with fail
  go_ret
  exact ⟨rfl, ((Below.refl _ _).alloc (Nat.le_refl _) _).alloc (by simp) _⟩
set_option maxHeartbeats 8000000 in
theorem garbageOfLaw_small (E : En) (a a' : Option Addr) (cap cap' : Nat) (w : World) (hn : E.p ≤ 9223372036854775807) (hL : ∀ i, i < E.p → (E.T i).n ≤ 9223372036854775807) (hm : E.q ≤ 9223372036854775807) (hM : ∀ i, i < E.q → (E.R i).n ≤ 9223372036854775807) (HA0 : EngAt w a a' E) (c v r1 t1 : Int)
    (HP : Hid (SmallE E → ∀ (a a' : Option Addr) (w : World), EngAt w a a' E → Calls Tryz.prog 19 #[.agg #[.int .i64 E.nx, .int .i64 E.ck, .slice a E.p E.p, .slice a' E.q E.q]] w (fun e w' => e = .returned (.agg #[.int .i64 c, .int .i64 v, .int .i64 r1, .int .i64 t1]) ∧ Below w.heap.size w w')))
    (HQ : Hid (SmallE E → ∀ (a a' : Option Addr) (w : World), EngAt w a a' E → Calls Tryz.prog 20 #[.agg #[.int .i64 E.nx, .int .i64 E.ck, .slice a E.p E.p, .slice a' E.q E.q]] w (fun e w' => e = .returned (.agg #[.int .i64 c, .int .i64 v, .int .i64 r1, .int .i64 t1]) ∧ Below w.heap.size w w'))) :
    Calls Tryz.prog 5 #[.agg #[.int .i64 E.nx, .int .i64 E.ck, .slice a E.p cap, .slice a' E.q cap']] w fun e w' => e = .returned (.bool true) ∧ Below w.heap.size w w' := by
  go_enter Tryz.func5, Tryz.ntmps5
  go_wp2_with fail
  refine (szEngine_any E a a' cap cap' _ hn hL hm hM (HA0.below (below_new _ _))).mono ?_
  rintro e w1 ⟨hb, r, rfl, hr⟩
  have hB : Below w.heap.size w w1 := below_then (below_new _ _) hb
  rcases hr with rfl | ⟨hr0, hr1⟩
  · go_wp2_with fail
    go_ret
    exact ⟨rfl, hB⟩
  have HS : SmallE E := smallE_of (by omega)
  have BA := (Box4.new w (.int .i64 E.nx) (.int .i64 E.ck) (.slice a E.p cap) (.slice a' E.q cap') 25).below hb
  have HA := HA0.below hB
  have sw1 : Hid (w.heap.size < w1.heap.size) := by have hq := hb.size; simp at hq; show w.heap.size < w1.heap.size; omega
  have hneg : ¬ (r < 0) := by omega
  clear hb hr0 hr1 hn hm hL hM
  have hneg2 : ¬ ((1 : Int) + (totE E : Int) < 0) := by omega
  have hneg3 : ¬ ((1 : Int) + (0 : Int) < 0) := by omega
  have HTD : Hid (totE E ≤ 13631488) := totE_le HS
  have TA := BA
  obtain ⟨qA0, qA1, qA2, qA3⟩ := TA
  go_wp2_with fail
  refine (toEngine_any E a a' cap cap' _ HS HA).mono ?_
  rintro e w2 ⟨b1, b2, rfl, hb, ho⟩
  clear qA0 qA1 qA2 qA3
  replace hB := below_then hB hb
  replace BA := BA.below hb
  replace HA := HA.below hb
  have sw2 : Hid (w1.heap.size ≤ w2.heap.size) := by have hq := hb.size; show w1.heap.size ≤ w2.heap.size; omega
  have OT := ho.wide (Nat.le_refl _) (Nat.le_refl _) (Nat.le_refl _)
  clear ho
  clear hb
  go_wp2_with fail
  refine (HP.out HS _ _ _ OT.at).mono ?_
  rintro e w3 ⟨rfl, hb⟩
  replace hB := below_then hB hb
  replace BA := BA.below hb
  replace OT := OT.below hb
  replace HA := HA.below hb
  have sw3 : Hid (w2.heap.size ≤ w3.heap.size) := by have hq := hb.size; show w2.heap.size ≤ w3.heap.size; omega
  clear hb
  clear OT
  have TA := BA
  obtain ⟨qA0, qA1, qA2, qA3⟩ := TA
  have rA0 := fun o : Obj => cell_alloc qA0 o
  have rA1 := fun o : Obj => cell_alloc qA1 o
  have rA2 := fun o : Obj => cell_alloc qA2 o
  have rA3 := fun o : Obj => cell_alloc qA3 o
  go_wp2_with fail
  refine (toEngine_any E a a' cap cap' _ HS (HA.below (below_new _ _))).mono ?_
  rintro e w4 ⟨bx, bx2, rfl, hb, ho⟩
  clear qA0 qA1 qA2 qA3 rA0 rA1 rA2 rA3
  replace hB := below_then hB (below_then (below_new _ _) hb)
  replace BA := (BA.alloc _).below hb
  have BW := (Box4.new w3 (.int .i64 c) (.int .i64 v) (.int .i64 r1) (.int .i64 t1) 42).below hb
  replace HA := (HA.below (below_new _ _)).below hb
  have sw4 : Hid (w3.heap.size < w4.heap.size) := by have hq := hb.size; simp at hq; show w3.heap.size < w4.heap.size; omega
  have OX : OwnE w4 (w3.heap.size + 1) w4.heap.size _ _ E := ho.wide (by simp) (Nat.le_refl _) (Nat.le_refl _)
  clear ho
  clear hb
  go_wp2_with fail
  refine (HQ.out HS _ _ _ (OX.at.below (below_new _ _))).mono ?_
  rintro e w5 ⟨rfl, hb⟩
  replace hB := below_then hB (below_then (below_new _ _) hb)
  replace BA := (BA.alloc _).below hb
  replace BW := (BW.alloc _).below hb
  have BX := (Box4.new w4 (.int .i64 E.nx) (.int .i64 E.ck) (.slice (some ⟨bx, 0, none⟩) E.p E.p) (.slice (some ⟨bx2, 0, none⟩) E.q E.q) 31).below hb
  replace OX := (OX.below (below_new _ _)).below hb
  replace HA := (HA.below (below_new _ _)).below hb
  have sw5 : Hid (w4.heap.size < w5.heap.size) := by have hq := hb.size; simp at hq; show w4.heap.size < w5.heap.size; omega
  clear hb
  have TW := BW
  obtain ⟨qW0, qW1, qW2, qW3⟩ := TW
  have rW0 := fun o : Obj => cell_alloc qW0 o
  have rW1 := fun o : Obj => cell_alloc qW1 o
  have rW2 := fun o : Obj => cell_alloc qW2 o
  have rW3 := fun o : Obj => cell_alloc qW3 o
  go_wp2_with fail
  refine (eqGarbage_same c v r1 t1 _  ).mono ?_
  rintro e w6 ⟨rfl, hb⟩
  clear qW0 qW1 qW2 qW3 rW0 rW1 rW2 rW3
  replace hB := below_then hB (below_then (below_new _ _) hb)
  replace BA := (BA.alloc _).below hb
  replace BW := (BW.alloc _).below hb
  replace BX := (BX.alloc _).below hb
  have BG := (Box4.new w5 (.int .i64 c) (.int .i64 v) (.int .i64 r1) (.int .i64 t1) 42).below hb
  replace OX := (OX.below (below_new _ _)).below hb
  replace HA := (HA.below (below_new _ _)).below hb
  have sw6 : Hid (w5.heap.size < w6.heap.size) := by have hq := hb.size; simp at hq; show w5.heap.size < w6.heap.size; omega
  clear hb
  have TX := BX
  obtain ⟨qX0, qX1, qX2, qX3⟩ := TX
  have TA := BA
  obtain ⟨qA0, qA1, qA2, qA3⟩ := TA
  go_wp2_with fail
  have hb0 : Below w6.heap.size w6 w6.drew := (Below.refl _ _).drew
  go_region_held3 (fun w' => Below w6.heap.size w6 w' ∧ w'.cell? ⟨w4.heap.size, 0, none⟩ = some (.int .i64 E.nx) ∧ w'.cell? ⟨w4.heap.size, 1, none⟩ = some (.int .i64 E.ck) ∧ w'.cell? ⟨w4.heap.size, 2, none⟩ = some (.slice (some ⟨bx, 0, none⟩) E.p E.p) ∧ w'.cell? ⟨w4.heap.size, 3, none⟩ = some (.slice (some ⟨bx2, 0, none⟩) E.q E.q) ∧ w'.cell? ⟨w.heap.size, 0, none⟩ = some (.int .i64 E.nx) ∧ w'.cell? ⟨w.heap.size, 1, none⟩ = some (.int .i64 E.ck) ∧ w'.cell? ⟨w.heap.size, 2, none⟩ = some (.slice a E.p cap) ∧ w'.cell? ⟨w.heap.size, 3, none⟩ = some (.slice a' E.q cap')) (go_keep)
    (first | (go_at_call 10; refine (toEngine_any E a a' cap cap' _ HS (HA.below (by simp [*]))).mono ?_; rintro e wq ⟨bq, bq2, rfl, hbq, hoq⟩; have hU := below_then (w := w6) (by simp [*]) hbq; have hU0 := cell_below (B := w4.heap.size) (o := 0) (v := .int .i64 E.nx) (by simp [*]) hbq; have hU1 := cell_below (B := w4.heap.size) (o := 1) (v := .int .i64 E.ck) (by simp [*]) hbq; have hU2 := cell_below (B := w4.heap.size) (o := 2) (v := .slice (some ⟨bx, 0, none⟩) E.p E.p) (by simp [*]) hbq; have hU3 := cell_below (B := w4.heap.size) (o := 3) (v := .slice (some ⟨bx2, 0, none⟩) E.q E.q) (by simp [*]) hbq; have hU4 := cell_below (B := w.heap.size) (o := 0) (v := .int .i64 E.nx) (by simp [*]) hbq; have hU5 := cell_below (B := w.heap.size) (o := 1) (v := .int .i64 E.ck) (by simp [*]) hbq; have hU6 := cell_below (B := w.heap.size) (o := 2) (v := .slice a E.p cap) (by simp [*]) hbq; have hU7 := cell_below (B := w.heap.size) (o := 3) (v := .slice a' E.q cap') (by simp [*]) hbq) | (go_at_call 12; refine (eqEngine_same E _ _ _ _ E.p E.q E.p E.q _ HS (OX.at.below (by simp [*])) hoq.at).mono ?_; rintro e w7 ⟨rfl, hbz⟩; have hS := below_then (w := w6) (by simp [*]) hbz; have hS0 := cell_below (B := w4.heap.size) (o := 0) (v := .int .i64 E.nx) (by simp [*]) hbz; have hS1 := cell_below (B := w4.heap.size) (o := 1) (v := .int .i64 E.ck) (by simp [*]) hbz; have hS2 := cell_below (B := w4.heap.size) (o := 2) (v := .slice (some ⟨bx, 0, none⟩) E.p E.p) (by simp [*]) hbz; have hS3 := cell_below (B := w4.heap.size) (o := 3) (v := .slice (some ⟨bx2, 0, none⟩) E.q E.q) (by simp [*]) hbz; have hS4 := cell_below (B := w.heap.size) (o := 0) (v := .int .i64 E.nx) (by simp [*]) hbz; have hS5 := cell_below (B := w.heap.size) (o := 1) (v := .int .i64 E.ck) (by simp [*]) hbz; have hS6 := cell_below (B := w.heap.size) (o := 2) (v := .slice a E.p cap) (by simp [*]) hbz; have hS7 := cell_below (B := w.heap.size) (o := 3) (v := .slice a' E.q cap') (by simp [*]) hbz))
  clear qX0 qX1 qX2 qX3 qA0 qA1 qA2 qA3
  clear hb0 hU hU0 hU1 hU2 hU3 hU4 hU5 hU6 hU7 hS0 hS1 hS2 hS3 hS4 hS5 hS6 hS7 hbq hoq hbz
  replace hB := below_then hB hS
  replace BA := BA.below hS
  replace BW := BW.below hS
  replace BX := BX.below hS
  replace BG := BG.below hS
  replace OX := OX.below hS
  replace HA := HA.below hS
  have sw7 : Hid (w6.heap.size ≤ w7.heap.size) := by have hq := hS.size; show w6.heap.size ≤ w7.heap.size; omega
  clear hS
  go_wp2_with fail
  go_ret
  exact ⟨rfl, hB⟩
theorem garbageOfLaw (E : En) (a a' : Option Addr) (cap cap' : Nat) (w : World) (hn : E.p ≤ 9223372036854775807) (hL : ∀ i, i < E.p → (E.T i).n ≤ 9223372036854775807) (hm : E.q ≤ 9223372036854775807) (hM : ∀ i, i < E.q → (E.R i).n ≤ 9223372036854775807) (HA0 : EngAt w a a' E) :
    Calls Tryz.prog 5 #[.agg #[.int .i64 E.nx, .int .i64 E.ck, .slice a E.p cap, .slice a' E.q cap']] w fun e w' => e = .returned (.bool true) ∧ Below w.heap.size w w' :=
  garbageOfLaw_small E a a' cap cap' w hn hL hm hM HA0 (eF E) (gaL E).1 (gaL E).2.1 (gaL E).2.2 (fun hs a a' w h => specGa_any E a E.p a' E.q w hs h) (fun hs a a' w h => implGa_any E a E.p a' E.q w hs h)
end Go.Proofs.YtnhlcadipkmhhaaGreat
