/- FnExactFlushPage: the walk of the law. -/
import Derived.Test.YtaokclhcmgbgnaaGreatQDg
import Derived.Test.YtaokclhcmgbgnaaGreatQZec
import Derived.Test.YtaokclhcmgbgnaaGreatQFpk
namespace Go.Proofs.YtaokclhcmgbgnaaGreat
open Go.ChangeShapes Go.WideShapes Go.ChangeAt Go.RowKit Go.Deep Go.Joins
set_option linter.unusedVariables false
set_option maxRecDepth 20000

set_option maxHeartbeats 16000000 in
theorem flushPageLaw_small (t : Sto) (a0 : Option Addr) (c0 : Nat) (a1 : Option Addr) (c1 : Nat) (a2 : Option Addr) (c2 : Nat) (a3 : Option Addr) (c3 : Nat) (a4 : Option Addr) (c4 : Nat) (a5 : Option Addr) (c5 : Nat) (a6 : Option Addr) (c6 : Nat) (x : Int) (w : World) (hbig : BigSt t) (hby : LogByt t.g) (hdy : DiskByt t.d) (HA0 : InSt w a0 a1 a2 a3 a4 a5 a6 t) (c v : Int) (R : Sto) (hR : FewS R)
    (HP : Hid (SmSt t → LogByt t.g → DiskByt t.d → ∀ (a0 a1 a2 a3 a4 a5 a6 : Option Addr) (w : World), InSt w a0 a1 a2 a3 a4 a5 a6 t → Calls Tryz.prog 7 #[.agg #[.int .i64 t.nx, .slice a0 t.pn t.pn, .slice a1 t.d.n t.d.n, .slice a2 t.d.m t.d.m, .slice a3 t.g.n1 t.g.n1, .slice a4 t.g.n2 t.g.n2, .slice a5 t.hn t.hn, .slice a6 t.on t.on], .int .i64 x] w (SRr c v R w)))
    (HQ : Hid (SmSt t → LogByt t.g → DiskByt t.d → ∀ (a0 a1 a2 a3 a4 a5 a6 : Option Addr) (w : World), InSt w a0 a1 a2 a3 a4 a5 a6 t → Calls Tryz.prog 9 #[.agg #[.int .i64 t.nx, .slice a0 t.pn t.pn, .slice a1 t.d.n t.d.n, .slice a2 t.d.m t.d.m, .slice a3 t.g.n1 t.g.n1, .slice a4 t.g.n2 t.g.n2, .slice a5 t.hn t.hn, .slice a6 t.on t.on], .int .i64 x] w (SRes c v R w))) :
    Calls Tryz.prog 3 #[.agg #[.int .i64 t.nx, .slice a0 t.pn c0, .slice a1 t.d.n c1, .slice a2 t.d.m c2, .slice a3 t.g.n1 c3, .slice a4 t.g.n2 c4, .slice a5 t.hn c5, .slice a6 t.on c6], .int .i64 x] w fun e w' => e = .returned (.bool true) ∧ Below w.heap.size w w' := by
  go_enter Tryz.func3, Tryz.ntmps3
  go_wp2_with fail
  refine (szStore_any t a0 c0 a1 c1 a2 c2 a3 c3 a4 c4 a5 c5 a6 c6 1048576 _ hbig (by omega) (by omega) (HA0.below (below_new _ _))).mono ?_
  rintro e w1 ⟨hb, r, rfl, hr⟩
  have hB : Below w.heap.size w w1 := below_then (below_new _ _) hb
  rcases hr with rfl | ⟨hr0, hr1⟩
  · go_wp2_with fail
    go_ret
    exact ⟨rfl, hB⟩
  have HS : SmSt t := smallSt (by omega)
  have BA := (BoxS.new w (.int .i64 t.nx) (.slice a0 t.pn c0) (.slice a1 t.d.n c1) (.slice a2 t.d.m c2) (.slice a3 t.g.n1 c3) (.slice a4 t.g.n2 c4) (.slice a5 t.hn c5) (.slice a6 t.on c6) 33).below hb
  have HA := HA0.below hB
  have sw1 : Hid (w.heap.size < w1.heap.size) := by have hq := hb.size; simp at hq; show w.heap.size < w1.heap.size; omega
  have hneg : ¬ (r < 0) := by omega
  clear hb hr0 hr1 hbig
  have hneg2 : ¬ ((1 : Int) + (totS t : Int) < 0) := by omega
  have hneg3 : ¬ ((1 : Int) + (totS R : Int) < 0) := by omega
  have TA := BA
  obtain ⟨qA0, qA1, qA2, qA3, qA4, qA5, qA6, qA7⟩ := TA
  go_wp2_with fail
  refine (toStore_any t a0 c0 a1 c1 a2 c2 a3 c3 a4 c4 a5 c5 a6 c6 _ HS HA).mono ?_
  rintro e w2 ⟨b10, b11, b12, b13, b14, b15, b16, rfl, hb, ho⟩
  clear qA0 qA1 qA2 qA3 qA4 qA5 qA6 qA7
  replace hB := below_then hB hb
  replace BA := BA.below hb
  replace HA := HA.below hb
  have sw2 : Hid (w1.heap.size ≤ w2.heap.size) := by have hq := hb.size; show w1.heap.size ≤ w2.heap.size; omega
  have OT := ho.wide (Nat.le_refl _) (Nat.le_refl _) (Nat.le_refl _)
  clear ho
  clear hb
  go_wp2_with fail
  refine (HP.out HS hby hdy _ _ _ _ _ _ _ _ OT.at).mono ?_
  rintro e w3 ⟨wa0, wc0, wa1, wc1, wa2, wc2, wa3, wc3, wa4, wc4, wa5, wc5, wa6, wc6, rfl, hb, OW⟩
  replace hB := below_then hB hb
  replace BA := BA.below hb
  replace OT := OT.below hb
  replace HA := HA.below hb
  have sw3 : Hid (w2.heap.size ≤ w3.heap.size) := by have hq := hb.size; show w2.heap.size ≤ w3.heap.size; omega
  clear hb
  clear OT
  have TA := BA
  obtain ⟨qA0, qA1, qA2, qA3, qA4, qA5, qA6, qA7⟩ := TA
  have rA0 := fun o : Obj => cell_alloc qA0 o
  have rA1 := fun o : Obj => cell_alloc qA1 o
  have rA2 := fun o : Obj => cell_alloc qA2 o
  have rA3 := fun o : Obj => cell_alloc qA3 o
  have rA4 := fun o : Obj => cell_alloc qA4 o
  have rA5 := fun o : Obj => cell_alloc qA5 o
  have rA6 := fun o : Obj => cell_alloc qA6 o
  have rA7 := fun o : Obj => cell_alloc qA7 o
  go_wp2_with fail
  refine (toStore_any t a0 c0 a1 c1 a2 c2 a3 c3 a4 c4 a5 c5 a6 c6 _ HS (HA.below (below_new _ _))).mono ?_
  rintro e w4 ⟨bx0, bx1, bx2, bx3, bx4, bx5, bx6, rfl, hb, ho⟩
  clear qA0 qA1 qA2 qA3 qA4 qA5 qA6 qA7 rA0 rA1 rA2 rA3 rA4 rA5 rA6 rA7
  replace hB := below_then hB (below_then (below_new _ _) hb)
  replace BA := (BA.alloc _).below hb
  have BW := (Box10.new w3 (.int .i64 c) (.int .i64 v) (.int .i64 R.nx) (.slice wa0 R.pn wc0) (.slice wa1 R.d.n wc1) (.slice wa2 R.d.m wc2) (.slice wa3 R.g.n1 wc3) (.slice wa4 R.g.n2 wc4) (.slice wa5 R.hn wc5) (.slice wa6 R.on wc6) 44).below hb
  replace OW := (OW.below (below_new _ _)).below hb
  replace HA := (HA.below (below_new _ _)).below hb
  have sw4 : Hid (w3.heap.size < w4.heap.size) := by have hq := hb.size; simp at hq; show w3.heap.size < w4.heap.size; omega
  have OX : OwnS w4 (w3.heap.size + 1) w4.heap.size (some ⟨bx0, 0, none⟩) (some ⟨bx1, 0, none⟩) (some ⟨bx2, 0, none⟩) (some ⟨bx3, 0, none⟩) (some ⟨bx4, 0, none⟩) (some ⟨bx5, 0, none⟩) (some ⟨bx6, 0, none⟩) t := (ho.wide (by simp) (Nat.le_refl _) (Nat.le_refl _)).toS
  clear ho
  clear hb
  go_wp2_with fail
  refine (HQ.out HS hby hdy _ _ _ _ _ _ _ _ (OX.at.below (below_new _ _))).mono ?_
  rintro e w5 ⟨ga0, gc0, ga1, gc1, ga2, gc2, ga3, gc3, ga4, gc4, ga5, gc5, ga6, gc6, rfl, hb, ho⟩
  replace hB := below_then hB (below_then (below_new _ _) hb)
  replace BA := (BA.alloc _).below hb
  replace BW := (BW.alloc _).below hb
  have BX := (BoxS.new w4 (.int .i64 t.nx) (.slice (some ⟨bx0, 0, none⟩) t.pn t.pn) (.slice (some ⟨bx1, 0, none⟩) t.d.n t.d.n) (.slice (some ⟨bx2, 0, none⟩) t.d.m t.d.m) (.slice (some ⟨bx3, 0, none⟩) t.g.n1 t.g.n1) (.slice (some ⟨bx4, 0, none⟩) t.g.n2 t.g.n2) (.slice (some ⟨bx5, 0, none⟩) t.hn t.hn) (.slice (some ⟨bx6, 0, none⟩) t.on t.on) 42).below hb
  replace OW := (OW.below (below_new _ _)).below hb
  replace OX := (OX.below (below_new _ _)).below hb
  replace HA := (HA.below (below_new _ _)).below hb
  have sw5 : Hid (w4.heap.size < w5.heap.size) := by have hq := hb.size; simp at hq; show w4.heap.size < w5.heap.size; omega
  have OG : OwnS w5 (w4.heap.size + 1) w5.heap.size ga0 ga1 ga2 ga3 ga4 ga5 ga6 R := ho.wide (by simp) (Nat.le_refl _) (Nat.le_refl _)
  clear ho
  clear hb
  have TW := BW
  obtain ⟨qW0, qW1, qW2, qW3, qW4, qW5, qW6, qW7, qW8, qW9⟩ := TW
  have rW0 := fun o : Obj => cell_alloc qW0 o
  have rW1 := fun o : Obj => cell_alloc qW1 o
  have rW2 := fun o : Obj => cell_alloc qW2 o
  have rW3 := fun o : Obj => cell_alloc qW3 o
  have rW4 := fun o : Obj => cell_alloc qW4 o
  have rW5 := fun o : Obj => cell_alloc qW5 o
  have rW6 := fun o : Obj => cell_alloc qW6 o
  have rW7 := fun o : Obj => cell_alloc qW7 o
  have rW8 := fun o : Obj => cell_alloc qW8 o
  have rW9 := fun o : Obj => cell_alloc qW9 o
  go_wp2_with fail
  refine (eqStoreResult_same c v R ga0 gc0 ga1 gc1 ga2 gc2 ga3 gc3 ga4 gc4 ga5 gc5 ga6 gc6 wa0 wc0 wa1 wc1 wa2 wc2 wa3 wc3 wa4 wc4 wa5 wc5 wa6 wc6 _ hR.1 (OG.at.below (below_new _ _)) (OW.at.below (below_new _ _))).mono ?_
  rintro e w6 ⟨rfl, hb⟩
  clear qW0 qW1 qW2 qW3 qW4 qW5 qW6 qW7 qW8 qW9 rW0 rW1 rW2 rW3 rW4 rW5 rW6 rW7 rW8 rW9
  replace hB := below_then hB (below_then (below_new _ _) hb)
  replace BA := (BA.alloc _).below hb
  replace BW := (BW.alloc _).below hb
  replace BX := (BX.alloc _).below hb
  have BG := (Box10.new w5 (.int .i64 c) (.int .i64 v) (.int .i64 R.nx) (.slice ga0 R.pn gc0) (.slice ga1 R.d.n gc1) (.slice ga2 R.d.m gc2) (.slice ga3 R.g.n1 gc3) (.slice ga4 R.g.n2 gc4) (.slice ga5 R.hn gc5) (.slice ga6 R.on gc6) 44).below hb
  replace OW := (OW.below (below_new _ _)).below hb
  replace OX := (OX.below (below_new _ _)).below hb
  replace OG := (OG.below (below_new _ _)).below hb
  replace HA := (HA.below (below_new _ _)).below hb
  have sw6 : Hid (w5.heap.size < w6.heap.size) := by have hq := hb.size; simp at hq; show w5.heap.size < w6.heap.size; omega
  clear hb
  have TX := BX
  obtain ⟨qX0, qX1, qX2, qX3, qX4, qX5, qX6, qX7⟩ := TX
  have TA := BA
  obtain ⟨qA0, qA1, qA2, qA3, qA4, qA5, qA6, qA7⟩ := TA
  go_wp2_with fail
  have hb0 : Below w6.heap.size w6 w6.drew := (Below.refl _ _).drew
  go_region_held3 (fun w' => Below w6.heap.size w6 w' ∧ w'.cell? ⟨w4.heap.size, 0, none⟩ = some (.int .i64 t.nx) ∧ w'.cell? ⟨w4.heap.size, 1, none⟩ = some (.slice (some ⟨bx0, 0, none⟩) t.pn t.pn) ∧ w'.cell? ⟨w4.heap.size, 2, none⟩ = some (.slice (some ⟨bx1, 0, none⟩) t.d.n t.d.n) ∧ w'.cell? ⟨w4.heap.size, 3, none⟩ = some (.slice (some ⟨bx2, 0, none⟩) t.d.m t.d.m) ∧ w'.cell? ⟨w4.heap.size, 4, none⟩ = some (.slice (some ⟨bx3, 0, none⟩) t.g.n1 t.g.n1) ∧ w'.cell? ⟨w4.heap.size, 5, none⟩ = some (.slice (some ⟨bx4, 0, none⟩) t.g.n2 t.g.n2) ∧ w'.cell? ⟨w4.heap.size, 6, none⟩ = some (.slice (some ⟨bx5, 0, none⟩) t.hn t.hn) ∧ w'.cell? ⟨w4.heap.size, 7, none⟩ = some (.slice (some ⟨bx6, 0, none⟩) t.on t.on) ∧ w'.cell? ⟨w.heap.size, 0, none⟩ = some (.int .i64 t.nx) ∧ w'.cell? ⟨w.heap.size, 1, none⟩ = some (.slice a0 t.pn c0) ∧ w'.cell? ⟨w.heap.size, 2, none⟩ = some (.slice a1 t.d.n c1) ∧ w'.cell? ⟨w.heap.size, 3, none⟩ = some (.slice a2 t.d.m c2) ∧ w'.cell? ⟨w.heap.size, 4, none⟩ = some (.slice a3 t.g.n1 c3) ∧ w'.cell? ⟨w.heap.size, 5, none⟩ = some (.slice a4 t.g.n2 c4) ∧ w'.cell? ⟨w.heap.size, 6, none⟩ = some (.slice a5 t.hn c5) ∧ w'.cell? ⟨w.heap.size, 7, none⟩ = some (.slice a6 t.on c6)) (go_keep)
    (first | (go_at_call 8; refine (toStore_any t a0 c0 a1 c1 a2 c2 a3 c3 a4 c4 a5 c5 a6 c6 _ HS (HA.below (by simp [*]))).mono ?_; rintro e wq ⟨bq0, bq1, bq2, bq3, bq4, bq5, bq6, rfl, hbq, hoq⟩; have hU := below_then (w := w6) (by simp [*]) hbq; have hU0 := cell_below (B := w4.heap.size) (o := 0) (v := .int .i64 t.nx) (by simp [*]) hbq; have hU1 := cell_below (B := w4.heap.size) (o := 1) (v := .slice (some ⟨bx0, 0, none⟩) t.pn t.pn) (by simp [*]) hbq; have hU2 := cell_below (B := w4.heap.size) (o := 2) (v := .slice (some ⟨bx1, 0, none⟩) t.d.n t.d.n) (by simp [*]) hbq; have hU3 := cell_below (B := w4.heap.size) (o := 3) (v := .slice (some ⟨bx2, 0, none⟩) t.d.m t.d.m) (by simp [*]) hbq; have hU4 := cell_below (B := w4.heap.size) (o := 4) (v := .slice (some ⟨bx3, 0, none⟩) t.g.n1 t.g.n1) (by simp [*]) hbq; have hU5 := cell_below (B := w4.heap.size) (o := 5) (v := .slice (some ⟨bx4, 0, none⟩) t.g.n2 t.g.n2) (by simp [*]) hbq; have hU6 := cell_below (B := w4.heap.size) (o := 6) (v := .slice (some ⟨bx5, 0, none⟩) t.hn t.hn) (by simp [*]) hbq; have hU7 := cell_below (B := w4.heap.size) (o := 7) (v := .slice (some ⟨bx6, 0, none⟩) t.on t.on) (by simp [*]) hbq; have hU8 := cell_below (B := w.heap.size) (o := 0) (v := .int .i64 t.nx) (by simp [*]) hbq; have hU9 := cell_below (B := w.heap.size) (o := 1) (v := .slice a0 t.pn c0) (by simp [*]) hbq; have hU10 := cell_below (B := w.heap.size) (o := 2) (v := .slice a1 t.d.n c1) (by simp [*]) hbq; have hU11 := cell_below (B := w.heap.size) (o := 3) (v := .slice a2 t.d.m c2) (by simp [*]) hbq; have hU12 := cell_below (B := w.heap.size) (o := 4) (v := .slice a3 t.g.n1 c3) (by simp [*]) hbq; have hU13 := cell_below (B := w.heap.size) (o := 5) (v := .slice a4 t.g.n2 c4) (by simp [*]) hbq; have hU14 := cell_below (B := w.heap.size) (o := 6) (v := .slice a5 t.hn c5) (by simp [*]) hbq; have hU15 := cell_below (B := w.heap.size) (o := 7) (v := .slice a6 t.on c6) (by simp [*]) hbq) | (go_at_call 11; refine (eqStore_same t _ t.pn _ t.d.n _ t.d.m _ t.g.n1 _ t.g.n2 _ t.hn _ t.on _ t.pn _ t.d.n _ t.d.m _ t.g.n1 _ t.g.n2 _ t.hn _ t.on _ HS (OX.at.below (by simp [*])) hoq.at).mono ?_; rintro e w7 ⟨rfl, hbz⟩; have hS := below_then (w := w6) (by simp [*]) hbz; have hS0 := cell_below (B := w4.heap.size) (o := 0) (v := .int .i64 t.nx) (by simp [*]) hbz; have hS1 := cell_below (B := w4.heap.size) (o := 1) (v := .slice (some ⟨bx0, 0, none⟩) t.pn t.pn) (by simp [*]) hbz; have hS2 := cell_below (B := w4.heap.size) (o := 2) (v := .slice (some ⟨bx1, 0, none⟩) t.d.n t.d.n) (by simp [*]) hbz; have hS3 := cell_below (B := w4.heap.size) (o := 3) (v := .slice (some ⟨bx2, 0, none⟩) t.d.m t.d.m) (by simp [*]) hbz; have hS4 := cell_below (B := w4.heap.size) (o := 4) (v := .slice (some ⟨bx3, 0, none⟩) t.g.n1 t.g.n1) (by simp [*]) hbz; have hS5 := cell_below (B := w4.heap.size) (o := 5) (v := .slice (some ⟨bx4, 0, none⟩) t.g.n2 t.g.n2) (by simp [*]) hbz; have hS6 := cell_below (B := w4.heap.size) (o := 6) (v := .slice (some ⟨bx5, 0, none⟩) t.hn t.hn) (by simp [*]) hbz; have hS7 := cell_below (B := w4.heap.size) (o := 7) (v := .slice (some ⟨bx6, 0, none⟩) t.on t.on) (by simp [*]) hbz; have hS8 := cell_below (B := w.heap.size) (o := 0) (v := .int .i64 t.nx) (by simp [*]) hbz; have hS9 := cell_below (B := w.heap.size) (o := 1) (v := .slice a0 t.pn c0) (by simp [*]) hbz; have hS10 := cell_below (B := w.heap.size) (o := 2) (v := .slice a1 t.d.n c1) (by simp [*]) hbz; have hS11 := cell_below (B := w.heap.size) (o := 3) (v := .slice a2 t.d.m c2) (by simp [*]) hbz; have hS12 := cell_below (B := w.heap.size) (o := 4) (v := .slice a3 t.g.n1 c3) (by simp [*]) hbz; have hS13 := cell_below (B := w.heap.size) (o := 5) (v := .slice a4 t.g.n2 c4) (by simp [*]) hbz; have hS14 := cell_below (B := w.heap.size) (o := 6) (v := .slice a5 t.hn c5) (by simp [*]) hbz; have hS15 := cell_below (B := w.heap.size) (o := 7) (v := .slice a6 t.on c6) (by simp [*]) hbz))
  clear qX0 qX1 qX2 qX3 qX4 qX5 qX6 qX7 qA0 qA1 qA2 qA3 qA4 qA5 qA6 qA7
  clear hb0 hU hU0 hU1 hU2 hU3 hU4 hU5 hU6 hU7 hU8 hU9 hU10 hU11 hU12 hU13 hU14 hU15 hS0 hS1 hS2 hS3 hS4 hS5 hS6 hS7 hS8 hS9 hS10 hS11 hS12 hS13 hS14 hS15 hbq hoq hbz
  replace hB := below_then hB hS
  replace BA := BA.below hS
  replace BW := BW.below hS
  replace BX := BX.below hS
  replace BG := BG.below hS
  replace OW := OW.below hS
  replace OX := OX.below hS
  replace OG := OG.below hS
  replace HA := HA.below hS
  have sw7 : Hid (w6.heap.size ≤ w7.heap.size) := by have hq := hS.size; show w6.heap.size ≤ w7.heap.size; omega
  clear hS
  have TX := BX
  obtain ⟨qX0, qX1, qX2, qX3, qX4, qX5, qX6, qX7⟩ := TX
  go_wp2_with fail
  refine (markStore_b t (some ⟨bx0, 0, none⟩) t.pn (some ⟨bx1, 0, none⟩) t.d.n (some ⟨bx2, 0, none⟩) t.d.m (some ⟨bx3, 0, none⟩) t.g.n1 (some ⟨bx4, 0, none⟩) t.g.n2 (some ⟨bx5, 0, none⟩) t.hn (some ⟨bx6, 0, none⟩) t.on (w3.heap.size + 1) w4.heap.size _ HS OX).mono ?_
  rintro e w8 ⟨rfl, hw, hox⟩
  clear qX0 qX1 qX2 qX3 qX4 qX5 qX6 qX7
  replace hB := Writes.below hB hw (by have t0 := sw1.out; have t1 := sw2.out; have t2 := sw3.out; have t3 := sw4.out; have t4 := sw5.out; have t5 := sw6.out; have t6 := sw7.out; omega)
  replace BA := BA.writes hw (by have t0 := sw1.out; have t1 := sw2.out; have t2 := sw3.out; have t3 := sw4.out; have t4 := sw5.out; have t5 := sw6.out; have t6 := sw7.out; omega)
  replace BW := BW.writes hw (by have t0 := sw1.out; have t1 := sw2.out; have t2 := sw3.out; have t3 := sw4.out; have t4 := sw5.out; have t5 := sw6.out; have t6 := sw7.out; omega)
  replace BX := BX.writes hw (by have t0 := sw1.out; have t1 := sw2.out; have t2 := sw3.out; have t3 := sw4.out; have t4 := sw5.out; have t5 := sw6.out; have t6 := sw7.out; omega)
  replace BG := BG.writes hw (by have t0 := sw1.out; have t1 := sw2.out; have t2 := sw3.out; have t3 := sw4.out; have t4 := sw5.out; have t5 := sw6.out; have t6 := sw7.out; omega)
  replace OW := OW.writes hw (by have t0 := sw1.out; have t1 := sw2.out; have t2 := sw3.out; have t3 := sw4.out; have t4 := sw5.out; have t5 := sw6.out; have t6 := sw7.out; omega)
  replace OG := OG.writes hw (by have t0 := sw1.out; have t1 := sw2.out; have t2 := sw3.out; have t3 := sw4.out; have t4 := sw5.out; have t5 := sw6.out; have t6 := sw7.out; omega)
  replace HA := HA0.below hB
  have sw8 : Hid (w7.heap.size ≤ w8.heap.size) := by have hq := hw.size; show w7.heap.size ≤ w8.heap.size; omega
  clear hw
  clear hox OX
  have TG := BG
  obtain ⟨qG0, qG1, qG2, qG3, qG4, qG5, qG6, qG7, qG8, qG9⟩ := TG
  have TW := BW
  obtain ⟨qW0, qW1, qW2, qW3, qW4, qW5, qW6, qW7, qW8, qW9⟩ := TW
  go_wp2_with fail
  refine (eqStoreResult_same c v R ga0 gc0 ga1 gc1 ga2 gc2 ga3 gc3 ga4 gc4 ga5 gc5 ga6 gc6 wa0 wc0 wa1 wc1 wa2 wc2 wa3 wc3 wa4 wc4 wa5 wc5 wa6 wc6 _ hR.1 OG.at OW.at).mono ?_
  rintro e w9 ⟨rfl, hb⟩
  clear qG0 qG1 qG2 qG3 qG4 qG5 qG6 qG7 qG8 qG9 qW0 qW1 qW2 qW3 qW4 qW5 qW6 qW7 qW8 qW9
  replace hB := below_then hB hb
  replace BA := BA.below hb
  replace BW := BW.below hb
  replace BX := BX.below hb
  replace BG := BG.below hb
  replace OW := OW.below hb
  replace OG := OG.below hb
  replace HA := HA.below hb
  have sw9 : Hid (w8.heap.size ≤ w9.heap.size) := by have hq := hb.size; show w8.heap.size ≤ w9.heap.size; omega
  clear hb
  have TG := BG
  obtain ⟨qG0, qG1, qG2, qG3, qG4, qG5, qG6, qG7, qG8, qG9⟩ := TG
  go_wp2_with fail
  refine (markStoreResult_any c v R ga0 gc0 ga1 gc1 ga2 gc2 ga3 gc3 ga4 gc4 ga5 gc5 ga6 gc6 (w4.heap.size + 1) w5.heap.size _ hR OG).mono ?_
  rintro e w10 ⟨rfl, hw, hog⟩
  clear qG0 qG1 qG2 qG3 qG4 qG5 qG6 qG7 qG8 qG9
  replace hB := Writes.below hB hw (by have t0 := sw1.out; have t1 := sw2.out; have t2 := sw3.out; have t3 := sw4.out; have t4 := sw5.out; have t5 := sw6.out; have t6 := sw7.out; have t7 := sw8.out; have t8 := sw9.out; omega)
  replace BA := BA.writes hw (by have t0 := sw1.out; have t1 := sw2.out; have t2 := sw3.out; have t3 := sw4.out; have t4 := sw5.out; have t5 := sw6.out; have t6 := sw7.out; have t7 := sw8.out; have t8 := sw9.out; omega)
  replace BW := BW.writes hw (by have t0 := sw1.out; have t1 := sw2.out; have t2 := sw3.out; have t3 := sw4.out; have t4 := sw5.out; have t5 := sw6.out; have t6 := sw7.out; have t7 := sw8.out; have t8 := sw9.out; omega)
  replace BX := BX.writes hw (by have t0 := sw1.out; have t1 := sw2.out; have t2 := sw3.out; have t3 := sw4.out; have t4 := sw5.out; have t5 := sw6.out; have t6 := sw7.out; have t7 := sw8.out; have t8 := sw9.out; omega)
  replace BG := BG.writes hw (by have t0 := sw1.out; have t1 := sw2.out; have t2 := sw3.out; have t3 := sw4.out; have t4 := sw5.out; have t5 := sw6.out; have t6 := sw7.out; have t7 := sw8.out; have t8 := sw9.out; omega)
  replace OW := OW.writes hw (by have t0 := sw1.out; have t1 := sw2.out; have t2 := sw3.out; have t3 := sw4.out; have t4 := sw5.out; have t5 := sw6.out; have t6 := sw7.out; have t7 := sw8.out; have t8 := sw9.out; omega)
  replace HA := HA0.below hB
  have sw10 : Hid (w9.heap.size ≤ w10.heap.size) := by have hq := hw.size; show w9.heap.size ≤ w10.heap.size; omega
  clear hw
  clear OG
  have OG := hog
  clear hog
  have TG := BG
  obtain ⟨qG0, qG1, qG2, qG3, qG4, qG5, qG6, qG7, qG8, qG9⟩ := TG
  go_wp2_with fail
  refine (heldStoreResult_any c v R ga0 gc0 ga1 gc1 ga2 gc2 ga3 gc3 ga4 gc4 ga5 gc5 ga6 gc6 _ hR OG.at).mono ?_
  rintro e w11 ⟨rfl, hb⟩
  clear qG0 qG1 qG2 qG3 qG4 qG5 qG6 qG7 qG8 qG9
  replace hB := below_then hB hb
  replace BA := BA.below hb
  replace BW := BW.below hb
  replace BX := BX.below hb
  replace BG := BG.below hb
  replace OW := OW.below hb
  replace OG := OG.below hb
  replace HA := HA.below hb
  have sw11 : Hid (w10.heap.size ≤ w11.heap.size) := by have hq := hb.size; show w10.heap.size ≤ w11.heap.size; omega
  clear hb
  have TA := BA
  obtain ⟨qA0, qA1, qA2, qA3, qA4, qA5, qA6, qA7⟩ := TA
  go_wp2_with fail
  refine (toStore_any t a0 c0 a1 c1 a2 c2 a3 c3 a4 c4 a5 c5 a6 c6 _ HS HA).mono ?_
  rintro e w12 ⟨bv0, bv1, bv2, bv3, bv4, bv5, bv6, rfl, hb, ho⟩
  clear qA0 qA1 qA2 qA3 qA4 qA5 qA6 qA7
  replace hB := below_then hB hb
  replace BA := BA.below hb
  replace BW := BW.below hb
  replace BX := BX.below hb
  replace BG := BG.below hb
  replace OW := OW.below hb
  replace OG := OG.below hb
  replace HA := HA.below hb
  have sw12 : Hid (w11.heap.size ≤ w12.heap.size) := by have hq := hb.size; show w11.heap.size ≤ w12.heap.size; omega
  have OT := ho.wide (Nat.le_refl _) (Nat.le_refl _) (Nat.le_refl _)
  clear ho
  clear hb
  go_wp2_with fail
  refine (HQ.out HS hby hdy _ _ _ _ _ _ _ _ OT.at).mono ?_
  rintro e w13 ⟨ha0, hc0, ha1, hc1, ha2, hc2, ha3, hc3, ha4, hc4, ha5, hc5, ha6, hc6, rfl, hb, OH⟩
  replace hB := below_then hB hb
  replace BA := BA.below hb
  replace BW := BW.below hb
  replace BX := BX.below hb
  replace BG := BG.below hb
  replace OW := OW.below hb
  replace OG := OG.below hb
  replace OT := OT.below hb
  replace HA := HA.below hb
  have sw13 : Hid (w12.heap.size ≤ w13.heap.size) := by have hq := hb.size; show w12.heap.size ≤ w13.heap.size; omega
  clear hb
  clear OT
  have TW := BW
  obtain ⟨qW0, qW1, qW2, qW3, qW4, qW5, qW6, qW7, qW8, qW9⟩ := TW
  have rW0 := fun o : Obj => cell_alloc qW0 o
  have rW1 := fun o : Obj => cell_alloc qW1 o
  have rW2 := fun o : Obj => cell_alloc qW2 o
  have rW3 := fun o : Obj => cell_alloc qW3 o
  have rW4 := fun o : Obj => cell_alloc qW4 o
  have rW5 := fun o : Obj => cell_alloc qW5 o
  have rW6 := fun o : Obj => cell_alloc qW6 o
  have rW7 := fun o : Obj => cell_alloc qW7 o
  have rW8 := fun o : Obj => cell_alloc qW8 o
  have rW9 := fun o : Obj => cell_alloc qW9 o
  go_wp2_with fail
  refine (eqStoreResult_same c v R ha0 hc0 ha1 hc1 ha2 hc2 ha3 hc3 ha4 hc4 ha5 hc5 ha6 hc6 wa0 wc0 wa1 wc1 wa2 wc2 wa3 wc3 wa4 wc4 wa5 wc5 wa6 wc6 _ hR.1 (OH.at.below (below_new _ _)) (OW.at.below (below_new _ _))).mono ?_
  rintro e w14 ⟨rfl, hb⟩
  clear qW0 qW1 qW2 qW3 qW4 qW5 qW6 qW7 qW8 qW9 rW0 rW1 rW2 rW3 rW4 rW5 rW6 rW7 rW8 rW9
  replace hB := below_then hB (below_then (below_new _ _) hb)
  replace BA := (BA.alloc _).below hb
  replace BW := (BW.alloc _).below hb
  replace BX := (BX.alloc _).below hb
  replace BG := (BG.alloc _).below hb
  have BH := (Box10.new w13 (.int .i64 c) (.int .i64 v) (.int .i64 R.nx) (.slice ha0 R.pn hc0) (.slice ha1 R.d.n hc1) (.slice ha2 R.d.m hc2) (.slice ha3 R.g.n1 hc3) (.slice ha4 R.g.n2 hc4) (.slice ha5 R.hn hc5) (.slice ha6 R.on hc6) 44).below hb
  replace OW := (OW.below (below_new _ _)).below hb
  replace OG := (OG.below (below_new _ _)).below hb
  replace OH := (OH.below (below_new _ _)).below hb
  replace HA := (HA.below (below_new _ _)).below hb
  have sw14 : Hid (w13.heap.size < w14.heap.size) := by have hq := hb.size; simp at hq; show w13.heap.size < w14.heap.size; omega
  clear hb
  have TG := BG
  obtain ⟨qG0, qG1, qG2, qG3, qG4, qG5, qG6, qG7, qG8, qG9⟩ := TG
  go_wp2_with fail
  refine (heldStoreResult_any c v R ga0 gc0 ga1 gc1 ga2 gc2 ga3 gc3 ga4 gc4 ga5 gc5 ga6 gc6 _ hR OG.at).mono ?_
  rintro e w15 ⟨rfl, hb⟩
  clear qG0 qG1 qG2 qG3 qG4 qG5 qG6 qG7 qG8 qG9
  replace hB := below_then hB hb
  replace BA := BA.below hb
  replace BW := BW.below hb
  replace BX := BX.below hb
  replace BG := BG.below hb
  replace BH := BH.below hb
  replace OW := OW.below hb
  replace OG := OG.below hb
  replace OH := OH.below hb
  replace HA := HA.below hb
  have sw15 : Hid (w14.heap.size ≤ w15.heap.size) := by have hq := hb.size; show w14.heap.size ≤ w15.heap.size; omega
  clear hb
  go_wp2_with fail
  go_ret
  exact ⟨rfl, hB⟩
theorem flushPageLaw (t : Sto) (a0 : Option Addr) (c0 : Nat) (a1 : Option Addr) (c1 : Nat) (a2 : Option Addr) (c2 : Nat) (a3 : Option Addr) (c3 : Nat) (a4 : Option Addr) (c4 : Nat) (a5 : Option Addr) (c5 : Nat) (a6 : Option Addr) (c6 : Nat) (x : Int) (w : World) (hbig : BigSt t) (hby : LogByt t.g) (hdy : DiskByt t.d) (HA0 : InSt w a0 a1 a2 a3 a4 a5 a6 t) :
    Calls Tryz.prog 3 #[.agg #[.int .i64 t.nx, .slice a0 t.pn c0, .slice a1 t.d.n c1, .slice a2 t.d.m c2, .slice a3 t.g.n1 c3, .slice a4 t.g.n2 c4, .slice a5 t.hn c5, .slice a6 t.on c6], .int .i64 x] w fun e w' => e = .returned (.bool true) ∧ Below w.heap.size w w' :=
  flushPageLaw_small t a0 c0 a1 c1 a2 c2 a3 c3 a4 c4 a5 c5 a6 c6 x w hbig hby hdy HA0 (fpC t x) 0 (fpT t x) (fp_few t x) (fun hs hy _ a0 a1 a2 a3 a4 a5 a6 w h => specFp_any t a0 t.pn a1 t.d.n a2 t.d.m a3 t.g.n1 a4 t.g.n2 a5 t.hn a6 t.on x w hs hy h) (fun hs hy _ a0 a1 a2 a3 a4 a5 a6 w h => implFp_any t a0 t.pn a1 t.d.n a2 t.d.m a3 t.g.n1 a4 t.g.n2 a5 t.hn a6 t.on x w hs hy h)
end Go.Proofs.YtaokclhcmgbgnaaGreat
