/- FnExactGetStore: the walk of the law. -/
import Derived.Test.YtfmpmhppjikadaaGreatQZgb
namespace Go.Proofs.YtfmpmhppjikadaaGreat
open Go.ChangeShapes Go.WideShapes Go.ChangeAt Go.RowKit Go.Deep Go.Joins
set_option linter.unusedVariables false
set_option maxRecDepth 20000

set_option maxHeartbeats 8000000 in
theorem getStoreLaw_small (t : Sto) (a0 : Option Addr) (c0 : Nat) (a1 : Option Addr) (c1 : Nat) (a2 : Option Addr) (c2 : Nat) (a3 : Option Addr) (c3 : Nat) (a4 : Option Addr) (c4 : Nat) (a5 : Option Addr) (c5 : Nat) (a6 : Option Addr) (c6 : Nat) (key : Int) (w : World) (hbig : BigSt t) (hby : LogByt t.g) (hdy : DiskByt t.d) (HA0 : InSt w a0 a1 a2 a3 a4 a5 a6 t) (c v : Int)
    (HP : Hid (SmSt t → LogByt t.g → DiskByt t.d → ∀ (a0 a1 a2 a3 a4 a5 a6 : Option Addr) (w : World), InSt w a0 a1 a2 a3 a4 a5 a6 t → Calls Tryz.prog 20 #[.agg #[.int .i64 t.nx, .slice a0 t.pn t.pn, .slice a1 t.d.n t.d.n, .slice a2 t.d.m t.d.m, .slice a3 t.g.n1 t.g.n1, .slice a4 t.g.n2 t.g.n2, .slice a5 t.hn t.hn, .slice a6 t.on t.on], .int .i64 key] w (fun e w' => e = .returned (.agg #[.int .i64 c, .int .i64 v]) ∧ Below w.heap.size w w')))
    (HQ : Hid (SmSt t → LogByt t.g → DiskByt t.d → ∀ (a0 a1 a2 a3 a4 a5 a6 : Option Addr) (w : World), InSt w a0 a1 a2 a3 a4 a5 a6 t → Calls Tryz.prog 21 #[.agg #[.int .i64 t.nx, .slice a0 t.pn t.pn, .slice a1 t.d.n t.d.n, .slice a2 t.d.m t.d.m, .slice a3 t.g.n1 t.g.n1, .slice a4 t.g.n2 t.g.n2, .slice a5 t.hn t.hn, .slice a6 t.on t.on], .int .i64 key] w (fun e w' => e = .returned (.agg #[.int .i64 c, .int .i64 v]) ∧ Below w.heap.size w w'))) :
    Calls Tryz.prog 5 #[.agg #[.int .i64 t.nx, .slice a0 t.pn c0, .slice a1 t.d.n c1, .slice a2 t.d.m c2, .slice a3 t.g.n1 c3, .slice a4 t.g.n2 c4, .slice a5 t.hn c5, .slice a6 t.on c6], .int .i64 key] w fun e w' => e = .returned (.bool true) ∧ Below w.heap.size w w' := by
  go_enter Tryz.func5, Tryz.ntmps5
  go_wp2_with fail
  refine (szStore_any t a0 c0 a1 c1 a2 c2 a3 c3 a4 c4 a5 c5 a6 c6 1048576 _ hbig (by omega) (by omega) (HA0.below (below_new _ _))).mono ?_
  rintro e w1 ⟨hb, r, rfl, hr⟩
  have hB : Below w.heap.size w w1 := below_then (below_new _ _) hb
  rcases hr with rfl | ⟨hr0, hr1⟩
  · go_wp2_with fail
    go_ret
    exact ⟨rfl, hB⟩
  have HS : SmSt t := smallSt (by omega)
  have BA := (BoxS.new w (.int .i64 t.nx) (.slice a0 t.pn c0) (.slice a1 t.d.n c1) (.slice a2 t.d.m c2) (.slice a3 t.g.n1 c3) (.slice a4 t.g.n2 c4) (.slice a5 t.hn c5) (.slice a6 t.on c6) 33).below hb
  have HA := HA0.below hB
  have sw1 : Hid (w.heap.size < w1.heap.size) := by have hq := hb.size; simp at hq; show w.heap.size < w1.heap.size; omega
  have hneg : ¬ (r < 0) := by omega
  clear hb hr0 hr1 hbig
  have TA := BA
  obtain ⟨qA0, qA1, qA2, qA3, qA4, qA5, qA6, qA7⟩ := TA
  go_wp2_with fail
  refine (toStore_any t a0 c0 a1 c1 a2 c2 a3 c3 a4 c4 a5 c5 a6 c6 _ HS HA).mono ?_
  rintro e w2 ⟨b10, b11, b12, b13, b14, b15, b16, rfl, hb, ho⟩
  clear qA0 qA1 qA2 qA3 qA4 qA5 qA6 qA7
  replace hB := below_then hB hb
  replace BA := BA.below hb
  replace HA := HA.below hb
  have sw2 : Hid (w1.heap.size ≤ w2.heap.size) := by have hq := hb.size; show w1.heap.size ≤ w2.heap.size; omega
  have OT := ho.wide (Nat.le_refl _) (Nat.le_refl _) (Nat.le_refl _)
  clear ho
  clear hb
  go_wp2_with fail
  refine (HP.out HS hby hdy _ _ _ _ _ _ _ _ OT.at).mono ?_
  rintro e w3 ⟨rfl, hb⟩
  replace hB := below_then hB hb
  replace BA := BA.below hb
  replace OT := OT.below hb
  replace HA := HA.below hb
  have sw3 : Hid (w2.heap.size ≤ w3.heap.size) := by have hq := hb.size; show w2.heap.size ≤ w3.heap.size; omega
  clear hb
  clear OT
  have TA := BA
  obtain ⟨qA0, qA1, qA2, qA3, qA4, qA5, qA6, qA7⟩ := TA
  have rA0 := fun o : Obj => cell_alloc qA0 o
  have rA1 := fun o : Obj => cell_alloc qA1 o
  have rA2 := fun o : Obj => cell_alloc qA2 o
  have rA3 := fun o : Obj => cell_alloc qA3 o
  have rA4 := fun o : Obj => cell_alloc qA4 o
  have rA5 := fun o : Obj => cell_alloc qA5 o
  have rA6 := fun o : Obj => cell_alloc qA6 o
  have rA7 := fun o : Obj => cell_alloc qA7 o
  go_wp2_with fail
  refine (toStore_any t a0 c0 a1 c1 a2 c2 a3 c3 a4 c4 a5 c5 a6 c6 _ HS (HA.below (below_new _ _))).mono ?_
  rintro e w4 ⟨bx0, bx1, bx2, bx3, bx4, bx5, bx6, rfl, hb, ho⟩
  clear qA0 qA1 qA2 qA3 qA4 qA5 qA6 qA7 rA0 rA1 rA2 rA3 rA4 rA5 rA6 rA7
  replace hB := below_then hB (below_then (below_new _ _) hb)
  replace BA := (BA.alloc _).below hb
  have BW := (Box2.new w3 (.int .i64 c) (.int .i64 v) 55).below hb
  replace HA := (HA.below (below_new _ _)).below hb
  have sw4 : Hid (w3.heap.size < w4.heap.size) := by have hq := hb.size; simp at hq; show w3.heap.size < w4.heap.size; omega
  have OX := ho.wide (Nat.le_refl _) (Nat.le_refl _) (Nat.le_refl _)
  clear ho
  clear hb
  go_wp2_with fail
  refine (HQ.out HS hby hdy _ _ _ _ _ _ _ _ (OX.at.below (below_new _ _))).mono ?_
  rintro e w5 ⟨rfl, hb⟩
  replace hB := below_then hB (below_then (below_new _ _) hb)
  replace BA := (BA.alloc _).below hb
  replace BW := (BW.alloc _).below hb
  have BX := (BoxS.new w4 (.int .i64 t.nx) (.slice (some ⟨bx0, 0, none⟩) t.pn t.pn) (.slice (some ⟨bx1, 0, none⟩) t.d.n t.d.n) (.slice (some ⟨bx2, 0, none⟩) t.d.m t.d.m) (.slice (some ⟨bx3, 0, none⟩) t.g.n1 t.g.n1) (.slice (some ⟨bx4, 0, none⟩) t.g.n2 t.g.n2) (.slice (some ⟨bx5, 0, none⟩) t.hn t.hn) (.slice (some ⟨bx6, 0, none⟩) t.on t.on) 42).below hb
  replace OX := (OX.below (below_new _ _)).below hb
  replace HA := (HA.below (below_new _ _)).below hb
  have sw5 : Hid (w4.heap.size < w5.heap.size) := by have hq := hb.size; simp at hq; show w4.heap.size < w5.heap.size; omega
  clear hb
  have TW := BW
  obtain ⟨qW0, qW1⟩ := TW
  have rW0 := fun o : Obj => cell_alloc qW0 o
  have rW1 := fun o : Obj => cell_alloc qW1 o
  go_wp2_with fail
  refine (eqIntResult_same c v _).mono ?_
  rintro e w6 ⟨rfl, hb⟩
  clear qW0 qW1 rW0 rW1
  replace hB := below_then hB (below_then (below_new _ _) hb)
  replace BA := (BA.alloc _).below hb
  replace BW := (BW.alloc _).below hb
  replace BX := (BX.alloc _).below hb
  have BG := (Box2.new w5 (.int .i64 c) (.int .i64 v) 55).below hb
  replace OX := (OX.below (below_new _ _)).below hb
  replace HA := (HA.below (below_new _ _)).below hb
  have sw6 : Hid (w5.heap.size < w6.heap.size) := by have hq := hb.size; simp at hq; show w5.heap.size < w6.heap.size; omega
  clear hb
  have TX := BX
  obtain ⟨qX0, qX1, qX2, qX3, qX4, qX5, qX6, qX7⟩ := TX
  have TA := BA
  obtain ⟨qA0, qA1, qA2, qA3, qA4, qA5, qA6, qA7⟩ := TA
  go_wp2_with fail
  have hb0 : Below w6.heap.size w6 w6.drew := (Below.refl _ _).drew
  go_region_held3 (fun w' => Below w6.heap.size w6 w' ∧ w'.cell? ⟨w4.heap.size, 0, none⟩ = some (.int .i64 t.nx) ∧ w'.cell? ⟨w4.heap.size, 1, none⟩ = some (.slice (some ⟨bx0, 0, none⟩) t.pn t.pn) ∧ w'.cell? ⟨w4.heap.size, 2, none⟩ = some (.slice (some ⟨bx1, 0, none⟩) t.d.n t.d.n) ∧ w'.cell? ⟨w4.heap.size, 3, none⟩ = some (.slice (some ⟨bx2, 0, none⟩) t.d.m t.d.m) ∧ w'.cell? ⟨w4.heap.size, 4, none⟩ = some (.slice (some ⟨bx3, 0, none⟩) t.g.n1 t.g.n1) ∧ w'.cell? ⟨w4.heap.size, 5, none⟩ = some (.slice (some ⟨bx4, 0, none⟩) t.g.n2 t.g.n2) ∧ w'.cell? ⟨w4.heap.size, 6, none⟩ = some (.slice (some ⟨bx5, 0, none⟩) t.hn t.hn) ∧ w'.cell? ⟨w4.heap.size, 7, none⟩ = some (.slice (some ⟨bx6, 0, none⟩) t.on t.on) ∧ w'.cell? ⟨w.heap.size, 0, none⟩ = some (.int .i64 t.nx) ∧ w'.cell? ⟨w.heap.size, 1, none⟩ = some (.slice a0 t.pn c0) ∧ w'.cell? ⟨w.heap.size, 2, none⟩ = some (.slice a1 t.d.n c1) ∧ w'.cell? ⟨w.heap.size, 3, none⟩ = some (.slice a2 t.d.m c2) ∧ w'.cell? ⟨w.heap.size, 4, none⟩ = some (.slice a3 t.g.n1 c3) ∧ w'.cell? ⟨w.heap.size, 5, none⟩ = some (.slice a4 t.g.n2 c4) ∧ w'.cell? ⟨w.heap.size, 6, none⟩ = some (.slice a5 t.hn c5) ∧ w'.cell? ⟨w.heap.size, 7, none⟩ = some (.slice a6 t.on c6)) (go_keep)
    (first | (go_at_call 11; refine (toStore_any t a0 c0 a1 c1 a2 c2 a3 c3 a4 c4 a5 c5 a6 c6 _ HS (HA.below (by simp [*]))).mono ?_; rintro e wq ⟨bq0, bq1, bq2, bq3, bq4, bq5, bq6, rfl, hbq, hoq⟩; have hU := below_then (w := w6) (by simp [*]) hbq; have hU0 := cell_below (B := w4.heap.size) (o := 0) (v := .int .i64 t.nx) (by simp [*]) hbq; have hU1 := cell_below (B := w4.heap.size) (o := 1) (v := .slice (some ⟨bx0, 0, none⟩) t.pn t.pn) (by simp [*]) hbq; have hU2 := cell_below (B := w4.heap.size) (o := 2) (v := .slice (some ⟨bx1, 0, none⟩) t.d.n t.d.n) (by simp [*]) hbq; have hU3 := cell_below (B := w4.heap.size) (o := 3) (v := .slice (some ⟨bx2, 0, none⟩) t.d.m t.d.m) (by simp [*]) hbq; have hU4 := cell_below (B := w4.heap.size) (o := 4) (v := .slice (some ⟨bx3, 0, none⟩) t.g.n1 t.g.n1) (by simp [*]) hbq; have hU5 := cell_below (B := w4.heap.size) (o := 5) (v := .slice (some ⟨bx4, 0, none⟩) t.g.n2 t.g.n2) (by simp [*]) hbq; have hU6 := cell_below (B := w4.heap.size) (o := 6) (v := .slice (some ⟨bx5, 0, none⟩) t.hn t.hn) (by simp [*]) hbq; have hU7 := cell_below (B := w4.heap.size) (o := 7) (v := .slice (some ⟨bx6, 0, none⟩) t.on t.on) (by simp [*]) hbq; have hU8 := cell_below (B := w.heap.size) (o := 0) (v := .int .i64 t.nx) (by simp [*]) hbq; have hU9 := cell_below (B := w.heap.size) (o := 1) (v := .slice a0 t.pn c0) (by simp [*]) hbq; have hU10 := cell_below (B := w.heap.size) (o := 2) (v := .slice a1 t.d.n c1) (by simp [*]) hbq; have hU11 := cell_below (B := w.heap.size) (o := 3) (v := .slice a2 t.d.m c2) (by simp [*]) hbq; have hU12 := cell_below (B := w.heap.size) (o := 4) (v := .slice a3 t.g.n1 c3) (by simp [*]) hbq; have hU13 := cell_below (B := w.heap.size) (o := 5) (v := .slice a4 t.g.n2 c4) (by simp [*]) hbq; have hU14 := cell_below (B := w.heap.size) (o := 6) (v := .slice a5 t.hn c5) (by simp [*]) hbq; have hU15 := cell_below (B := w.heap.size) (o := 7) (v := .slice a6 t.on c6) (by simp [*]) hbq) | (go_at_call 14; refine (eqStore_same t _ t.pn _ t.d.n _ t.d.m _ t.g.n1 _ t.g.n2 _ t.hn _ t.on _ t.pn _ t.d.n _ t.d.m _ t.g.n1 _ t.g.n2 _ t.hn _ t.on _ HS (OX.at.below (by simp [*])) hoq.at).mono ?_; rintro e w7 ⟨rfl, hbz⟩; have hS := below_then (w := w6) (by simp [*]) hbz; have hS0 := cell_below (B := w4.heap.size) (o := 0) (v := .int .i64 t.nx) (by simp [*]) hbz; have hS1 := cell_below (B := w4.heap.size) (o := 1) (v := .slice (some ⟨bx0, 0, none⟩) t.pn t.pn) (by simp [*]) hbz; have hS2 := cell_below (B := w4.heap.size) (o := 2) (v := .slice (some ⟨bx1, 0, none⟩) t.d.n t.d.n) (by simp [*]) hbz; have hS3 := cell_below (B := w4.heap.size) (o := 3) (v := .slice (some ⟨bx2, 0, none⟩) t.d.m t.d.m) (by simp [*]) hbz; have hS4 := cell_below (B := w4.heap.size) (o := 4) (v := .slice (some ⟨bx3, 0, none⟩) t.g.n1 t.g.n1) (by simp [*]) hbz; have hS5 := cell_below (B := w4.heap.size) (o := 5) (v := .slice (some ⟨bx4, 0, none⟩) t.g.n2 t.g.n2) (by simp [*]) hbz; have hS6 := cell_below (B := w4.heap.size) (o := 6) (v := .slice (some ⟨bx5, 0, none⟩) t.hn t.hn) (by simp [*]) hbz; have hS7 := cell_below (B := w4.heap.size) (o := 7) (v := .slice (some ⟨bx6, 0, none⟩) t.on t.on) (by simp [*]) hbz; have hS8 := cell_below (B := w.heap.size) (o := 0) (v := .int .i64 t.nx) (by simp [*]) hbz; have hS9 := cell_below (B := w.heap.size) (o := 1) (v := .slice a0 t.pn c0) (by simp [*]) hbz; have hS10 := cell_below (B := w.heap.size) (o := 2) (v := .slice a1 t.d.n c1) (by simp [*]) hbz; have hS11 := cell_below (B := w.heap.size) (o := 3) (v := .slice a2 t.d.m c2) (by simp [*]) hbz; have hS12 := cell_below (B := w.heap.size) (o := 4) (v := .slice a3 t.g.n1 c3) (by simp [*]) hbz; have hS13 := cell_below (B := w.heap.size) (o := 5) (v := .slice a4 t.g.n2 c4) (by simp [*]) hbz; have hS14 := cell_below (B := w.heap.size) (o := 6) (v := .slice a5 t.hn c5) (by simp [*]) hbz; have hS15 := cell_below (B := w.heap.size) (o := 7) (v := .slice a6 t.on c6) (by simp [*]) hbz))
  go_wp2
  go_ret
  exact ⟨rfl, below_then hB hS⟩
theorem getStoreLaw (t : Sto) (a0 : Option Addr) (c0 : Nat) (a1 : Option Addr) (c1 : Nat) (a2 : Option Addr) (c2 : Nat) (a3 : Option Addr) (c3 : Nat) (a4 : Option Addr) (c4 : Nat) (a5 : Option Addr) (c5 : Nat) (a6 : Option Addr) (c6 : Nat) (key : Int) (w : World) (hbig : BigSt t) (hby : LogByt t.g) (hdy : DiskByt t.d) (HA0 : InSt w a0 a1 a2 a3 a4 a5 a6 t) :
    Calls Tryz.prog 5 #[.agg #[.int .i64 t.nx, .slice a0 t.pn c0, .slice a1 t.d.n c1, .slice a2 t.d.m c2, .slice a3 t.g.n1 c3, .slice a4 t.g.n2 c4, .slice a5 t.hn c5, .slice a6 t.on c6], .int .i64 key] w fun e w' => e = .returned (.bool true) ∧ Below w.heap.size w w' :=
  getStoreLaw_small t a0 c0 a1 c1 a2 c2 a3 c3 a4 c4 a5 c5 a6 c6 key w hbig hby hdy HA0 (gsC t key) (gsV t key) (fun hs hy _ a0 a1 a2 a3 a4 a5 a6 w h => specGs_any t a0 t.pn a1 t.d.n a2 t.d.m a3 t.g.n1 a4 t.g.n2 a5 t.hn a6 t.on key w hs hy h) (fun hs hy _ a0 a1 a2 a3 a4 a5 a6 w h => implGs_any t a0 t.pn a1 t.d.n a2 t.d.m a3 t.g.n1 a4 t.g.n2 a5 t.hn a6 t.on key w hs hy h)
end Go.Proofs.YtfmpmhppjikadaaGreat
