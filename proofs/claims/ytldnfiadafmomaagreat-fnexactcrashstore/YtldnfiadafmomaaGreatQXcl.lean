/- FnExactCrashStore: the walk of the law. -/
import Derived.Test.YtldnfiadafmomaaGreatQXcb
import Derived.Test.YtldnfiadafmomaaGreatQZbx
import Derived.Test.YtldnfiadafmomaaGreatQXco
import Derived.Test.YtldnfiadafmomaaGreatQZgb
namespace Go.Proofs.YtldnfiadafmomaaGreat
open Go.ChangeShapes Go.WideShapes Go.ChangeAt Go.RowKit Go.Deep Go.Joins
set_option linter.unusedVariables false
set_option maxRecDepth 20000

theorem ints_rw {w : World} {b n : Nat} {z : Nat → Int} (h : w.rowIs b 2 n (fun i => .int .i64 (z i))) : IntsAt w (some ⟨b, 0, none⟩) n z := .inr ⟨b, 0, rfl, h.lt, fun i hi => by rw [Nat.zero_add]; exact h.cell hi⟩
theorem ownI_nw {w w0 : World} {n : Nat} {z : Nat → Int} {o : Obj} (h : w.rowIs (w0.alloc o).heap.size 2 n (fun i => .int .i64 (z i))) : OwnI w (w0.heap.size + 1) w.heap.size (some ⟨w0.heap.size + 1, 0, none⟩) n z := by
  rw [World.size_alloc] at h
  exact ⟨Nat.le_refl _, .inr ⟨_, 0, rfl, Nat.le_refl _, h.lt, fun i hi => by rw [Nat.zero_add]; exact h.cell hi, fun i hi => h.frozen _⟩⟩
theorem totS_few {t : Sto} (hs0 : SmSt t) : totS t ≤ 33554432 := by
  have h1 := sPg_le hs0
  have h2 := tot_le hs0.2.1
  have h3 := hs0.2.2.1
  have h4 := hs0.2.2.2
  unfold totS
  omega
set_option maxHeartbeats 16000000 in
theorem crashStoreLaw_small (t : Sto) (a0 : Option Addr) (c0 : Nat) (a1 : Option Addr) (c1 : Nat) (a2 : Option Addr) (c2 : Nat) (a3 : Option Addr) (c3 : Nat) (a4 : Option Addr) (c4 : Nat) (a5 : Option Addr) (c5 : Nat) (a6 : Option Addr) (c6 : Nat) (x : Int) (k3 : Nat) (F : Nat → Int) (a7 : Option Addr) (c7 : Nat) (w : World) (hbig : BigSt t) (hby : LogByt t.g) (hdy : DiskByt t.d) (HA0 : InSt w a0 a1 a2 a3 a4 a5 a6 t) (hk3 : k3 ≤ 1048576) (HI0 : IntsAt w a7 k3 F) (c : Int) (X : Dk) (G : Lo) (hX : Small X) (hG : G.n1 ≤ 1048576 ∧ G.n2 ≤ 1048576)
    (HP : Hid (SmSt t → LogByt t.g → DiskByt t.d → ∀ (a0 a1 a2 a3 a4 a5 a6 a7 : Option Addr) (w : World), InSt w a0 a1 a2 a3 a4 a5 a6 t → IntsAt w a7 k3 F → Calls Tryz.prog 5 #[.agg #[.int .i64 t.nx, .slice a0 t.pn t.pn, .slice a1 t.d.n t.d.n, .slice a2 t.d.m t.d.m, .slice a3 t.g.n1 t.g.n1, .slice a4 t.g.n2 t.g.n2, .slice a5 t.hn t.hn, .slice a6 t.on t.on], .int .i64 x, .slice a7 k3 k3] w (KRd c X G w)))
    (HQ : Hid (SmSt t → LogByt t.g → DiskByt t.d → ∀ (a0 a1 a2 a3 a4 a5 a6 a7 : Option Addr) (w : World), InSt w a0 a1 a2 a3 a4 a5 a6 t → IntsAt w a7 k3 F → Calls Tryz.prog 8 #[.agg #[.int .i64 t.nx, .slice a0 t.pn t.pn, .slice a1 t.d.n t.d.n, .slice a2 t.d.m t.d.m, .slice a3 t.g.n1 t.g.n1, .slice a4 t.g.n2 t.g.n2, .slice a5 t.hn t.hn, .slice a6 t.on t.on], .int .i64 x, .slice a7 k3 k3] w (KRes c X G w))) :
    Calls Tryz.prog 3 #[.agg #[.int .i64 t.nx, .slice a0 t.pn c0, .slice a1 t.d.n c1, .slice a2 t.d.m c2, .slice a3 t.g.n1 c3, .slice a4 t.g.n2 c4, .slice a5 t.hn c5, .slice a6 t.on c6], .int .i64 x, .slice a7 k3 c7] w fun e w' => e = .returned (.bool true) ∧ Below w.heap.size w w' := by
  have hkI : ¬ (1048576 < (k3 : Int)) := by omega
  go_enter Tryz.func3, Tryz.ntmps3
  go_wp2_with fail
  refine (szStore_any t a0 c0 a1 c1 a2 c2 a3 c3 a4 c4 a5 c5 a6 c6 1048576 _ hbig (by omega) (by omega) (HA0.below (below_new _ _))).mono ?_
  rintro e w1 ⟨hb, r, rfl, hr⟩
  have hB : Below w.heap.size w w1 := below_then (below_new _ _) hb
  rcases hr with rfl | ⟨hr0, hr1⟩
  · go_wp2_with fail
    go_ret
    exact ⟨rfl, hB⟩
  have HS : SmSt t := smallSt (by omega)
  have BA := (BoxS.new w (.int .i64 t.nx) (.slice a0 t.pn c0) (.slice a1 t.d.n c1) (.slice a2 t.d.m c2) (.slice a3 t.g.n1 c3) (.slice a4 t.g.n2 c4) (.slice a5 t.hn c5) (.slice a6 t.on c6) 33).below hb
  have HA := HA0.below hB
  have sw1 : Hid (w.heap.size < w1.heap.size) := by have hq := hb.size; simp at hq; show w.heap.size < w1.heap.size; omega
  have hneg : ¬ (r < 0) := by omega
  clear hb hr0 hr1 hbig
  have HI := HI0.below hB
  have hneg2 : ¬ ((1 : Int) + (totS t : Int) + (k3 : Int) < 0) := by omega
  have hneg3 : ¬ ((1 : Int) + (totK X G : Int) < 0) := by omega
  have HTS : Hid (totS t ≤ 33554432) := totS_few HS
  have TA := BA
  obtain ⟨qA0, qA1, qA2, qA3, qA4, qA5, qA6, qA7⟩ := TA
  go_wp2_with fail
  refine (toStore_any t a0 c0 a1 c1 a2 c2 a3 c3 a4 c4 a5 c5 a6 c6 _ HS HA).mono ?_
  rintro e w2 ⟨b10, b11, b12, b13, b14, b15, b16, rfl, hb, ho⟩
  clear qA0 qA1 qA2 qA3 qA4 qA5 qA6 qA7
  replace hB := below_then hB hb
  replace BA := BA.below hb
  replace HA := HA.below hb
  replace HI := HI.below hb
  have sw2 : Hid (w1.heap.size ≤ w2.heap.size) := by have hq := hb.size; show w1.heap.size ≤ w2.heap.size; omega
  have OT := ho.wide (Nat.le_refl _) (Nat.le_refl _) (Nat.le_refl _)
  clear ho
  clear hb
  go_wp2_with fail
  refine (toInt64S_any k3 F a7 c7 _ (by omega) HI).mono ?_
  rintro e w3 ⟨rfl, hb, ho⟩
  replace hB := below_then hB hb
  replace BA := BA.below hb
  replace OT := OT.below hb
  replace HA := HA.below hb
  replace HI := HI.below hb
  have sw3 : Hid (w2.heap.size ≤ w3.heap.size) := by have hq := hb.size; show w2.heap.size ≤ w3.heap.size; omega
  clear hb
  go_wp2_with fail
  refine (HP.out HS hby hdy _ _ _ _ _ _ _ _ _ OT.at (ints_rw ho)).mono ?_
  rintro e w4 ⟨wa0, wa1, wa2, wa3, wak0, wak1, wak2, wak3, rfl, hb, OW⟩
  replace hB := below_then hB hb
  replace BA := BA.below hb
  replace OT := OT.below hb
  replace HA := HA.below hb
  replace HI := HI.below hb
  have sw4 : Hid (w3.heap.size ≤ w4.heap.size) := by have hq := hb.size; show w3.heap.size ≤ w4.heap.size; omega
  clear hb
  clear ho OT
  have TA := BA
  obtain ⟨qA0, qA1, qA2, qA3, qA4, qA5, qA6, qA7⟩ := TA
  have rA0 := fun o : Obj => cell_alloc qA0 o
  have rA1 := fun o : Obj => cell_alloc qA1 o
  have rA2 := fun o : Obj => cell_alloc qA2 o
  have rA3 := fun o : Obj => cell_alloc qA3 o
  have rA4 := fun o : Obj => cell_alloc qA4 o
  have rA5 := fun o : Obj => cell_alloc qA5 o
  have rA6 := fun o : Obj => cell_alloc qA6 o
  have rA7 := fun o : Obj => cell_alloc qA7 o
  go_wp2_with fail
  refine (toStore_any t a0 c0 a1 c1 a2 c2 a3 c3 a4 c4 a5 c5 a6 c6 _ HS (HA.below (below_new _ _))).mono ?_
  rintro e w5 ⟨bx0, bx1, bx2, bx3, bx4, bx5, bx6, rfl, hb, ho⟩
  clear qA0 qA1 qA2 qA3 qA4 qA5 qA6 qA7 rA0 rA1 rA2 rA3 rA4 rA5 rA6 rA7
  replace hB := below_then hB (below_then (below_new _ _) hb)
  replace BA := (BA.alloc _).below hb
  have BW := (Box5.new w4 (.int .i64 c) (.slice wa0 X.n wak0) (.slice wa1 X.m wak1) (.slice wa2 G.n1 wak2) (.slice wa3 G.n2 wak3) 40).below hb
  replace OW := (OW.below (below_new _ _)).below hb
  replace HA := (HA.below (below_new _ _)).below hb
  replace HI := (HI.below (below_new _ _)).below hb
  have sw5 : Hid (w4.heap.size < w5.heap.size) := by have hq := hb.size; simp at hq; show w4.heap.size < w5.heap.size; omega
  have OX : OwnS w5 (w4.heap.size + 1) w5.heap.size (some ⟨bx0, 0, none⟩) (some ⟨bx1, 0, none⟩) (some ⟨bx2, 0, none⟩) (some ⟨bx3, 0, none⟩) (some ⟨bx4, 0, none⟩) (some ⟨bx5, 0, none⟩) (some ⟨bx6, 0, none⟩) t := (ho.wide (by simp) (Nat.le_refl _) (Nat.le_refl _)).toS
  clear ho
  clear hb
  go_wp2_with fail
  refine (toInt64S_any k3 F a7 c7 _ (by omega) (HI.below (below_new _ _))).mono ?_
  rintro e w6 ⟨rfl, hb, ho⟩
  replace hB := below_then hB (below_then (below_new _ _) hb)
  replace BA := (BA.alloc _).below hb
  replace BW := (BW.alloc _).below hb
  have BX := (BoxS.new w5 (.int .i64 t.nx) (.slice (some ⟨bx0, 0, none⟩) t.pn t.pn) (.slice (some ⟨bx1, 0, none⟩) t.d.n t.d.n) (.slice (some ⟨bx2, 0, none⟩) t.d.m t.d.m) (.slice (some ⟨bx3, 0, none⟩) t.g.n1 t.g.n1) (.slice (some ⟨bx4, 0, none⟩) t.g.n2 t.g.n2) (.slice (some ⟨bx5, 0, none⟩) t.hn t.hn) (.slice (some ⟨bx6, 0, none⟩) t.on t.on) 45).below hb
  replace OW := (OW.below (below_new _ _)).below hb
  replace OX := (OX.below (below_new _ _)).below hb
  replace HA := (HA.below (below_new _ _)).below hb
  replace HI := (HI.below (below_new _ _)).below hb
  have sw6 : Hid (w5.heap.size < w6.heap.size) := by have hq := hb.size; simp at hq; show w5.heap.size < w6.heap.size; omega
  have OY : OwnI w6 (w5.heap.size + 1) w6.heap.size (some ⟨w5.heap.size + 1, 0, none⟩) k3 F := ownI_nw ho
  clear ho
  clear hb
  have TX := BX
  obtain ⟨qX0, qX1, qX2, qX3, qX4, qX5, qX6, qX7⟩ := TX
  go_wp2_with fail
  refine (HQ.out HS hby hdy _ _ _ _ _ _ _ _ _ OX.at OY.at).mono ?_
  rintro e w7 ⟨ga0, ga1, ga2, ga3, gak0, gak1, gak2, gak3, rfl, hb, ho⟩
  clear qX0 qX1 qX2 qX3 qX4 qX5 qX6 qX7
  replace hB := below_then hB hb
  replace BA := BA.below hb
  replace BW := BW.below hb
  replace BX := BX.below hb
  replace OW := OW.below hb
  replace OX := OX.below hb
  replace OY := OY.below hb
  replace HA := HA.below hb
  replace HI := HI.below hb
  have sw7 : Hid (w6.heap.size ≤ w7.heap.size) := by have hq := hb.size; show w6.heap.size ≤ w7.heap.size; omega
  have OG : OwnK w7 w6.heap.size w7.heap.size ga0 ga1 ga2 ga3 X G := ho
  clear ho
  clear hb
  have TW := BW
  obtain ⟨qW0, qW1, qW2, qW3, qW4⟩ := TW
  have rW0 := fun o : Obj => cell_alloc qW0 o
  have rW1 := fun o : Obj => cell_alloc qW1 o
  have rW2 := fun o : Obj => cell_alloc qW2 o
  have rW3 := fun o : Obj => cell_alloc qW3 o
  have rW4 := fun o : Obj => cell_alloc qW4 o
  go_wp2_with fail
  refine (eqCrashResult_same c X G ga0 ga1 ga2 ga3 wa0 wa1 wa2 wa3 gak0 gak1 gak2 gak3 wak0 wak1 wak2 wak3 _ hX hG (OG.below (below_new _ _)).at (OW.below (below_new _ _)).at).mono ?_
  rintro e w8 ⟨rfl, hb⟩
  clear qW0 qW1 qW2 qW3 qW4 rW0 rW1 rW2 rW3 rW4
  replace hB := below_then hB (below_then (below_new _ _) hb)
  replace BA := (BA.alloc _).below hb
  replace BW := (BW.alloc _).below hb
  replace BX := (BX.alloc _).below hb
  have BG := (Box5.new w7 (.int .i64 c) (.slice ga0 X.n gak0) (.slice ga1 X.m gak1) (.slice ga2 G.n1 gak2) (.slice ga3 G.n2 gak3) 40).below hb
  replace OW := (OW.below (below_new _ _)).below hb
  replace OX := (OX.below (below_new _ _)).below hb
  replace OY := (OY.below (below_new _ _)).below hb
  replace OG := (OG.below (below_new _ _)).below hb
  replace HA := (HA.below (below_new _ _)).below hb
  replace HI := (HI.below (below_new _ _)).below hb
  have sw8 : Hid (w7.heap.size < w8.heap.size) := by have hq := hb.size; simp at hq; show w7.heap.size < w8.heap.size; omega
  clear hb
  have TX := BX
  obtain ⟨qX0, qX1, qX2, qX3, qX4, qX5, qX6, qX7⟩ := TX
  have TA := BA
  obtain ⟨qA0, qA1, qA2, qA3, qA4, qA5, qA6, qA7⟩ := TA
  go_wp2_with fail
  have hb0 : Below w8.heap.size w8 w8.drew := (Below.refl _ _).drew
  go_region_held3 (fun w' => Below w8.heap.size w8 w' ∧ w'.cell? ⟨w5.heap.size, 0, none⟩ = some (.int .i64 t.nx) ∧ w'.cell? ⟨w5.heap.size, 1, none⟩ = some (.slice (some ⟨bx0, 0, none⟩) t.pn t.pn) ∧ w'.cell? ⟨w5.heap.size, 2, none⟩ = some (.slice (some ⟨bx1, 0, none⟩) t.d.n t.d.n) ∧ w'.cell? ⟨w5.heap.size, 3, none⟩ = some (.slice (some ⟨bx2, 0, none⟩) t.d.m t.d.m) ∧ w'.cell? ⟨w5.heap.size, 4, none⟩ = some (.slice (some ⟨bx3, 0, none⟩) t.g.n1 t.g.n1) ∧ w'.cell? ⟨w5.heap.size, 5, none⟩ = some (.slice (some ⟨bx4, 0, none⟩) t.g.n2 t.g.n2) ∧ w'.cell? ⟨w5.heap.size, 6, none⟩ = some (.slice (some ⟨bx5, 0, none⟩) t.hn t.hn) ∧ w'.cell? ⟨w5.heap.size, 7, none⟩ = some (.slice (some ⟨bx6, 0, none⟩) t.on t.on) ∧ w'.cell? ⟨w.heap.size, 0, none⟩ = some (.int .i64 t.nx) ∧ w'.cell? ⟨w.heap.size, 1, none⟩ = some (.slice a0 t.pn c0) ∧ w'.cell? ⟨w.heap.size, 2, none⟩ = some (.slice a1 t.d.n c1) ∧ w'.cell? ⟨w.heap.size, 3, none⟩ = some (.slice a2 t.d.m c2) ∧ w'.cell? ⟨w.heap.size, 4, none⟩ = some (.slice a3 t.g.n1 c3) ∧ w'.cell? ⟨w.heap.size, 5, none⟩ = some (.slice a4 t.g.n2 c4) ∧ w'.cell? ⟨w.heap.size, 6, none⟩ = some (.slice a5 t.hn c5) ∧ w'.cell? ⟨w.heap.size, 7, none⟩ = some (.slice a6 t.on c6)) (go_keep)
    (first | (go_at_call 6; refine (toStore_any t a0 c0 a1 c1 a2 c2 a3 c3 a4 c4 a5 c5 a6 c6 _ HS (HA.below (by simp [*]))).mono ?_; rintro e wq ⟨bq0, bq1, bq2, bq3, bq4, bq5, bq6, rfl, hbq, hoq⟩; have hU := below_then (w := w8) (by simp [*]) hbq; have hU0 := cell_below (B := w5.heap.size) (o := 0) (v := .int .i64 t.nx) (by simp [*]) hbq; have hU1 := cell_below (B := w5.heap.size) (o := 1) (v := .slice (some ⟨bx0, 0, none⟩) t.pn t.pn) (by simp [*]) hbq; have hU2 := cell_below (B := w5.heap.size) (o := 2) (v := .slice (some ⟨bx1, 0, none⟩) t.d.n t.d.n) (by simp [*]) hbq; have hU3 := cell_below (B := w5.heap.size) (o := 3) (v := .slice (some ⟨bx2, 0, none⟩) t.d.m t.d.m) (by simp [*]) hbq; have hU4 := cell_below (B := w5.heap.size) (o := 4) (v := .slice (some ⟨bx3, 0, none⟩) t.g.n1 t.g.n1) (by simp [*]) hbq; have hU5 := cell_below (B := w5.heap.size) (o := 5) (v := .slice (some ⟨bx4, 0, none⟩) t.g.n2 t.g.n2) (by simp [*]) hbq; have hU6 := cell_below (B := w5.heap.size) (o := 6) (v := .slice (some ⟨bx5, 0, none⟩) t.hn t.hn) (by simp [*]) hbq; have hU7 := cell_below (B := w5.heap.size) (o := 7) (v := .slice (some ⟨bx6, 0, none⟩) t.on t.on) (by simp [*]) hbq; have hU8 := cell_below (B := w.heap.size) (o := 0) (v := .int .i64 t.nx) (by simp [*]) hbq; have hU9 := cell_below (B := w.heap.size) (o := 1) (v := .slice a0 t.pn c0) (by simp [*]) hbq; have hU10 := cell_below (B := w.heap.size) (o := 2) (v := .slice a1 t.d.n c1) (by simp [*]) hbq; have hU11 := cell_below (B := w.heap.size) (o := 3) (v := .slice a2 t.d.m c2) (by simp [*]) hbq; have hU12 := cell_below (B := w.heap.size) (o := 4) (v := .slice a3 t.g.n1 c3) (by simp [*]) hbq; have hU13 := cell_below (B := w.heap.size) (o := 5) (v := .slice a4 t.g.n2 c4) (by simp [*]) hbq; have hU14 := cell_below (B := w.heap.size) (o := 6) (v := .slice a5 t.hn c5) (by simp [*]) hbq; have hU15 := cell_below (B := w.heap.size) (o := 7) (v := .slice a6 t.on c6) (by simp [*]) hbq) | (go_at_call 10; refine (eqStore_same t _ t.pn _ t.d.n _ t.d.m _ t.g.n1 _ t.g.n2 _ t.hn _ t.on _ t.pn _ t.d.n _ t.d.m _ t.g.n1 _ t.g.n2 _ t.hn _ t.on _ HS (OX.at.below (by simp [*])) hoq.at).mono ?_; rintro e w9 ⟨rfl, hbz⟩; have hS := below_then (w := w8) (by simp [*]) hbz; have hS0 := cell_below (B := w5.heap.size) (o := 0) (v := .int .i64 t.nx) (by simp [*]) hbz; have hS1 := cell_below (B := w5.heap.size) (o := 1) (v := .slice (some ⟨bx0, 0, none⟩) t.pn t.pn) (by simp [*]) hbz; have hS2 := cell_below (B := w5.heap.size) (o := 2) (v := .slice (some ⟨bx1, 0, none⟩) t.d.n t.d.n) (by simp [*]) hbz; have hS3 := cell_below (B := w5.heap.size) (o := 3) (v := .slice (some ⟨bx2, 0, none⟩) t.d.m t.d.m) (by simp [*]) hbz; have hS4 := cell_below (B := w5.heap.size) (o := 4) (v := .slice (some ⟨bx3, 0, none⟩) t.g.n1 t.g.n1) (by simp [*]) hbz; have hS5 := cell_below (B := w5.heap.size) (o := 5) (v := .slice (some ⟨bx4, 0, none⟩) t.g.n2 t.g.n2) (by simp [*]) hbz; have hS6 := cell_below (B := w5.heap.size) (o := 6) (v := .slice (some ⟨bx5, 0, none⟩) t.hn t.hn) (by simp [*]) hbz; have hS7 := cell_below (B := w5.heap.size) (o := 7) (v := .slice (some ⟨bx6, 0, none⟩) t.on t.on) (by simp [*]) hbz; have hS8 := cell_below (B := w.heap.size) (o := 0) (v := .int .i64 t.nx) (by simp [*]) hbz; have hS9 := cell_below (B := w.heap.size) (o := 1) (v := .slice a0 t.pn c0) (by simp [*]) hbz; have hS10 := cell_below (B := w.heap.size) (o := 2) (v := .slice a1 t.d.n c1) (by simp [*]) hbz; have hS11 := cell_below (B := w.heap.size) (o := 3) (v := .slice a2 t.d.m c2) (by simp [*]) hbz; have hS12 := cell_below (B := w.heap.size) (o := 4) (v := .slice a3 t.g.n1 c3) (by simp [*]) hbz; have hS13 := cell_below (B := w.heap.size) (o := 5) (v := .slice a4 t.g.n2 c4) (by simp [*]) hbz; have hS14 := cell_below (B := w.heap.size) (o := 6) (v := .slice a5 t.hn c5) (by simp [*]) hbz; have hS15 := cell_below (B := w.heap.size) (o := 7) (v := .slice a6 t.on c6) (by simp [*]) hbz))
  clear qX0 qX1 qX2 qX3 qX4 qX5 qX6 qX7 qA0 qA1 qA2 qA3 qA4 qA5 qA6 qA7
  clear hb0 hU hU0 hU1 hU2 hU3 hU4 hU5 hU6 hU7 hU8 hU9 hU10 hU11 hU12 hU13 hU14 hU15 hS0 hS1 hS2 hS3 hS4 hS5 hS6 hS7 hS8 hS9 hS10 hS11 hS12 hS13 hS14 hS15 hbq hoq hbz
  replace hB := below_then hB hS
  replace BA := BA.below hS
  replace BW := BW.below hS
  replace BX := BX.below hS
  replace BG := BG.below hS
  replace OW := OW.below hS
  replace OX := OX.below hS
  replace OY := OY.below hS
  replace OG := OG.below hS
  replace HA := HA.below hS
  replace HI := HI.below hS
  have sw9 : Hid (w8.heap.size ≤ w9.heap.size) := by have hq := hS.size; show w8.heap.size ≤ w9.heap.size; omega
  clear hS
  go_wp2_with fail
  refine (toInt64S_any k3 F a7 c7 _ (by omega) HI).mono ?_
  rintro e w10 ⟨rfl, hb, ho⟩
  replace hB := below_then hB hb
  replace BA := BA.below hb
  replace BW := BW.below hb
  replace BX := BX.below hb
  replace BG := BG.below hb
  replace OW := OW.below hb
  replace OX := OX.below hb
  replace OY := OY.below hb
  replace OG := OG.below hb
  replace HA := HA.below hb
  replace HI := HI.below hb
  have sw10 : Hid (w9.heap.size ≤ w10.heap.size) := by have hq := hb.size; show w9.heap.size ≤ w10.heap.size; omega
  clear hb
  go_wp2_with fail
  refine (eqInt64S_any k3 F _ _ k3 k3 _ (by omega) OY.at (ints_rw ho)).mono ?_
  rintro e w11 ⟨rfl, hb⟩
  replace hB := below_then hB hb
  replace BA := BA.below hb
  replace BW := BW.below hb
  replace BX := BX.below hb
  replace BG := BG.below hb
  replace OW := OW.below hb
  replace OX := OX.below hb
  replace OY := OY.below hb
  replace OG := OG.below hb
  replace HA := HA.below hb
  replace HI := HI.below hb
  have sw11 : Hid (w10.heap.size ≤ w11.heap.size) := by have hq := hb.size; show w10.heap.size ≤ w11.heap.size; omega
  clear hb
  clear ho
  have TX := BX
  obtain ⟨qX0, qX1, qX2, qX3, qX4, qX5, qX6, qX7⟩ := TX
  go_wp2_with fail
  refine (markStore_b t (some ⟨bx0, 0, none⟩) t.pn (some ⟨bx1, 0, none⟩) t.d.n (some ⟨bx2, 0, none⟩) t.d.m (some ⟨bx3, 0, none⟩) t.g.n1 (some ⟨bx4, 0, none⟩) t.g.n2 (some ⟨bx5, 0, none⟩) t.hn (some ⟨bx6, 0, none⟩) t.on (w4.heap.size + 1) w5.heap.size _ HS OX).mono ?_
  rintro e w12 ⟨rfl, hw, hox⟩
  clear qX0 qX1 qX2 qX3 qX4 qX5 qX6 qX7
  replace hB := Writes.below hB hw (by have t0 := sw1.out; have t1 := sw2.out; have t2 := sw3.out; have t3 := sw4.out; have t4 := sw5.out; have t5 := sw6.out; have t6 := sw7.out; have t7 := sw8.out; have t8 := sw9.out; have t9 := sw10.out; have t10 := sw11.out; omega)
  replace BA := BA.writes hw (by have t0 := sw1.out; have t1 := sw2.out; have t2 := sw3.out; have t3 := sw4.out; have t4 := sw5.out; have t5 := sw6.out; have t6 := sw7.out; have t7 := sw8.out; have t8 := sw9.out; have t9 := sw10.out; have t10 := sw11.out; omega)
  replace BW := BW.writes hw (by have t0 := sw1.out; have t1 := sw2.out; have t2 := sw3.out; have t3 := sw4.out; have t4 := sw5.out; have t5 := sw6.out; have t6 := sw7.out; have t7 := sw8.out; have t8 := sw9.out; have t9 := sw10.out; have t10 := sw11.out; omega)
  replace BX := BX.writes hw (by have t0 := sw1.out; have t1 := sw2.out; have t2 := sw3.out; have t3 := sw4.out; have t4 := sw5.out; have t5 := sw6.out; have t6 := sw7.out; have t7 := sw8.out; have t8 := sw9.out; have t9 := sw10.out; have t10 := sw11.out; omega)
  replace BG := BG.writes hw (by have t0 := sw1.out; have t1 := sw2.out; have t2 := sw3.out; have t3 := sw4.out; have t4 := sw5.out; have t5 := sw6.out; have t6 := sw7.out; have t7 := sw8.out; have t8 := sw9.out; have t9 := sw10.out; have t10 := sw11.out; omega)
  replace OW := OW.writes hw (by have t0 := sw1.out; have t1 := sw2.out; have t2 := sw3.out; have t3 := sw4.out; have t4 := sw5.out; have t5 := sw6.out; have t6 := sw7.out; have t7 := sw8.out; have t8 := sw9.out; have t9 := sw10.out; have t10 := sw11.out; omega)
  replace OY := OY.writes hw (by have t0 := sw1.out; have t1 := sw2.out; have t2 := sw3.out; have t3 := sw4.out; have t4 := sw5.out; have t5 := sw6.out; have t6 := sw7.out; have t7 := sw8.out; have t8 := sw9.out; have t9 := sw10.out; have t10 := sw11.out; omega)
  replace OG := OG.writes hw (by have t0 := sw1.out; have t1 := sw2.out; have t2 := sw3.out; have t3 := sw4.out; have t4 := sw5.out; have t5 := sw6.out; have t6 := sw7.out; have t7 := sw8.out; have t8 := sw9.out; have t9 := sw10.out; have t10 := sw11.out; omega)
  replace HA := HA0.below hB
  replace HI := HI0.below hB
  have sw12 : Hid (w11.heap.size ≤ w12.heap.size) := by have hq := hw.size; show w11.heap.size ≤ w12.heap.size; omega
  clear hw
  clear hox OX
  go_wp2_with fail
  refine (markInt64S_any k3 F _ k3 (w5.heap.size + 1) w6.heap.size (1 + totS t) _ (by omega) (by omega) (by have := HTS.out; omega) OY).mono ?_
  rintro e w13 ⟨rfl, hw, hoy⟩
  replace hB := Writes.below hB hw (by have t0 := sw1.out; have t1 := sw2.out; have t2 := sw3.out; have t3 := sw4.out; have t4 := sw5.out; have t5 := sw6.out; have t6 := sw7.out; have t7 := sw8.out; have t8 := sw9.out; have t9 := sw10.out; have t10 := sw11.out; have t11 := sw12.out; omega)
  replace BA := BA.writes hw (by have t0 := sw1.out; have t1 := sw2.out; have t2 := sw3.out; have t3 := sw4.out; have t4 := sw5.out; have t5 := sw6.out; have t6 := sw7.out; have t7 := sw8.out; have t8 := sw9.out; have t9 := sw10.out; have t10 := sw11.out; have t11 := sw12.out; omega)
  replace BW := BW.writes hw (by have t0 := sw1.out; have t1 := sw2.out; have t2 := sw3.out; have t3 := sw4.out; have t4 := sw5.out; have t5 := sw6.out; have t6 := sw7.out; have t7 := sw8.out; have t8 := sw9.out; have t9 := sw10.out; have t10 := sw11.out; have t11 := sw12.out; omega)
  replace BX := BX.writes hw (by have t0 := sw1.out; have t1 := sw2.out; have t2 := sw3.out; have t3 := sw4.out; have t4 := sw5.out; have t5 := sw6.out; have t6 := sw7.out; have t7 := sw8.out; have t8 := sw9.out; have t9 := sw10.out; have t10 := sw11.out; have t11 := sw12.out; omega)
  replace BG := BG.writes hw (by have t0 := sw1.out; have t1 := sw2.out; have t2 := sw3.out; have t3 := sw4.out; have t4 := sw5.out; have t5 := sw6.out; have t6 := sw7.out; have t7 := sw8.out; have t8 := sw9.out; have t9 := sw10.out; have t10 := sw11.out; have t11 := sw12.out; omega)
  replace OW := OW.writes hw (by have t0 := sw1.out; have t1 := sw2.out; have t2 := sw3.out; have t3 := sw4.out; have t4 := sw5.out; have t5 := sw6.out; have t6 := sw7.out; have t7 := sw8.out; have t8 := sw9.out; have t9 := sw10.out; have t10 := sw11.out; have t11 := sw12.out; omega)
  replace OG := OG.writes hw (by have t0 := sw1.out; have t1 := sw2.out; have t2 := sw3.out; have t3 := sw4.out; have t4 := sw5.out; have t5 := sw6.out; have t6 := sw7.out; have t7 := sw8.out; have t8 := sw9.out; have t9 := sw10.out; have t10 := sw11.out; have t11 := sw12.out; omega)
  replace HA := HA0.below hB
  replace HI := HI0.below hB
  have sw13 : Hid (w12.heap.size ≤ w13.heap.size) := by have hq := hw.size; show w12.heap.size ≤ w13.heap.size; omega
  clear hw
  clear hoy OY
  have TG := BG
  obtain ⟨qG0, qG1, qG2, qG3, qG4⟩ := TG
  have TW := BW
  obtain ⟨qW0, qW1, qW2, qW3, qW4⟩ := TW
  go_wp2_with fail
  refine (eqCrashResult_same c X G ga0 ga1 ga2 ga3 wa0 wa1 wa2 wa3 gak0 gak1 gak2 gak3 wak0 wak1 wak2 wak3 _ hX hG OG.at OW.at).mono ?_
  rintro e w14 ⟨rfl, hb⟩
  clear qG0 qG1 qG2 qG3 qG4 qW0 qW1 qW2 qW3 qW4
  replace hB := below_then hB hb
  replace BA := BA.below hb
  replace BW := BW.below hb
  replace BX := BX.below hb
  replace BG := BG.below hb
  replace OW := OW.below hb
  replace OG := OG.below hb
  replace HA := HA.below hb
  replace HI := HI.below hb
  have sw14 : Hid (w13.heap.size ≤ w14.heap.size) := by have hq := hb.size; show w13.heap.size ≤ w14.heap.size; omega
  clear hb
  have TG := BG
  obtain ⟨qG0, qG1, qG2, qG3, qG4⟩ := TG
  go_wp2_with fail
  refine (markCrashResult_any c X G ga0 ga1 ga2 ga3 gak0 gak1 gak2 gak3 w6.heap.size w7.heap.size _ hX hG OG).mono ?_
  rintro e w15 ⟨rfl, hw, hog⟩
  clear qG0 qG1 qG2 qG3 qG4
  replace hB := Writes.below hB hw (by have t0 := sw1.out; have t1 := sw2.out; have t2 := sw3.out; have t3 := sw4.out; have t4 := sw5.out; have t5 := sw6.out; have t6 := sw7.out; have t7 := sw8.out; have t8 := sw9.out; have t9 := sw10.out; have t10 := sw11.out; have t11 := sw12.out; have t12 := sw13.out; have t13 := sw14.out; omega)
  replace BA := BA.writes hw (by have t0 := sw1.out; have t1 := sw2.out; have t2 := sw3.out; have t3 := sw4.out; have t4 := sw5.out; have t5 := sw6.out; have t6 := sw7.out; have t7 := sw8.out; have t8 := sw9.out; have t9 := sw10.out; have t10 := sw11.out; have t11 := sw12.out; have t12 := sw13.out; have t13 := sw14.out; omega)
  replace BW := BW.writes hw (by have t0 := sw1.out; have t1 := sw2.out; have t2 := sw3.out; have t3 := sw4.out; have t4 := sw5.out; have t5 := sw6.out; have t6 := sw7.out; have t7 := sw8.out; have t8 := sw9.out; have t9 := sw10.out; have t10 := sw11.out; have t11 := sw12.out; have t12 := sw13.out; have t13 := sw14.out; omega)
  replace BX := BX.writes hw (by have t0 := sw1.out; have t1 := sw2.out; have t2 := sw3.out; have t3 := sw4.out; have t4 := sw5.out; have t5 := sw6.out; have t6 := sw7.out; have t7 := sw8.out; have t8 := sw9.out; have t9 := sw10.out; have t10 := sw11.out; have t11 := sw12.out; have t12 := sw13.out; have t13 := sw14.out; omega)
  replace BG := BG.writes hw (by have t0 := sw1.out; have t1 := sw2.out; have t2 := sw3.out; have t3 := sw4.out; have t4 := sw5.out; have t5 := sw6.out; have t6 := sw7.out; have t7 := sw8.out; have t8 := sw9.out; have t9 := sw10.out; have t10 := sw11.out; have t11 := sw12.out; have t12 := sw13.out; have t13 := sw14.out; omega)
  replace OW := OW.writes hw (by have t0 := sw1.out; have t1 := sw2.out; have t2 := sw3.out; have t3 := sw4.out; have t4 := sw5.out; have t5 := sw6.out; have t6 := sw7.out; have t7 := sw8.out; have t8 := sw9.out; have t9 := sw10.out; have t10 := sw11.out; have t11 := sw12.out; have t12 := sw13.out; have t13 := sw14.out; omega)
  replace HA := HA0.below hB
  replace HI := HI0.below hB
  have sw15 : Hid (w14.heap.size ≤ w15.heap.size) := by have hq := hw.size; show w14.heap.size ≤ w15.heap.size; omega
  clear hw
  clear OG
  have OG := hog
  clear hog
  have TG := BG
  obtain ⟨qG0, qG1, qG2, qG3, qG4⟩ := TG
  go_wp2_with fail
  refine (heldCrashResult_any c X G ga0 ga1 ga2 ga3 gak0 gak1 gak2 gak3 _ hX hG OG.at).mono ?_
  rintro e w16 ⟨rfl, hb⟩
  clear qG0 qG1 qG2 qG3 qG4
  replace hB := below_then hB hb
  replace BA := BA.below hb
  replace BW := BW.below hb
  replace BX := BX.below hb
  replace BG := BG.below hb
  replace OW := OW.below hb
  replace OG := OG.below hb
  replace HA := HA.below hb
  replace HI := HI.below hb
  have sw16 : Hid (w15.heap.size ≤ w16.heap.size) := by have hq := hb.size; show w15.heap.size ≤ w16.heap.size; omega
  clear hb
  have TA := BA
  obtain ⟨qA0, qA1, qA2, qA3, qA4, qA5, qA6, qA7⟩ := TA
  go_wp2_with fail
  refine (toStore_any t a0 c0 a1 c1 a2 c2 a3 c3 a4 c4 a5 c5 a6 c6 _ HS HA).mono ?_
  rintro e w17 ⟨bv0, bv1, bv2, bv3, bv4, bv5, bv6, rfl, hb, ho⟩
  clear qA0 qA1 qA2 qA3 qA4 qA5 qA6 qA7
  replace hB := below_then hB hb
  replace BA := BA.below hb
  replace BW := BW.below hb
  replace BX := BX.below hb
  replace BG := BG.below hb
  replace OW := OW.below hb
  replace OG := OG.below hb
  replace HA := HA.below hb
  replace HI := HI.below hb
  have sw17 : Hid (w16.heap.size ≤ w17.heap.size) := by have hq := hb.size; show w16.heap.size ≤ w17.heap.size; omega
  have OT := ho.wide (Nat.le_refl _) (Nat.le_refl _) (Nat.le_refl _)
  clear ho
  clear hb
  go_wp2_with fail
  refine (toInt64S_any k3 F a7 c7 _ (by omega) HI).mono ?_
  rintro e w18 ⟨rfl, hb, ho⟩
  replace hB := below_then hB hb
  replace BA := BA.below hb
  replace BW := BW.below hb
  replace BX := BX.below hb
  replace BG := BG.below hb
  replace OW := OW.below hb
  replace OG := OG.below hb
  replace OT := OT.below hb
  replace HA := HA.below hb
  replace HI := HI.below hb
  have sw18 : Hid (w17.heap.size ≤ w18.heap.size) := by have hq := hb.size; show w17.heap.size ≤ w18.heap.size; omega
  clear hb
  go_wp2_with fail
  refine (HQ.out HS hby hdy _ _ _ _ _ _ _ _ _ OT.at (ints_rw ho)).mono ?_
  rintro e w19 ⟨ha0, ha1, ha2, ha3, hak0, hak1, hak2, hak3, rfl, hb, OH⟩
  replace hB := below_then hB hb
  replace BA := BA.below hb
  replace BW := BW.below hb
  replace BX := BX.below hb
  replace BG := BG.below hb
  replace OW := OW.below hb
  replace OG := OG.below hb
  replace OT := OT.below hb
  replace HA := HA.below hb
  replace HI := HI.below hb
  have sw19 : Hid (w18.heap.size ≤ w19.heap.size) := by have hq := hb.size; show w18.heap.size ≤ w19.heap.size; omega
  clear hb
  clear ho OT
  have TW := BW
  obtain ⟨qW0, qW1, qW2, qW3, qW4⟩ := TW
  have rW0 := fun o : Obj => cell_alloc qW0 o
  have rW1 := fun o : Obj => cell_alloc qW1 o
  have rW2 := fun o : Obj => cell_alloc qW2 o
  have rW3 := fun o : Obj => cell_alloc qW3 o
  have rW4 := fun o : Obj => cell_alloc qW4 o
  go_wp2_with fail
  refine (eqCrashResult_same c X G ha0 ha1 ha2 ha3 wa0 wa1 wa2 wa3 hak0 hak1 hak2 hak3 wak0 wak1 wak2 wak3 _ hX hG (OH.below (below_new _ _)).at (OW.below (below_new _ _)).at).mono ?_
  rintro e w20 ⟨rfl, hb⟩
  clear qW0 qW1 qW2 qW3 qW4 rW0 rW1 rW2 rW3 rW4
  replace hB := below_then hB (below_then (below_new _ _) hb)
  replace BA := (BA.alloc _).below hb
  replace BW := (BW.alloc _).below hb
  replace BX := (BX.alloc _).below hb
  replace BG := (BG.alloc _).below hb
  have BH := (Box5.new w19 (.int .i64 c) (.slice ha0 X.n hak0) (.slice ha1 X.m hak1) (.slice ha2 G.n1 hak2) (.slice ha3 G.n2 hak3) 40).below hb
  replace OW := (OW.below (below_new _ _)).below hb
  replace OG := (OG.below (below_new _ _)).below hb
  replace OH := (OH.below (below_new _ _)).below hb
  replace HA := (HA.below (below_new _ _)).below hb
  replace HI := (HI.below (below_new _ _)).below hb
  have sw20 : Hid (w19.heap.size < w20.heap.size) := by have hq := hb.size; simp at hq; show w19.heap.size < w20.heap.size; omega
  clear hb
  have TG := BG
  obtain ⟨qG0, qG1, qG2, qG3, qG4⟩ := TG
  go_wp2_with fail
  refine (heldCrashResult_any c X G ga0 ga1 ga2 ga3 gak0 gak1 gak2 gak3 _ hX hG OG.at).mono ?_
  rintro e w21 ⟨rfl, hb⟩
  clear qG0 qG1 qG2 qG3 qG4
  replace hB := below_then hB hb
  replace BA := BA.below hb
  replace BW := BW.below hb
  replace BX := BX.below hb
  replace BG := BG.below hb
  replace BH := BH.below hb
  replace OW := OW.below hb
  replace OG := OG.below hb
  replace OH := OH.below hb
  replace HA := HA.below hb
  replace HI := HI.below hb
  have sw21 : Hid (w20.heap.size ≤ w21.heap.size) := by have hq := hb.size; show w20.heap.size ≤ w21.heap.size; omega
  clear hb
  go_wp2_with fail
  go_ret
  exact ⟨rfl, hB⟩
theorem cs_small (t : Sto) (x : Int) (k : Nat) (F : Nat → Int) : Small (csD t x k F) ∧ (csG t x k F).n1 ≤ 1048576 ∧ (csG t x k F).n2 ≤ 1048576 := by
  by_cases c : csC t x k F = 0
  · obtain ⟨_, e2, e3⟩ := cs_ok c
    rw [e2, e3]
    unfold csC at c
    by_cases h0 : stF t = 0
    · have hG := stF_good h0
      rw [if_pos h0] at c
      by_cases h1 : clC t.g x = 0
      · refine ⟨small_sy (goodD_of hG.df) F k, ?_⟩
        unfold clL
        rw [if_pos h1]
        have hq := clM_le t.g x.toNat
        have hl := (lgC_zero hG.lg).1
        refine ⟨?_, Nat.zero_le _⟩
        show 13 * clM t.g x.toNat ≤ 1048576
        unfold clC at h1
        rw [if_pos hG.lg] at h1
        by_cases hx : inB x 0 (t.g.n2 : Int) = true
        · have := inB_iff.1 hx
          omega
        · rw [if_neg hx] at h1; omega
      · rw [if_neg h1] at c; exact absurd c h1
    · rw [if_neg h0] at c; exact absurd c h0
  · obtain ⟨_, e2, e3⟩ := cs_bad rfl c
    rw [e2, e3]
    exact ⟨small_E0, Nat.zero_le _, Nat.zero_le _⟩
theorem crashStoreLaw (t : Sto) (a0 : Option Addr) (c0 : Nat) (a1 : Option Addr) (c1 : Nat) (a2 : Option Addr) (c2 : Nat) (a3 : Option Addr) (c3 : Nat) (a4 : Option Addr) (c4 : Nat) (a5 : Option Addr) (c5 : Nat) (a6 : Option Addr) (c6 : Nat) (x : Int) (k3 : Nat) (F : Nat → Int) (a7 : Option Addr) (c7 : Nat) (w : World) (hbig : BigSt t) (hby : LogByt t.g) (hdy : DiskByt t.d) (HA0 : InSt w a0 a1 a2 a3 a4 a5 a6 t) (hk3 : k3 ≤ 9223372036854775807) (HI0 : IntsAt w a7 k3 F) :
    Calls Tryz.prog 3 #[.agg #[.int .i64 t.nx, .slice a0 t.pn c0, .slice a1 t.d.n c1, .slice a2 t.d.m c2, .slice a3 t.g.n1 c3, .slice a4 t.g.n2 c4, .slice a5 t.hn c5, .slice a6 t.on c6], .int .i64 x, .slice a7 k3 c7] w fun e w' => e = .returned (.bool true) ∧ Below w.heap.size w w' := by
  by_cases hb : k3 ≤ 1048576
  · exact crashStoreLaw_small t a0 c0 a1 c1 a2 c2 a3 c3 a4 c4 a5 c5 a6 c6 x k3 F a7 c7 w hbig hby hdy HA0 hb HI0 (csC t x k3 F) (csD t x k3 F) (csG t x k3 F) (cs_small t x k3 F).1 (cs_small t x k3 F).2
      (fun hs hy _ a0 a1 a2 a3 a4 a5 a6 a7 w h h3 => specCs_any t a0 t.pn a1 t.d.n a2 t.d.m a3 t.g.n1 a4 t.g.n2 a5 t.hn a6 t.on x k3 F a7 k3 w hs hy hb (Nat.le_refl _) h h3) (fun hs hy _ a0 a1 a2 a3 a4 a5 a6 a7 w h h3 => implCs_any t a0 t.pn a1 t.d.n a2 t.d.m a3 t.g.n1 a4 t.g.n2 a5 t.hn a6 t.on x k3 F a7 k3 w hs hy hb (Nat.le_refl _) h h3)
  · have hkI : 1048576 < (k3 : Int) := by omega
    go_enter Tryz.func3, Tryz.ntmps3
    go_wp2_with fail
    go_ret
    exact ⟨rfl, below_new _ _⟩
end Go.Proofs.YtldnfiadafmomaaGreat
