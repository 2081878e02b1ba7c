/- FnExactRecsOf: the walk of the law. -/
import Derived.Test.YtdanabecpmhjhaaLh
import Derived.Test.YtdanabecpmhjhaaLi
namespace Go.Proofs.Ytdanabecpmhjhaa
open Go.RowKit Go.Deep
set_option linter.unusedVariables false
set_option maxRecDepth 20000

set_option maxHeartbeats 8000000 in
theorem recsOfLaw_small (L : Lo) (a1 a2 : Option Addr) (c1 c2 : Nat) (w : World) (hn1 : L.n1 ≤ 9223372036854775807) (hn2 : L.n2 ≤ 9223372036854775807) (HA0 : LogAt w a1 a2 L) (c u : Int) (N : Nat) (R : Nat → Rc) (hN : N ≤ 1048576)
    (HP : Hid (L.n1 ≤ 1048576 → L.n2 ≤ 1048576 → ∀ (a1 a2 : Option Addr) (w : World), LogAt w a1 a2 L → Calls Try.prog 35 #[.agg #[.slice a1 L.n1 L.n1, .slice a2 L.n2 L.n2]] w fun e w' => ∃ a cap, e = .returned (.agg #[.int .i64 c, .int .i64 u, .slice a N cap]) ∧ Below w.heap.size w w' ∧ Own8 w' w.heap.size w'.heap.size a N R))
    (HQ : Hid (L.n1 ≤ 1048576 → L.n2 ≤ 1048576 → ∀ (a1 a2 : Option Addr) (w : World), LogAt w a1 a2 L → Calls Try.prog 36 #[.agg #[.slice a1 L.n1 L.n1, .slice a2 L.n2 L.n2]] w fun e w' => ∃ a cap, e = .returned (.agg #[.int .i64 c, .int .i64 u, .slice a N cap]) ∧ Below w.heap.size w w' ∧ Own8 w' w.heap.size w'.heap.size a N R)) :
    Calls Try.prog 8 #[.agg #[.slice a1 L.n1 c1, .slice a2 L.n2 c2]] w fun e w' => e = .returned (.bool true) ∧ Below w.heap.size w w' := by
  go_enter Try.func8, Try.ntmps8
  go_wp2_with fail
  refine (szLog_any L a1 a2 c1 c2 _ hn1 hn2).mono ?_
  rintro e w1 ⟨hb, r, rfl, hr⟩
  have hB : Below w.heap.size w w1 := below_then (below_new _ _) hb
  rcases hr with rfl | ⟨hr0, hr1⟩
  · go_wp2_with fail
    go_ret
    exact ⟨rfl, hB⟩
  have hs1 : L.n1 ≤ 1048576 := by omega
  have hs2 : L.n2 ≤ 1048576 := by omega
  have HS : Hid (L.n1 ≤ 1048576 ∧ L.n2 ≤ 1048576) := ⟨hs1, hs2⟩
  have BA := (Box2.new w (.slice a1 L.n1 c1) (.slice a2 L.n2 c2) 34).below hb
  have HA := HA0.below hB
  have sw1 : Hid (w.heap.size < w1.heap.size) := by have hq := hb.size; simp at hq; show w.heap.size < w1.heap.size; omega
  have hneg : ¬ (r < 0) := by omega
  clear hb hr0 hr1 hn1 hn2
  have hneg2 : ¬ ((1 : Int) + ((L.n1 + L.n2 : Nat) : Int) < 0) := by omega
  have hneg3 : ¬ ((1 : Int) + (N : Int) * 8 < 0) := by omega
  have TA := BA
  obtain ⟨qA0, qA1⟩ := TA
  go_wp2_with fail
  refine (toLog_any L a1 a2 c1 c2 _ HS.out.1 HS.out.2 HA).mono ?_
  rintro e w2 ⟨b1, b2, rfl, hb, ho⟩
  clear qA0 qA1
  replace hB := below_then hB hb
  replace BA := BA.below hb
  replace HA := HA.below hb
  have sw2 : Hid (w1.heap.size ≤ w2.heap.size) := by have hq := hb.size; show w1.heap.size ≤ w2.heap.size; omega
  have OT := ho.wide (Nat.le_refl _) (Nat.le_refl _) (Nat.le_refl _)
  clear ho
  clear hb
  go_wp2_with fail
  refine (HP.out HS.out.1 HS.out.2 _ _ _ OT.at).mono ?_
  rintro e w3 ⟨aw, cw, rfl, hb, OW⟩
  replace hB := below_then hB hb
  replace BA := BA.below hb
  replace OT := OT.below hb
  replace HA := HA.below hb
  have sw3 : Hid (w2.heap.size ≤ w3.heap.size) := by have hq := hb.size; show w2.heap.size ≤ w3.heap.size; omega
  clear hb
  clear OT
  have TA := BA
  obtain ⟨qA0, qA1⟩ := TA
  have rA0 := fun o : Obj => cell_alloc qA0 o
  have rA1 := fun o : Obj => cell_alloc qA1 o
  go_wp2_with fail
  refine (toLog_any L a1 a2 c1 c2 _ HS.out.1 HS.out.2 (HA.below (below_new _ _))).mono ?_
  rintro e w4 ⟨bx, bx2, rfl, hb, ho⟩
  clear qA0 qA1 rA0 rA1
  replace hB := below_then hB (below_then (below_new _ _) hb)
  replace BA := (BA.alloc _).below hb
  have BW := (Box3.new w3 (.int .i64 c) (.int .i64 u) (.slice aw N cw) 25).below hb
  replace OW := (OW.below (below_new _ _)).below hb
  replace HA := (HA.below (below_new _ _)).below hb
  have sw4 : Hid (w3.heap.size < w4.heap.size) := by have hq := hb.size; simp at hq; show w3.heap.size < w4.heap.size; omega
  have OX : OwnG w4 (w3.heap.size + 1) w4.heap.size _ _ L := ho.wide (by simp) (Nat.le_refl _) (Nat.le_refl _)
  clear ho
  clear hb
  go_wp2_with fail
  refine (HQ.out HS.out.1 HS.out.2 _ _ _ (OX.at.below (below_new _ _))).mono ?_
  rintro e w5 ⟨ag, cg, rfl, hb, ho⟩
  replace hB := below_then hB (below_then (below_new _ _) hb)
  replace BA := (BA.alloc _).below hb
  replace BW := (BW.alloc _).below hb
  have BX := (Box2.new w4 (.slice (some ⟨bx, 0, none⟩) L.n1 L.n1) (.slice (some ⟨bx2, 0, none⟩) L.n2 L.n2) 37).below hb
  replace OW := (OW.below (below_new _ _)).below hb
  replace OX := (OX.below (below_new _ _)).below hb
  replace HA := (HA.below (below_new _ _)).below hb
  have sw5 : Hid (w4.heap.size < w5.heap.size) := by have hq := hb.size; simp at hq; show w4.heap.size < w5.heap.size; omega
  have OG : Own8 w5 (w4.heap.size + 1) w5.heap.size ag N R := ho.wide (by simp) (Nat.le_refl _) (Nat.le_refl _)
  clear ho
  clear hb
  have TW := BW
  obtain ⟨qW0, qW1, qW2⟩ := TW
  have rW0 := fun o : Obj => cell_alloc qW0 o
  have rW1 := fun o : Obj => cell_alloc qW1 o
  have rW2 := fun o : Obj => cell_alloc qW2 o
  go_wp2_with fail
  refine (eqRecsResult_same c u N R ag aw cg cw _ (by omega) (OG.at.below (below_new _ _)) (OW.at.below (below_new _ _))).mono ?_
  rintro e w6 ⟨rfl, hb⟩
  clear qW0 qW1 qW2 rW0 rW1 rW2
  replace hB := below_then hB (below_then (below_new _ _) hb)
  replace BA := (BA.alloc _).below hb
  replace BW := (BW.alloc _).below hb
  replace BX := (BX.alloc _).below hb
  have BG := (Box3.new w5 (.int .i64 c) (.int .i64 u) (.slice ag N cg) 25).below hb
  replace OW := (OW.below (below_new _ _)).below hb
  replace OX := (OX.below (below_new _ _)).below hb
  replace OG := (OG.below (below_new _ _)).below hb
  replace HA := (HA.below (below_new _ _)).below hb
  have sw6 : Hid (w5.heap.size < w6.heap.size) := by have hq := hb.size; simp at hq; show w5.heap.size < w6.heap.size; omega
  clear hb
  have TX := BX
  obtain ⟨qX0, qX1⟩ := TX
  have TA := BA
  obtain ⟨qA0, qA1⟩ := TA
  go_wp2_with fail
  have hb0 : Below w6.heap.size w6 w6.drew := (Below.refl _ _).drew
  go_region_held3 (fun w' => Below w6.heap.size w6 w' ∧ w'.cell? ⟨w4.heap.size, 0, none⟩ = some (.slice (some ⟨bx, 0, none⟩) L.n1 L.n1) ∧ w'.cell? ⟨w4.heap.size, 1, none⟩ = some (.slice (some ⟨bx2, 0, none⟩) L.n2 L.n2) ∧ w'.cell? ⟨w.heap.size, 0, none⟩ = some (.slice a1 L.n1 c1) ∧ w'.cell? ⟨w.heap.size, 1, none⟩ = some (.slice a2 L.n2 c2)) (go_keep)
    (first | (go_at_call 21; refine (toLog_any L a1 a2 c1 c2 _ HS.out.1 HS.out.2 (HA.below (by simp [*]))).mono ?_; rintro e wq ⟨bq, bq2, rfl, hbq, hoq⟩; have hU := below_then (w := w6) (by simp [*]) hbq; have hU0 := cell_below (B := w4.heap.size) (o := 0) (v := .slice (some ⟨bx, 0, none⟩) L.n1 L.n1) (by simp [*]) hbq; have hU1 := cell_below (B := w4.heap.size) (o := 1) (v := .slice (some ⟨bx2, 0, none⟩) L.n2 L.n2) (by simp [*]) hbq; have hU2 := cell_below (B := w.heap.size) (o := 0) (v := .slice a1 L.n1 c1) (by simp [*]) hbq; have hU3 := cell_below (B := w.heap.size) (o := 1) (v := .slice a2 L.n2 c2) (by simp [*]) hbq) | (go_at_call 23; refine (eqLog_same L _ _ _ _ L.n1 L.n2 L.n1 L.n2 _ HS.out.1 HS.out.2 (OX.at.below (by simp [*])) hoq.at).mono ?_; rintro e w7 ⟨rfl, hbz⟩; have hS := below_then (w := w6) (by simp [*]) hbz; have hS0 := cell_below (B := w4.heap.size) (o := 0) (v := .slice (some ⟨bx, 0, none⟩) L.n1 L.n1) (by simp [*]) hbz; have hS1 := cell_below (B := w4.heap.size) (o := 1) (v := .slice (some ⟨bx2, 0, none⟩) L.n2 L.n2) (by simp [*]) hbz; have hS2 := cell_below (B := w.heap.size) (o := 0) (v := .slice a1 L.n1 c1) (by simp [*]) hbz; have hS3 := cell_below (B := w.heap.size) (o := 1) (v := .slice a2 L.n2 c2) (by simp [*]) hbz))
  clear qX0 qX1 qA0 qA1
  clear hb0 hU hU0 hU1 hU2 hU3 hS0 hS1 hS2 hS3 hbq hoq hbz
  replace hB := below_then hB hS
  replace BA := BA.below hS
  replace BW := BW.below hS
  replace BX := BX.below hS
  replace BG := BG.below hS
  replace OW := OW.below hS
  replace OX := OX.below hS
  replace OG := OG.below hS
  replace HA := HA.below hS
  have sw7 : Hid (w6.heap.size ≤ w7.heap.size) := by have hq := hS.size; show w6.heap.size ≤ w7.heap.size; omega
  clear hS
  have TX := BX
  obtain ⟨qX0, qX1⟩ := TX
  go_wp2_with fail
  refine (markLog_any L _ _ L.n1 L.n2 (w3.heap.size + 1) w4.heap.size 1 _ HS.out.1 HS.out.2 (by omega) (by omega) OX).mono ?_
  rintro e w8 ⟨rfl, hw, hox⟩
  clear qX0 qX1
  replace hB := Writes.below hB hw (by have t0 := sw1.out; have t1 := sw2.out; have t2 := sw3.out; have t3 := sw4.out; have t4 := sw5.out; have t5 := sw6.out; have t6 := sw7.out; omega)
  replace BA := BA.writes hw (by have t0 := sw1.out; have t1 := sw2.out; have t2 := sw3.out; have t3 := sw4.out; have t4 := sw5.out; have t5 := sw6.out; have t6 := sw7.out; omega)
  replace BW := BW.writes hw (by have t0 := sw1.out; have t1 := sw2.out; have t2 := sw3.out; have t3 := sw4.out; have t4 := sw5.out; have t5 := sw6.out; have t6 := sw7.out; omega)
  replace BX := BX.writes hw (by have t0 := sw1.out; have t1 := sw2.out; have t2 := sw3.out; have t3 := sw4.out; have t4 := sw5.out; have t5 := sw6.out; have t6 := sw7.out; omega)
  replace BG := BG.writes hw (by have t0 := sw1.out; have t1 := sw2.out; have t2 := sw3.out; have t3 := sw4.out; have t4 := sw5.out; have t5 := sw6.out; have t6 := sw7.out; omega)
  replace OW := OW.writes hw (by have t0 := sw1.out; have t1 := sw2.out; have t2 := sw3.out; have t3 := sw4.out; have t4 := sw5.out; have t5 := sw6.out; have t6 := sw7.out; omega)
  replace OG := OG.writes hw (by have t0 := sw1.out; have t1 := sw2.out; have t2 := sw3.out; have t3 := sw4.out; have t4 := sw5.out; have t5 := sw6.out; have t6 := sw7.out; omega)
  replace HA := HA0.below hB
  have sw8 : Hid (w7.heap.size ≤ w8.heap.size) := by have hq := hw.size; show w7.heap.size ≤ w8.heap.size; omega
  clear hw
  clear hox OX
  have TG := BG
  obtain ⟨qG0, qG1, qG2⟩ := TG
  have TW := BW
  obtain ⟨qW0, qW1, qW2⟩ := TW
  go_wp2_with fail
  refine (eqRecsResult_same c u N R ag aw cg cw _ (by omega) OG.at OW.at).mono ?_
  rintro e w9 ⟨rfl, hb⟩
  clear qG0 qG1 qG2 qW0 qW1 qW2
  replace hB := below_then hB hb
  replace BA := BA.below hb
  replace BW := BW.below hb
  replace BX := BX.below hb
  replace BG := BG.below hb
  replace OW := OW.below hb
  replace OG := OG.below hb
  replace HA := HA.below hb
  have sw9 : Hid (w8.heap.size ≤ w9.heap.size) := by have hq := hb.size; show w8.heap.size ≤ w9.heap.size; omega
  clear hb
  have TG := BG
  obtain ⟨qG0, qG1, qG2⟩ := TG
  go_wp2_with fail
  refine (markRecsResult_any c u N R _ cg (w4.heap.size + 1) w5.heap.size _ (by omega) OG).mono ?_
  rintro e w10 ⟨rfl, hw, hog⟩
  clear qG0 qG1 qG2
  replace hB := Writes.below hB hw (by have t0 := sw1.out; have t1 := sw2.out; have t2 := sw3.out; have t3 := sw4.out; have t4 := sw5.out; have t5 := sw6.out; have t6 := sw7.out; have t7 := sw8.out; have t8 := sw9.out; omega)
  replace BA := BA.writes hw (by have t0 := sw1.out; have t1 := sw2.out; have t2 := sw3.out; have t3 := sw4.out; have t4 := sw5.out; have t5 := sw6.out; have t6 := sw7.out; have t7 := sw8.out; have t8 := sw9.out; omega)
  replace BW := BW.writes hw (by have t0 := sw1.out; have t1 := sw2.out; have t2 := sw3.out; have t3 := sw4.out; have t4 := sw5.out; have t5 := sw6.out; have t6 := sw7.out; have t7 := sw8.out; have t8 := sw9.out; omega)
  replace BX := BX.writes hw (by have t0 := sw1.out; have t1 := sw2.out; have t2 := sw3.out; have t3 := sw4.out; have t4 := sw5.out; have t5 := sw6.out; have t6 := sw7.out; have t7 := sw8.out; have t8 := sw9.out; omega)
  replace BG := BG.writes hw (by have t0 := sw1.out; have t1 := sw2.out; have t2 := sw3.out; have t3 := sw4.out; have t4 := sw5.out; have t5 := sw6.out; have t6 := sw7.out; have t7 := sw8.out; have t8 := sw9.out; omega)
  replace OW := OW.writes hw (by have t0 := sw1.out; have t1 := sw2.out; have t2 := sw3.out; have t3 := sw4.out; have t4 := sw5.out; have t5 := sw6.out; have t6 := sw7.out; have t7 := sw8.out; have t8 := sw9.out; omega)
  replace HA := HA0.below hB
  have sw10 : Hid (w9.heap.size ≤ w10.heap.size) := by have hq := hw.size; show w9.heap.size ≤ w10.heap.size; omega
  clear hw
  clear OG
  have OG := hog
  clear hog
  have TG := BG
  obtain ⟨qG0, qG1, qG2⟩ := TG
  go_wp2_with fail
  refine (heldRecsResult_any c u N _ cg _ (by omega) OG.at).mono ?_
  rintro e w11 ⟨rfl, hb⟩
  clear qG0 qG1 qG2
  replace hB := below_then hB hb
  replace BA := BA.below hb
  replace BW := BW.below hb
  replace BX := BX.below hb
  replace BG := BG.below hb
  replace OW := OW.below hb
  replace OG := OG.below hb
  replace HA := HA.below hb
  have sw11 : Hid (w10.heap.size ≤ w11.heap.size) := by have hq := hb.size; show w10.heap.size ≤ w11.heap.size; omega
  clear hb
  have TA := BA
  obtain ⟨qA0, qA1⟩ := TA
  go_wp2_with fail
  refine (toLog_any L a1 a2 c1 c2 _ HS.out.1 HS.out.2 HA).mono ?_
  rintro e w12 ⟨bv, bv2, rfl, hb, ho⟩
  clear qA0 qA1
  replace hB := below_then hB hb
  replace BA := BA.below hb
  replace BW := BW.below hb
  replace BX := BX.below hb
  replace BG := BG.below hb
  replace OW := OW.below hb
  replace OG := OG.below hb
  replace HA := HA.below hb
  have sw12 : Hid (w11.heap.size ≤ w12.heap.size) := by have hq := hb.size; show w11.heap.size ≤ w12.heap.size; omega
  have OT := ho.wide (Nat.le_refl _) (Nat.le_refl _) (Nat.le_refl _)
  clear ho
  clear hb
  go_wp2_with fail
  refine (HQ.out HS.out.1 HS.out.2 _ _ _ OT.at).mono ?_
  rintro e w13 ⟨ah, ch, rfl, hb, OH⟩
  replace hB := below_then hB hb
  replace BA := BA.below hb
  replace BW := BW.below hb
  replace BX := BX.below hb
  replace BG := BG.below hb
  replace OW := OW.below hb
  replace OG := OG.below hb
  replace OT := OT.below hb
  replace HA := HA.below hb
  have sw13 : Hid (w12.heap.size ≤ w13.heap.size) := by have hq := hb.size; show w12.heap.size ≤ w13.heap.size; omega
  clear hb
  clear OT
  have TW := BW
  obtain ⟨qW0, qW1, qW2⟩ := TW
  have rW0 := fun o : Obj => cell_alloc qW0 o
  have rW1 := fun o : Obj => cell_alloc qW1 o
  have rW2 := fun o : Obj => cell_alloc qW2 o
  go_wp2_with fail
  refine (eqRecsResult_same c u N R ah aw ch cw _ (by omega) (OH.at.below (below_new _ _)) (OW.at.below (below_new _ _))).mono ?_
  rintro e w14 ⟨rfl, hb⟩
  clear qW0 qW1 qW2 rW0 rW1 rW2
  replace hB := below_then hB (below_then (below_new _ _) hb)
  replace BA := (BA.alloc _).below hb
  replace BW := (BW.alloc _).below hb
  replace BX := (BX.alloc _).below hb
  replace BG := (BG.alloc _).below hb
  have BH := (Box3.new w13 (.int .i64 c) (.int .i64 u) (.slice ah N ch) 25).below hb
  replace OW := (OW.below (below_new _ _)).below hb
  replace OG := (OG.below (below_new _ _)).below hb
  replace OH := (OH.below (below_new _ _)).below hb
  replace HA := (HA.below (below_new _ _)).below hb
  have sw14 : Hid (w13.heap.size < w14.heap.size) := by have hq := hb.size; simp at hq; show w13.heap.size < w14.heap.size; omega
  clear hb
  have TG := BG
  obtain ⟨qG0, qG1, qG2⟩ := TG
  go_wp2_with fail
  refine (heldRecsResult_any c u N _ cg _ (by omega) OG.at).mono ?_
  rintro e w15 ⟨rfl, hb⟩
  clear qG0 qG1 qG2
  replace hB := below_then hB hb
  replace BA := BA.below hb
  replace BW := BW.below hb
  replace BX := BX.below hb
  replace BG := BG.below hb
  replace BH := BH.below hb
  replace OW := OW.below hb
  replace OG := OG.below hb
  replace OH := OH.below hb
  replace HA := HA.below hb
  have sw15 : Hid (w14.heap.size ≤ w15.heap.size) := by have hq := hb.size; show w14.heap.size ≤ w15.heap.size; omega
  clear hb
  go_wp2_with fail
  go_ret
  exact ⟨rfl, hB⟩
theorem RlR.open {L : Lo} {w w' : World} {e : Ending} (h : RlR L w e w') : ∃ a cap, e = .returned (.agg #[.int .i64 (lgC L), .int .i64 (13 * ((if lgC L = 0 then cnt (aZ L) (L.n1 + L.n2) else 0 : Nat) : Int)), .slice a (if lgC L = 0 then cnt (aZ L) (L.n1 + L.n2) else 0) cap]) ∧ Below w.heap.size w w' ∧ Own8 w' w.heap.size w'.heap.size a (if lgC L = 0 then cnt (aZ L) (L.n1 + L.n2) else 0) (zRs (aZ L)) := by
  obtain ⟨a, cap, u, m, rfl, HE, hb, ho⟩ := h
  obtain ⟨rfl, rfl⟩ := HE.out
  exact ⟨a, cap, rfl, hb, ho⟩
theorem recsOfLaw (L : Lo) (a1 a2 : Option Addr) (c1 c2 : Nat) (w : World) (hn1 : L.n1 ≤ 9223372036854775807) (hn2 : L.n2 ≤ 9223372036854775807) (hby : LogByt L) (HA0 : LogAt w a1 a2 L) :
    Calls Try.prog 8 #[.agg #[.slice a1 L.n1 c1, .slice a2 L.n2 c2]] w fun e w' => e = .returned (.bool true) ∧ Below w.heap.size w w' := by
  refine recsOfLaw_small L a1 a2 c1 c2 w hn1 hn2 HA0 (lgC L) _ (if lgC L = 0 then cnt (aZ L) (L.n1 + L.n2) else 0) (zRs (aZ L)) ?_ (fun h1 h2 a1 a2 w h => Calls.mono (specRo_any L a1 a2 L.n1 L.n2 w h1 h2 hby h) (fun e w' h => h.open)) (fun h1 h2 a1 a2 w h => Calls.mono (implRo_any L a1 a2 L.n1 L.n2 w h1 h2 hby h) (fun e w' h => h.open))
  have hc := cnt_le (aZ L) (L.n1 + L.n2)
  by_cases h : lgC L = 0
  · rw [if_pos h]
    have hle : L.n1 + L.n2 ≤ 4000 := by
      rcases Nat.lt_or_ge 4000 (L.n1 + L.n2) with h' | h'
      · rw [lgC_many h'] at h; omega
      · exact h'
    omega
  · rw [if_neg h]; omega
end Go.Proofs.Ytdanabecpmhjhaa
