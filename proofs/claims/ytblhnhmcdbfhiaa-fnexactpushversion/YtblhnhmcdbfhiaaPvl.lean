/- FnExactPushVersion: the walk of the law. -/
import Derived.Test.YtblhnhmcdbfhiaaVv
import Derived.Deep.DeepCutAuto
namespace Go.Proofs.Ytblhnhmcdbfhiaa
open Go.RowKit Go.Deep
set_option linter.unusedVariables false
set_option maxRecDepth 20000

theorem own4_box2 {ws : World} {lo hi B m : Nat} {a : Option Addr} {S : Nat → Vr} (OS : Own4 ws lo hi a m S) (hB : B < lo) (x y : Value) : Own4 ((ws.setCell ⟨B, 0, none⟩ x).setCell ⟨B, 1, none⟩ y) lo hi a m S :=
  OS.writes (Writes.setCell (Writes.setCell (Writes.refl B (B + 1) _) (p := ⟨B, 0, none⟩) (Nat.le_refl _) (Nat.lt_succ_self _) _) (p := ⟨B, 1, none⟩) (Nat.le_refl _) (Nat.lt_succ_self _) _) (.inr hB)
set_option maxHeartbeats 8000000 in
theorem pushVersionLaw_small (n : Nat) (R : Nat → Vr) (a : Option Addr) (cap : Nat) (x o : Int) (g : Bool) (u : Int) (w : World) (hn : n ≤ 1048576) (HA0 : VersAt w a n R) (c : Int) (m : Nat) (S : Nat → Vr) (hm : m ≤ 1048576)
    (HP : Hid (∀ (a : Option Addr) (w : World), VersAt w a n R → Calls Try.prog 12 #[.slice a n n, .agg #[.int .i64 x, .int .i64 o], .bool g, .int .i64 u] w (CRes c m S w)))
    (HQ : Hid (∀ (a : Option Addr) (w : World), VersAt w a n R → Calls Try.prog 15 #[.slice a n n, .agg #[.int .i64 x, .int .i64 o], .bool g, .int .i64 u] w (CRes c m S w))) :
    Calls Try.prog 3 #[.slice a n cap, .agg #[.int .i64 x, .int .i64 o], .bool g, .int .i64 u] w fun e w' => e = .returned (.bool true) ∧ Below w.heap.size w w' := by
  have hneg : ¬ ((1048576 : Int) - (n : Int) < 0) := by omega
  have hneg2 : ¬ ((1 : Int) + (n : Int) * 4 < 0) := by omega
  have hneg3 : ¬ ((1 : Int) + (m : Int) * 4 < 0) := by omega
  go_enter Try.func3, Try.ntmps3
  go_wp2_with fail
  refine (szVersionS_any n a cap _ (by omega)).mono ?_
  rintro e w1 ⟨rfl, hw1⟩
  rw [if_pos hn]
  have BV : Box2 w1 w.heap.size (.int .i64 x) (.int .i64 o) := by rw [hw1]; exact Box2.new w _ _ 24
  have hB : Below w.heap.size w w1 := by rw [hw1]; exact below_new _ _
  have hs0 : Hid (w.heap.size < w1.heap.size) := by show w.heap.size < w1.heap.size; rw [hw1]; simp
  clear hw1
  have HA := HA0.below hB
  have BVr := BV
  have HAr := HA
  have TV := BV
  obtain ⟨q0, q1⟩ := TV
  go_upto_region 5 with fail
  go_cut [10] (fun cc wx => ∃ (B : Nat) (aw : Option Addr) (cw : Nat), cc = .pointer (some ⟨B, 0, none⟩) ∧ Hid (Box2 wx B (.int .i64 c) (.slice aw m cw)) ∧ Hid (Own4 wx w1.heap.size wx.heap.size aw m S) ∧ Hid (Below w1.heap.size w1 wx))
  case first =>
    have HX : Hid (Below w1.heap.size w1 w1) := Below.refl _ _
    have rq0 := fun ob : Obj => cell_alloc q0 ob
    have rq1 := fun ob : Obj => cell_alloc q1 ob
    go_region_law (first | (go_simp; go_at_call 13; refine (toVersionS_any n R a cap _ hn (HAr.below (by have hq1 := HX.out.size; repeat (first | exact HX.out | apply Below.drew | refine Below.alloc ?_ (by first | omega | (simp <;> omega)) _)))).mono ?_; rintro e wt ⟨bt, rfl, hb, OT⟩; have OTs := OT.at; have HY : Hid (Below wt.heap.size wt wt) := Below.refl _ _; have HX : Hid (Below w1.heap.size w1 wt) := below_then (by have hq1 := HX.out.size; repeat (first | exact HX.out | apply Below.drew | refine Below.alloc ?_ (by first | omega | (simp <;> omega)) _)) hb; have hswt : w1.heap.size ≤ wt.heap.size := HX.out.size; have BVn := BVr.below HX.out; obtain ⟨p0, p1⟩ := BVn; have rp0 := fun ob : Obj => cell_alloc p0 ob; have rp1 := fun ob : Obj => cell_alloc p1 ob; (first | (have zz : BoxR wt w1.heap.size (.int .i64 0) (.slice none 0 0) := (BoxR.new w1.drew (.int .i64 0) (.slice none 0 0) 28).below hb) | (have zz := (BoxR.new _ (.int .i64 0) (.slice none 0 0) 28).below hb) | (have zz := zz.below hb) | (have zz := (zz.below (below_new _ _)).below hb) | skip); (first | (have zy := zz; obtain ⟨z0, z1, zf⟩ := zy) | skip); clear hb) | (go_simp; go_at_call 14; refine (toView_any x o _).mono ?_; rintro e wv ⟨rfl, hb⟩; (first | (have HY : Hid (Below wt.heap.size wt wv) := below_then (by have hq1 := HY.out.size; repeat (first | exact HY.out | apply Below.drew | refine Below.alloc ?_ (by first | omega | (simp <;> omega)) _)) hb) | skip); have HX : Hid (Below w1.heap.size w1 wv) := below_then (by have hq1 := HX.out.size; repeat (first | exact HX.out | apply Below.drew | refine Below.alloc ?_ (by first | omega | (simp <;> omega)) _)) hb; have hswv : w1.heap.size ≤ wv.heap.size := HX.out.size; have BVn := BVr.below HX.out; obtain ⟨p0, p1⟩ := BVn; have rp0 := fun ob : Obj => cell_alloc p0 ob; have rp1 := fun ob : Obj => cell_alloc p1 ob; (first | (have zz : BoxR wv w1.heap.size (.int .i64 0) (.slice none 0 0) := (BoxR.new w1.drew (.int .i64 0) (.slice none 0 0) 28).below hb) | (have zz := (BoxR.new _ (.int .i64 0) (.slice none 0 0) 28).below hb) | (have zz := zz.below hb) | (have zz := (zz.below (below_new _ _)).below hb) | skip); (first | (have zy := zz; obtain ⟨z0, z1, zf⟩ := zy) | skip); clear hb) | (go_simp; go_at_call 12; (first | (have hBn := Go.block_lt_of_cell z0) | skip); refine (HP.out _ _ (OTs.below (by have hq1 := HY.out.size; repeat (first | exact HY.out | apply Below.drew | refine Below.alloc ?_ (by first | omega | (simp <;> omega)) _)))).mono ?_; rintro e ws ⟨sa, sc, rfl, hb, OS⟩; have HX : Hid (Below w1.heap.size w1 ws) := below_then (by have hq1 := HX.out.size; repeat (first | exact HX.out | apply Below.drew | refine Below.alloc ?_ (by first | omega | (simp <;> omega)) _)) hb; have hsws : w1.heap.size ≤ ws.heap.size := HX.out.size; have BVn := BVr.below HX.out; obtain ⟨p0, p1⟩ := BVn; have rp0 := fun ob : Obj => cell_alloc p0 ob; have rp1 := fun ob : Obj => cell_alloc p1 ob; (first | (have zz : BoxR ws w1.heap.size (.int .i64 0) (.slice none 0 0) := (BoxR.new w1.drew (.int .i64 0) (.slice none 0 0) 28).below hb) | (have zz := (BoxR.new _ (.int .i64 0) (.slice none 0 0) 28).below hb) | (have zz := zz.below hb) | (have zz := (zz.below (below_new _ _)).below hb) | skip); (first | (have zy := zz; obtain ⟨z0, z1, zf⟩ := zy) | skip); clear hb))
    all_goals
      go_wp2_with fail
      go_meet
      (refine ⟨_, sa, sc, rfl, by simp [Hid, Box2, go_sem, *], ?_, by repeat (first | exact HX.out | apply Below.drew | refine Below.setCell ?_ (by first | omega | (simp <;> omega)) _ | refine Below.alloc ?_ (by first | omega | (simp <;> omega)) _)⟩; show Own4 _ _ _ _ _ _; first | (with_reducible refine Own4.wide (Own4.below OS (below_new _ _)) (by first | omega | (simp <;> omega)) (by first | omega | (simp <;> omega)) (Nat.le_refl _)) | (refine Own4.wide (own4_box2 OS (by first | omega | exact hBn | (simp <;> omega) | (have hq9 := hBn; simp at hq9 ⊢; omega)) _ _) (by first | omega | (simp <;> omega)) (by first | omega | (simp <;> omega)) (Nat.le_refl _)))
  case rest =>
    obtain ⟨B, aw, cw, rfl, BW0, OW0, HBc⟩ := hcut
    replace hB := below_then hB HBc.out
    replace HA := HA.below HBc.out
    replace BV := BV.below HBc.out
    have BW := BW0.out
    have OW := OW0.out
    have swc1 : Hid (w.heap.size < wc.heap.size) := Nat.lt_of_lt_of_le hs0.out HBc.out.size
    have swc2 : Hid (B < wc.heap.size) := BW.lt
    have swc3 : Hid (w1.heap.size ≤ wc.heap.size) := HBc.out.size
    clear q0 q1 BVr HAr BW0 OW0 HBc
    go_wp2_with fail
    refine (toVersionS_any n R a cap _ hn HA).mono ?_
    rintro e w2 ⟨bx, rfl, hb, OX⟩
    replace hB := below_then hB hb
    replace BV := BV.below hb
    replace BW := BW.below hb
    replace OW := OW.below hb
    replace HA := HA.below hb
    have sw2 : Hid (wc.heap.size ≤ w2.heap.size) := by have hq := hb.size; show wc.heap.size ≤ w2.heap.size; omega
    clear hb
    have TV := BV
    obtain ⟨qV0, qV1⟩ := TV
    go_wp2_with fail
    refine (toView_any x o _).mono ?_
    rintro e w3 ⟨rfl, hb⟩
    clear qV0 qV1
    replace hB := below_then hB hb
    replace BV := BV.below hb
    replace BW := BW.below hb
    replace OW := OW.below hb
    replace OX := OX.below hb
    replace HA := HA.below hb
    have sw3 : Hid (w2.heap.size ≤ w3.heap.size) := by have hq := hb.size; show w2.heap.size ≤ w3.heap.size; omega
    clear hb
    go_wp2_with fail
    refine (HQ.out _ _ OX.at).mono ?_
    rintro e w4 ⟨ag, cg, rfl, hb, OG⟩
    replace hB := below_then hB hb
    replace BV := BV.below hb
    replace BW := BW.below hb
    replace OW := OW.below hb
    replace OX := OX.below hb
    replace HA := HA.below hb
    have sw4 : Hid (w3.heap.size ≤ w4.heap.size) := by have hq := hb.size; show w3.heap.size ≤ w4.heap.size; omega
    clear hb
    have TW := BW
    obtain ⟨qW0, qW1⟩ := TW
    have rW0 := fun o : Obj => cell_alloc qW0 o
    have rW1 := fun o : Obj => cell_alloc qW1 o
    go_wp2_with fail
    refine (eqChainResult_same c m S ag aw cg cw _ hm (OG.at.below (below_new _ _)) (OW.at.below (below_new _ _))).mono ?_
    rintro e w5 ⟨rfl, hb⟩
    clear qW0 qW1 rW0 rW1
    replace hB := below_then hB (below_then (below_new _ _) hb)
    replace BV := (BV.alloc _).below hb
    replace BW := (BW.alloc _).below hb
    have BG := (Box2.new w4 (.int .i64 c) (.slice ag m cg) 28).below hb
    replace OW := (OW.below (below_new _ _)).below hb
    replace OX := (OX.below (below_new _ _)).below hb
    replace OG := (OG.below (below_new _ _)).below hb
    replace HA := (HA.below (below_new _ _)).below hb
    have sw5 : Hid (w4.heap.size < w5.heap.size) := by have hq := hb.size; simp at hq; show w4.heap.size < w5.heap.size; omega
    clear hb
    go_wp2_with fail
    refine (toVersionS_any n R a cap _ hn HA).mono ?_
    rintro e w6 ⟨bq, rfl, hb, OQ⟩
    replace hB := below_then hB hb
    replace BV := BV.below hb
    replace BW := BW.below hb
    replace BG := BG.below hb
    replace OW := OW.below hb
    replace OX := OX.below hb
    replace OG := OG.below hb
    replace HA := HA.below hb
    have sw6 : Hid (w5.heap.size ≤ w6.heap.size) := by have hq := hb.size; show w5.heap.size ≤ w6.heap.size; omega
    clear hb
    go_wp2_with fail
    refine (eqVersionS_any n R _ _ n n _ hn OX.at OQ.at).mono ?_
    rintro e w7 ⟨rfl, hb⟩
    replace hB := below_then hB hb
    replace BV := BV.below hb
    replace BW := BW.below hb
    replace BG := BG.below hb
    replace OW := OW.below hb
    replace OX := OX.below hb
    replace OG := OG.below hb
    replace HA := HA.below hb
    have sw7 : Hid (w6.heap.size ≤ w7.heap.size) := by have hq := hb.size; show w6.heap.size ≤ w7.heap.size; omega
    clear hb
    clear OQ
    go_wp2_with fail
    refine (markVersionS_any n R _ n wc.heap.size w2.heap.size 1 _ hn (by omega) (by omega) OX).mono ?_
    rintro e w8 ⟨rfl, hw, hox⟩
    replace hB := Writes.below hB hw (by have t0 := swc1.out; have t1 := swc2.out; have t2 := swc3.out; have t3 := sw2.out; have t4 := sw3.out; have t5 := sw4.out; have t6 := sw5.out; have t7 := sw6.out; have t8 := sw7.out; omega)
    replace BV := BV.writes hw (by have t0 := swc1.out; have t1 := swc2.out; have t2 := swc3.out; have t3 := sw2.out; have t4 := sw3.out; have t5 := sw4.out; have t6 := sw5.out; have t7 := sw6.out; have t8 := sw7.out; omega)
    replace BW := BW.writes hw (by have t0 := swc1.out; have t1 := swc2.out; have t2 := swc3.out; have t3 := sw2.out; have t4 := sw3.out; have t5 := sw4.out; have t6 := sw5.out; have t7 := sw6.out; have t8 := sw7.out; omega)
    replace BG := BG.writes hw (by have t0 := swc1.out; have t1 := swc2.out; have t2 := swc3.out; have t3 := sw2.out; have t4 := sw3.out; have t5 := sw4.out; have t6 := sw5.out; have t7 := sw6.out; have t8 := sw7.out; omega)
    replace OW := OW.writes hw (by have t0 := swc1.out; have t1 := swc2.out; have t2 := swc3.out; have t3 := sw2.out; have t4 := sw3.out; have t5 := sw4.out; have t6 := sw5.out; have t7 := sw6.out; have t8 := sw7.out; omega)
    replace OG := OG.writes hw (by have t0 := swc1.out; have t1 := swc2.out; have t2 := swc3.out; have t3 := sw2.out; have t4 := sw3.out; have t5 := sw4.out; have t6 := sw5.out; have t7 := sw6.out; have t8 := sw7.out; omega)
    replace HA := HA0.below hB
    have sw8 : Hid (w7.heap.size ≤ w8.heap.size) := by have hq := hw.size; show w7.heap.size ≤ w8.heap.size; omega
    clear hw
    clear hox OX
    have TG := BG
    obtain ⟨qG0, qG1⟩ := TG
    have TW := BW
    obtain ⟨qW0, qW1⟩ := TW
    go_wp2_with fail
    refine (eqChainResult_same c m S ag aw cg cw _ hm OG.at OW.at).mono ?_
    rintro e w9 ⟨rfl, hb⟩
    clear qG0 qG1 qW0 qW1
    replace hB := below_then hB hb
    replace BV := BV.below hb
    replace BW := BW.below hb
    replace BG := BG.below hb
    replace OW := OW.below hb
    replace OG := OG.below hb
    replace HA := HA.below hb
    have sw9 : Hid (w8.heap.size ≤ w9.heap.size) := by have hq := hb.size; show w8.heap.size ≤ w9.heap.size; omega
    clear hb
    have TG := BG
    obtain ⟨qG0, qG1⟩ := TG
    go_wp2_with fail
    refine (markChainResult_any c m S ag cg w3.heap.size w4.heap.size _ hm OG).mono ?_
    rintro e w10 ⟨rfl, hw, hog⟩
    clear qG0 qG1
    replace hB := Writes.below hB hw (by have t0 := swc1.out; have t1 := swc2.out; have t2 := swc3.out; have t3 := sw2.out; have t4 := sw3.out; have t5 := sw4.out; have t6 := sw5.out; have t7 := sw6.out; have t8 := sw7.out; have t9 := sw8.out; have t10 := sw9.out; omega)
    replace BV := BV.writes hw (by have t0 := swc1.out; have t1 := swc2.out; have t2 := swc3.out; have t3 := sw2.out; have t4 := sw3.out; have t5 := sw4.out; have t6 := sw5.out; have t7 := sw6.out; have t8 := sw7.out; have t9 := sw8.out; have t10 := sw9.out; omega)
    replace BW := BW.writes hw (by have t0 := swc1.out; have t1 := swc2.out; have t2 := swc3.out; have t3 := sw2.out; have t4 := sw3.out; have t5 := sw4.out; have t6 := sw5.out; have t7 := sw6.out; have t8 := sw7.out; have t9 := sw8.out; have t10 := sw9.out; omega)
    replace BG := BG.writes hw (by have t0 := swc1.out; have t1 := swc2.out; have t2 := swc3.out; have t3 := sw2.out; have t4 := sw3.out; have t5 := sw4.out; have t6 := sw5.out; have t7 := sw6.out; have t8 := sw7.out; have t9 := sw8.out; have t10 := sw9.out; omega)
    replace OW := OW.writes hw (by have t0 := swc1.out; have t1 := swc2.out; have t2 := swc3.out; have t3 := sw2.out; have t4 := sw3.out; have t5 := sw4.out; have t6 := sw5.out; have t7 := sw6.out; have t8 := sw7.out; have t9 := sw8.out; have t10 := sw9.out; omega)
    replace HA := HA0.below hB
    have sw10 : Hid (w9.heap.size ≤ w10.heap.size) := by have hq := hw.size; show w9.heap.size ≤ w10.heap.size; omega
    clear hw
    clear OG
    have OG := hog
    clear hog
    have TG := BG
    obtain ⟨qG0, qG1⟩ := TG
    go_wp2_with fail
    refine (heldChainResult_any c m ag cg _ hm OG.at).mono ?_
    rintro e w11 ⟨rfl, hb⟩
    clear qG0 qG1
    replace hB := below_then hB hb
    replace BV := BV.below hb
    replace BW := BW.below hb
    replace BG := BG.below hb
    replace OW := OW.below hb
    replace OG := OG.below hb
    replace HA := HA.below hb
    have sw11 : Hid (w10.heap.size ≤ w11.heap.size) := by have hq := hb.size; show w10.heap.size ≤ w11.heap.size; omega
    clear hb
    have BVr := BV
    have HAr := HA
    have TV := BV
    obtain ⟨q0, q1⟩ := TV
    go_upto_region 24 with fail
    go_cut [16] (fun cc wx => ∃ (B : Nat) (aw : Option Addr) (cw : Nat), cc = .pointer (some ⟨B, 0, none⟩) ∧ Hid (Box2 wx B (.int .i64 c) (.slice aw m cw)) ∧ Hid (Own4 wx w11.heap.size wx.heap.size aw m S) ∧ Hid (Below w11.heap.size w11 wx))
    case first =>
      have HX : Hid (Below w11.heap.size w11 w11) := Below.refl _ _
      have rq0 := fun ob : Obj => cell_alloc q0 ob
      have rq1 := fun ob : Obj => cell_alloc q1 ob
      go_region_law (first | (go_simp; go_at_call 13; refine (toVersionS_any n R a cap _ hn (HAr.below (by have hq1 := HX.out.size; repeat (first | exact HX.out | apply Below.drew | refine Below.alloc ?_ (by first | omega | (simp <;> omega)) _)))).mono ?_; rintro e wt ⟨bt, rfl, hb, OT⟩; have OTs := OT.at; have HY : Hid (Below wt.heap.size wt wt) := Below.refl _ _; have HX : Hid (Below w11.heap.size w11 wt) := below_then (by have hq1 := HX.out.size; repeat (first | exact HX.out | apply Below.drew | refine Below.alloc ?_ (by first | omega | (simp <;> omega)) _)) hb; have hswt : w11.heap.size ≤ wt.heap.size := HX.out.size; have BVn := BVr.below HX.out; obtain ⟨p0, p1⟩ := BVn; have rp0 := fun ob : Obj => cell_alloc p0 ob; have rp1 := fun ob : Obj => cell_alloc p1 ob; (first | (have zz : BoxR wt w11.heap.size (.int .i64 0) (.slice none 0 0) := (BoxR.new w11.drew (.int .i64 0) (.slice none 0 0) 28).below hb) | (have zz := (BoxR.new _ (.int .i64 0) (.slice none 0 0) 28).below hb) | (have zz := zz.below hb) | (have zz := (zz.below (below_new _ _)).below hb) | skip); (first | (have zy := zz; obtain ⟨z0, z1, zf⟩ := zy) | skip); clear hb) | (go_simp; go_at_call 14; refine (toView_any x o _).mono ?_; rintro e wv ⟨rfl, hb⟩; (first | (have HY : Hid (Below wt.heap.size wt wv) := below_then (by have hq1 := HY.out.size; repeat (first | exact HY.out | apply Below.drew | refine Below.alloc ?_ (by first | omega | (simp <;> omega)) _)) hb) | skip); have HX : Hid (Below w11.heap.size w11 wv) := below_then (by have hq1 := HX.out.size; repeat (first | exact HX.out | apply Below.drew | refine Below.alloc ?_ (by first | omega | (simp <;> omega)) _)) hb; have hswv : w11.heap.size ≤ wv.heap.size := HX.out.size; have BVn := BVr.below HX.out; obtain ⟨p0, p1⟩ := BVn; have rp0 := fun ob : Obj => cell_alloc p0 ob; have rp1 := fun ob : Obj => cell_alloc p1 ob; (first | (have zz : BoxR wv w11.heap.size (.int .i64 0) (.slice none 0 0) := (BoxR.new w11.drew (.int .i64 0) (.slice none 0 0) 28).below hb) | (have zz := (BoxR.new _ (.int .i64 0) (.slice none 0 0) 28).below hb) | (have zz := zz.below hb) | (have zz := (zz.below (below_new _ _)).below hb) | skip); (first | (have zy := zz; obtain ⟨z0, z1, zf⟩ := zy) | skip); clear hb) | (go_simp; go_at_call 15; (first | (have hBn := Go.block_lt_of_cell z0) | skip); refine (HQ.out _ _ (OTs.below (by have hq1 := HY.out.size; repeat (first | exact HY.out | apply Below.drew | refine Below.alloc ?_ (by first | omega | (simp <;> omega)) _)))).mono ?_; rintro e ws ⟨sa, sc, rfl, hb, OS⟩; have HX : Hid (Below w11.heap.size w11 ws) := below_then (by have hq1 := HX.out.size; repeat (first | exact HX.out | apply Below.drew | refine Below.alloc ?_ (by first | omega | (simp <;> omega)) _)) hb; have hsws : w11.heap.size ≤ ws.heap.size := HX.out.size; have BVn := BVr.below HX.out; obtain ⟨p0, p1⟩ := BVn; have rp0 := fun ob : Obj => cell_alloc p0 ob; have rp1 := fun ob : Obj => cell_alloc p1 ob; (first | (have zz : BoxR ws w11.heap.size (.int .i64 0) (.slice none 0 0) := (BoxR.new w11.drew (.int .i64 0) (.slice none 0 0) 28).below hb) | (have zz := (BoxR.new _ (.int .i64 0) (.slice none 0 0) 28).below hb) | (have zz := zz.below hb) | (have zz := (zz.below (below_new _ _)).below hb) | skip); (first | (have zy := zz; obtain ⟨z0, z1, zf⟩ := zy) | skip); clear hb))
      all_goals
        go_wp2_with fail
        go_meet
        (refine ⟨_, sa, sc, rfl, by simp [Hid, Box2, go_sem, *], ?_, by repeat (first | exact HX.out | apply Below.drew | refine Below.setCell ?_ (by first | omega | (simp <;> omega)) _ | refine Below.alloc ?_ (by first | omega | (simp <;> omega)) _)⟩; show Own4 _ _ _ _ _ _; first | (with_reducible refine Own4.wide (Own4.below OS (below_new _ _)) (by first | omega | (simp <;> omega)) (by first | omega | (simp <;> omega)) (Nat.le_refl _)) | (refine Own4.wide (own4_box2 OS (by first | omega | exact hBn | (simp <;> omega) | (have hq9 := hBn; simp at hq9 ⊢; omega)) _ _) (by first | omega | (simp <;> omega)) (by first | omega | (simp <;> omega)) (Nat.le_refl _)))
    case rest =>
      obtain ⟨B2, ah, ch, rfl, BH0, OH0, HBc⟩ := hcut
      replace hB := below_then hB HBc.out
      replace BW := BW.below HBc.out
      replace BG := BG.below HBc.out
      replace OW := OW.below HBc.out
      replace OG := OG.below HBc.out
      obtain ⟨h0, h1⟩ := BH0.out
      obtain ⟨g0, g1⟩ := BW
      go_wp2_with fail
      refine (eqChainResult_same c m S ah aw ch cw _ hm OH0.out.at OW.at).mono ?_
      rintro e wy ⟨rfl, hb⟩
      replace hB := below_then hB hb
      replace BG := BG.below hb
      replace OG := OG.below hb
      clear h0 h1 g0 g1 hb
      obtain ⟨g0, g1⟩ := BG
      go_wp2_with fail
      refine (heldChainResult_any c m ag cg _ hm OG.at).mono ?_
      rintro e wz ⟨rfl, hb⟩
      go_wp2_with fail
      go_ret
      exact ⟨rfl, below_then hB hb⟩
theorem pushVersionLaw_big (n : Nat) (a : Option Addr) (cap : Nat) (x o : Int) (g : Bool) (u : Int) (w : World) (hn0 : n ≤ 9223372036854775807) (hn : ¬ n ≤ 1048576) :
    Calls Try.prog 3 #[.slice a n cap, .agg #[.int .i64 x, .int .i64 o], .bool g, .int .i64 u] w fun e w' => e = .returned (.bool true) ∧ Below w.heap.size w w' := by
  go_enter Try.func3, Try.ntmps3
  go_wp2_with fail
  refine (szVersionS_any n a cap _ hn0).mono ?_
  rintro e w0 ⟨rfl, rfl⟩
  rw [if_neg hn]
  go_wp2_with fail
  go_ret
  exact ⟨rfl, below_new _ _⟩
theorem pvN_le (n : Nat) (R : Nat → Vr) (x o : Int) (g : Bool) (u : Int) : pvN n R x o g u ≤ n + 1 := by
  unfold pvN
  split
  · split <;> omega
  · omega
theorem pvN_small (n : Nat) (R : Nat → Vr) (x o : Int) (g : Bool) (u : Int) (hn : n ≤ 1048576) : pvN n R x o g u ≤ 1048576 := by
  by_cases h : avC n R x o = 0
  · have := avC_good h
    have := pvN_le n R x o g u
    omega
  · have h1 : pvC n R x o g u ≠ 0 := by
      unfold pvC
      rw [if_neg h]
      exact h
    unfold pvN
    rw [if_neg h1]
    omega
theorem pushVersionLaw (n : Nat) (R : Nat → Vr) (a : Option Addr) (cap : Nat) (x o : Int) (g : Bool) (u : Int) (w : World) (hn : n ≤ 9223372036854775807) (h : VersAt w a n R) :
    Calls Try.prog 3 #[.slice a n cap, .agg #[.int .i64 x, .int .i64 o], .bool g, .int .i64 u] w fun e w' => e = .returned (.bool true) ∧ Below w.heap.size w w' := by
  by_cases hs : n ≤ 1048576
  · exact pushVersionLaw_small n R a cap x o g u w hs h (pvC n R x o g u) (pvN n R x o g u) (pvS n R o g u) (pvN_small n R x o g u hs) (fun a w h => specPv_any n R a x o g u w hn h) (fun a w h => implPv_any n R a x o g u w hn h)
  · exact pushVersionLaw_big n a cap x o g u w hn hs
end Go.Proofs.Ytblhnhmcdbfhiaa
