/- FnExactSeenIn: the walk of the law. -/
import Derived.Test.YtmegbinpclclaaaVn
import Derived.Deep.DeepCutAuto
namespace Go.Proofs.Ytmegbinpclclaaa
open Go.RowKit Go.Deep
set_option linter.unusedVariables false
set_option maxRecDepth 20000

set_option maxHeartbeats 8000000 in
theorem seenInLaw_small (n : Nat) (R : Nat → Vr) (a : Option Addr) (cap : Nat) (x o : Int) (w : World) (hn : n ≤ 1048576) (HA0 : VersAt w a n R) (c v : Int)
    (HP : Hid (∀ (a : Option Addr) (cap : Nat) (w : World), VersAt w a n R → Calls Try.prog 16 #[.slice a n cap, .agg #[.int .i64 x, .int .i64 o]] w fun e w' => e = .returned (.agg #[.int .i64 c, .int .i64 v]) ∧ Below w.heap.size w w'))
    (HQ : Hid (∀ (a : Option Addr) (cap : Nat) (w : World), VersAt w a n R → Calls Try.prog 18 #[.slice a n cap, .agg #[.int .i64 x, .int .i64 o]] w fun e w' => e = .returned (.agg #[.int .i64 c, .int .i64 v]) ∧ Below w.heap.size w w')) :
    Calls Try.prog 4 #[.slice a n cap, .agg #[.int .i64 x, .int .i64 o]] w fun e w' => e = .returned (.bool true) ∧ Below w.heap.size w w' := by
  have hneg : ¬ ((1048576 : Int) - (n : Int) < 0) := by omega
  go_enter Try.func4, Try.ntmps4
  go_wp2_with fail
  refine (szVersionS_any n a cap _ (by omega)).mono ?_
  rintro e w1 ⟨rfl, hw1⟩
  rw [if_pos hn]
  have BV : Box2 w1 w.heap.size (.int .i64 x) (.int .i64 o) := by rw [hw1]; exact Box2.new w _ _ 30
  have hB : Below w.heap.size w w1 := by rw [hw1]; exact below_new _ _
  clear hw1
  have HA := HA0.below hB
  have TV := BV
  obtain ⟨q0, q1⟩ := TV
  go_upto_region 5 with fail
  go_cut [6] (fun c6 wx => ∃ B : Nat, c6 = .pointer (some ⟨B, 0, none⟩) ∧ Hid (Box2 wx B (.int .i64 c) (.int .i64 v)) ∧ Hid (Below w1.heap.size w1 wx))
  case first =>
    have HX : Hid (Below w1.heap.size w1 w1) := Below.refl _ _
    have rq0 := fun ob : Obj => cell_alloc q0 ob
    have rq1 := fun ob : Obj => cell_alloc q1 ob
    go_region_law (first | (go_simp; go_at_call 13; refine (toVersionS_any n R a cap _ hn (HA.below (by have hq1 := HX.out.size; repeat (first | exact HX.out | apply Below.drew | refine Below.alloc ?_ (by first | omega | (simp <;> omega)) _)))).mono ?_; rintro e wt ⟨bt, rfl, hb, OT⟩; have OTs := OT.at; have HY : Hid (Below wt.heap.size wt wt) := Below.refl _ _; have HX : Hid (Below w1.heap.size w1 wt) := below_then (by have hq1 := HX.out.size; repeat (first | exact HX.out | apply Below.drew | refine Below.alloc ?_ (by first | omega | (simp <;> omega)) _)) hb; have hswt : w1.heap.size ≤ wt.heap.size := HX.out.size; have BVn := BV.below HX.out; obtain ⟨p0, p1⟩ := BVn; have rp0 := fun ob : Obj => cell_alloc p0 ob; have rp1 := fun ob : Obj => cell_alloc p1 ob; (first | (have zz : BoxR wt w1.heap.size (.int .i64 0) (.int .i64 0) := (BoxR.new w1.drew (.int .i64 0) (.int .i64 0) 32).below hb) | (have zz := (BoxR.new _ (.int .i64 0) (.int .i64 0) 32).below hb) | (have zz := zz.below hb) | (have zz := (zz.below (below_new _ _)).below hb) | skip); (first | (have zy := zz; obtain ⟨z0, z1, zf⟩ := zy) | skip); clear hb) | (go_simp; go_at_call 17; refine (toView_any x o _).mono ?_; rintro e wv ⟨rfl, hb⟩; (first | (have HY : Hid (Below wt.heap.size wt wv) := below_then (by have hq1 := HY.out.size; repeat (first | exact HY.out | apply Below.drew | refine Below.alloc ?_ (by first | omega | (simp <;> omega)) _)) hb) | skip); have HX : Hid (Below w1.heap.size w1 wv) := below_then (by have hq1 := HX.out.size; repeat (first | exact HX.out | apply Below.drew | refine Below.alloc ?_ (by first | omega | (simp <;> omega)) _)) hb; have hswv : w1.heap.size ≤ wv.heap.size := HX.out.size; have BVn := BV.below HX.out; obtain ⟨p0, p1⟩ := BVn; have rp0 := fun ob : Obj => cell_alloc p0 ob; have rp1 := fun ob : Obj => cell_alloc p1 ob; (first | (have zz : BoxR wv w1.heap.size (.int .i64 0) (.int .i64 0) := (BoxR.new w1.drew (.int .i64 0) (.int .i64 0) 32).below hb) | (have zz := (BoxR.new _ (.int .i64 0) (.int .i64 0) 32).below hb) | (have zz := zz.below hb) | (have zz := (zz.below (below_new _ _)).below hb) | skip); (first | (have zy := zz; obtain ⟨z0, z1, zf⟩ := zy) | skip); clear hb) | (go_simp; go_at_call 16; refine (HP.out _ _ _ (OTs.below (by have hq1 := HY.out.size; repeat (first | exact HY.out | apply Below.drew | refine Below.alloc ?_ (by first | omega | (simp <;> omega)) _)))).mono ?_; rintro e ws ⟨rfl, hb⟩; have HX : Hid (Below w1.heap.size w1 ws) := below_then (by have hq1 := HX.out.size; repeat (first | exact HX.out | apply Below.drew | refine Below.alloc ?_ (by first | omega | (simp <;> omega)) _)) hb; have hsws : w1.heap.size ≤ ws.heap.size := HX.out.size; have BVn := BV.below HX.out; obtain ⟨p0, p1⟩ := BVn; have rp0 := fun ob : Obj => cell_alloc p0 ob; have rp1 := fun ob : Obj => cell_alloc p1 ob; (first | (have zz : BoxR ws w1.heap.size (.int .i64 0) (.int .i64 0) := (BoxR.new w1.drew (.int .i64 0) (.int .i64 0) 32).below hb) | (have zz := (BoxR.new _ (.int .i64 0) (.int .i64 0) 32).below hb) | (have zz := zz.below hb) | (have zz := (zz.below (below_new _ _)).below hb) | skip); (first | (have zy := zz; obtain ⟨z0, z1, zf⟩ := zy) | skip); clear hb))
    all_goals
      go_wp2_with fail
      go_meet
      exact ⟨_, rfl, by simp [Hid, Box2, go_sem, *], by repeat (first | exact HX.out | apply Below.drew | refine Below.setCell ?_ (by first | omega | (simp <;> omega)) _ | refine Below.alloc ?_ (by first | omega | (simp <;> omega)) _)⟩
  case rest =>
    obtain ⟨B, rfl, HBW, HBc⟩ := hcut
    have hB2 := below_then hB HBc.out
    have HA2 := HA.below HBc.out
    have BV2 := BV.below HBc.out
    clear q0 q1 BV hB HA HBc
    go_wp2_with fail
    refine (toVersionS_any n R a cap _ hn HA2).mono ?_
    rintro e w3 ⟨bx, rfl, hb3, OX⟩
    have BV3 := BV2.below hb3
    have HA3 := HA2.below hb3
    have hB3 := below_then hB2 hb3
    obtain ⟨q0, q1⟩ := BV3
    go_wp2_with fail
    refine (toView_any x o _).mono ?_
    rintro e w4 ⟨rfl, hb4⟩
    have OX4 := OX.below hb4
    have HA4 := HA3.below hb4
    have hB4 := below_then hB3 hb4
    go_wp2_with fail
    refine (HQ.out _ _ _ OX4.at).mono ?_
    rintro e w5 ⟨rfl, hb5⟩
    have OX5 := OX4.below hb5
    have HA5 := HA4.below hb5
    have hB5 := below_then hB4 hb5
    have BW5 := (((HBW.out.below hb3).below hb4).below hb5)
    clear q0 q1 HA2 HA3 HA4 hB2 hB3 hB4 OX OX4 BV2 hb3 hb4 hb5
    obtain ⟨s0, s1⟩ := BW5
    have r0 := fun ob : Obj => cell_alloc s0 ob
    have r1 := fun ob : Obj => cell_alloc s1 ob
    go_wp2_with fail
    refine (eqIntResult_same c v _).mono ?_
    rintro e w6 ⟨rfl, hb6⟩
    replace hb6 := below_then (below_new _ _) hb6
    have OX6 := OX5.below hb6
    have HA6 := HA5.below hb6
    have hB6 := below_then hB5 hb6
    clear s0 s1 r0 r1 HA5 hB5 OX5 hb6
    go_wp2_with fail
    refine (toVersionS_any n R a cap _ hn HA6).mono ?_
    rintro e w7 ⟨bq, rfl, hb7, OQ⟩
    go_wp2_with fail
    refine (eqVersionS_any n R _ _ n n _ hn (OX6.below hb7).at OQ.at).mono ?_
    rintro e w8 ⟨rfl, hb8⟩
    go_wp2_with fail
    go_ret
    exact ⟨rfl, below_then (below_then hB6 hb7) hb8⟩
theorem seenInLaw_big (n : Nat) (a : Option Addr) (cap : Nat) (x o : Int) (w : World) (hn0 : n ≤ 9223372036854775807) (hn : ¬ n ≤ 1048576) :
    Calls Try.prog 4 #[.slice a n cap, .agg #[.int .i64 x, .int .i64 o]] w fun e w' => e = .returned (.bool true) ∧ Below w.heap.size w w' := by
  go_enter Try.func4, Try.ntmps4
  go_wp2_with fail
  refine (szVersionS_any n a cap _ hn0).mono ?_
  rintro e w0 ⟨rfl, rfl⟩
  rw [if_neg hn]
  go_wp2_with fail
  go_ret
  exact ⟨rfl, below_new _ _⟩
theorem seenInLaw (n : Nat) (R : Nat → Vr) (a : Option Addr) (cap : Nat) (x o : Int) (w : World) (hn : n ≤ 9223372036854775807) (h : VersAt w a n R) :
    Calls Try.prog 4 #[.slice a n cap, .agg #[.int .i64 x, .int .i64 o]] w fun e w' => e = .returned (.bool true) ∧ Below w.heap.size w w' := by
  by_cases hs : n ≤ 1048576
  · exact seenInLaw_small n R a cap x o w hs h (seC n R x o) (seV n R x o) (fun a cap w h => specSe_any n R a cap x o w hn h) (fun a cap w h => implSe_any n R a cap x o w hn h)
  · exact seenInLaw_big n a cap x o w hn hs
end Go.Proofs.Ytmegbinpclclaaa
