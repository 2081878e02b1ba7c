/- FnExactMayWrite: the walk of the law. -/
import Derived.Test.YtmegbinpclclaaaVl
import Derived.Deep.DeepCutAuto
namespace Go.Proofs.Ytmegbinpclclaaa
open Go.RowKit Go.Deep
set_option linter.unusedVariables false
set_option maxRecDepth 20000

set_option maxHeartbeats 8000000 in
theorem mayWriteLaw_small (n : Nat) (R : Nat → Vr) (a : Option Addr) (cap : Nat) (x o : Int) (w : World) (hn : n ≤ 1048576) (HA0 : VersAt w a n R) (c : Int)
    (HP : Hid (∀ (a : Option Addr) (cap : Nat) (w : World), VersAt w a n R → Calls Try.prog 22 #[.slice a n cap, .agg #[.int .i64 x, .int .i64 o]] w fun e w' => e = .returned (.int .i64 c) ∧ Below w.heap.size w w'))
    (HQ : Hid (∀ (a : Option Addr) (cap : Nat) (w : World), VersAt w a n R → Calls Try.prog 23 #[.slice a n cap, .agg #[.int .i64 x, .int .i64 o]] w fun e w' => e = .returned (.int .i64 c) ∧ Below w.heap.size w w')) :
    Calls Try.prog 6 #[.slice a n cap, .agg #[.int .i64 x, .int .i64 o]] w fun e w' => e = .returned (.bool true) ∧ Below w.heap.size w w' := by
  have hneg : ¬ ((1048576 : Int) - (n : Int) < 0) := by omega
  go_enter Try.func6, Try.ntmps6
  go_wp2_with fail
  refine (szVersionS_any n a cap _ (by omega)).mono ?_
  rintro e w1 ⟨rfl, hw1⟩
  rw [if_pos hn]
  have BV : Box2 w1 w.heap.size (.int .i64 x) (.int .i64 o) := by rw [hw1]; exact Box2.new w _ _ 30
  have hB : Below w.heap.size w w1 := by rw [hw1]; exact below_new _ _
  clear hw1
  have HA := HA0.below hB
  have TV := BV
  obtain ⟨q0, q1⟩ := TV
  go_upto_region 5 with fail
  go_cut [6] (fun c6 wx => c6 = .int .i64 c ∧ Hid (Below w1.heap.size w1 wx))
  case first =>
    go_region_law (first | (go_simp; go_at_call 13; first | (refine (toVersionS_any n R a cap wv hn (HA.below (drewB6 hbv))).mono ?_; rintro e wt ⟨bt, rfl, hbt, OT⟩; have OTs := OT.at; have HBt : Hid (Below w1.heap.size w1 wt) := below_then (drewB6 hbv) hbt) | (refine (toVersionS_any n R a cap w1.drew hn (HA.below ((Below.refl _ _).drew))).mono ?_; rintro e wt ⟨bt, rfl, hbt, OT⟩; have p0 := cell_below (w := w1.drew) q0 hbt; have p1 := cell_below (w := w1.drew) q1 hbt)) | (go_simp; go_at_call 17; first | (refine (toView_any x o wt).mono ?_; rintro e wv ⟨rfl, hbv⟩; have OTs := OT.at.below hbv; have HBt : Hid (Below w1.heap.size w1 wv) := below_then (drewB6 hbt) hbv) | (refine (toView_any x o w1.drew).mono ?_; rintro e wv ⟨rfl, hbv⟩)) | (go_simp; go_at_call 22; refine (HP.out _ _ _ OTs).mono ?_; rintro e ws ⟨rfl, hbs⟩; have HBs : Hid (Below w1.heap.size w1 ws) := below_then HBt.out hbs))
    all_goals
      go_wp2_with fail
      go_meet
      exact ⟨rfl, HBs⟩
  case rest =>
    obtain ⟨rfl, HBc⟩ := hcut
    have hB2 := below_then hB HBc.out
    have HA2 := HA.below HBc.out
    have BV2 := BV.below HBc.out
    clear q0 q1 BV hB HA HBc
    go_wp2_with fail
    refine (toVersionS_any n R a cap _ hn HA2).mono ?_
    rintro e w3 ⟨bx, rfl, hb3, OX⟩
    have BV3 := BV2.below hb3
    have HA3 := HA2.below hb3
    have hB3 := below_then hB2 hb3
    obtain ⟨q0, q1⟩ := BV3
    go_wp2_with fail
    refine (toView_any x o _).mono ?_
    rintro e w4 ⟨rfl, hb4⟩
    have OX4 := OX.below hb4
    have HA4 := HA3.below hb4
    have hB4 := below_then hB3 hb4
    go_wp2_with fail
    refine (HQ.out _ _ _ OX4.at).mono ?_
    rintro e w5 ⟨rfl, hb5⟩
    have OX5 := OX4.below hb5
    have HA5 := HA4.below hb5
    have hB5 := below_then hB4 hb5
    have hcc : (c != c) = false := by simp
    clear q0 q1 HA2 HA3 HA4 hB2 hB3 hB4 OX OX4 BV2 hb3 hb4 hb5
    go_wp2_with fail
    refine (toVersionS_any n R a cap _ hn HA5).mono ?_
    rintro e w6 ⟨bq, rfl, hb6, OQ⟩
    go_wp2_with fail
    refine (eqVersionS_any n R _ _ n n _ hn (OX5.below hb6).at OQ.at).mono ?_
    rintro e w7 ⟨rfl, hb7⟩
    go_wp2_with fail
    go_ret
    exact ⟨rfl, below_then (below_then hB5 hb6) hb7⟩
theorem mayWriteLaw_big (n : Nat) (a : Option Addr) (cap : Nat) (x o : Int) (w : World) (hn0 : n ≤ 9223372036854775807) (hn : ¬ n ≤ 1048576) :
    Calls Try.prog 6 #[.slice a n cap, .agg #[.int .i64 x, .int .i64 o]] w fun e w' => e = .returned (.bool true) ∧ Below w.heap.size w w' := by
  go_enter Try.func6, Try.ntmps6
  go_wp2_with fail
  refine (szVersionS_any n a cap _ hn0).mono ?_
  rintro e w0 ⟨rfl, rfl⟩
  rw [if_neg hn]
  go_wp2_with fail
  go_ret
  exact ⟨rfl, below_new _ _⟩
theorem mayWriteLaw (n : Nat) (R : Nat → Vr) (a : Option Addr) (cap : Nat) (x o : Int) (w : World) (hn : n ≤ 9223372036854775807) (h : VersAt w a n R) :
    Calls Try.prog 6 #[.slice a n cap, .agg #[.int .i64 x, .int .i64 o]] w fun e w' => e = .returned (.bool true) ∧ Below w.heap.size w w' := by
  by_cases hs : n ≤ 1048576
  · exact mayWriteLaw_small n R a cap x o w hs h (mwC n R x o) (fun a cap w h => specMw_any n R a cap x o w hn h) (fun a cap w h => implMw_any n R a cap x o w hn h)
  · exact mayWriteLaw_big n a cap x o w hn hs
end Go.Proofs.Ytmegbinpclclaaa
