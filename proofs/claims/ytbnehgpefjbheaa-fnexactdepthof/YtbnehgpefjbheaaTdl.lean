/- FnExactDepthOf: the walk of the law. -/
import Derived.Test.YtbnehgpefjbheaaTnq
namespace Go.Proofs.Ytbnehgpefjbheaa
open Go.RowKit Go.Deep
set_option linter.unusedVariables false
set_option maxRecDepth 20000

set_option maxHeartbeats 8000000 in
theorem depthOfLaw_small (t : Tr) (a : Option Addr) (cap : Nat) (w : World) (hn : t.n ≤ 9223372036854775807) (hL : ∀ i, i < t.n → (t.T i).kn ≤ 9223372036854775807 ∧ (t.T i).dn ≤ 9223372036854775807) (HA0 : NdsAt w a t.n t.T) (c v : Int)
    (HP : Hid (SmallT t → ∀ (a : Option Addr) (w : World), NdsAt w a t.n t.T → Calls Try.prog 18 #[.agg #[.int .i64 t.root, .slice a t.n t.n]] w (fun e w' => e = .returned (.agg #[.int .i64 c, .int .i64 v]) ∧ Below w.heap.size w w')))
    (HQ : Hid (SmallT t → ∀ (a : Option Addr) (w : World), NdsAt w a t.n t.T → Calls Try.prog 19 #[.agg #[.int .i64 t.root, .slice a t.n t.n]] w (fun e w' => e = .returned (.agg #[.int .i64 c, .int .i64 v]) ∧ Below w.heap.size w w'))) :
    Calls Try.prog 5 #[.agg #[.int .i64 t.root, .slice a t.n cap]] w fun e w' => e = .returned (.bool true) ∧ Below w.heap.size w w' := by
  go_enter Try.func5, Try.ntmps5
  go_wp2_with fail
  refine (szTree_any t a cap _ hn hL (HA0.below (below_new _ _))).mono ?_
  rintro e w1 ⟨hb, r, rfl, hr⟩
  have hB : Below w.heap.size w w1 := below_then (below_new _ _) hb
  rcases hr with rfl | ⟨hr0, hr1⟩
  · go_wp2_with fail
    go_ret
    exact ⟨rfl, hB⟩
  have HS : SmallT t := smallT_of (by omega)
  have BA := (Box2.new w (.int .i64 t.root) (.slice a t.n cap) 24).below hb
  have HA := HA0.below hB
  have sw1 : Hid (w.heap.size < w1.heap.size) := by have hq := hb.size; simp at hq; show w.heap.size < w1.heap.size; omega
  have hneg : ¬ (r < 0) := by omega
  clear hb hr0 hr1 hn hL
  have TA := BA
  obtain ⟨qA0, qA1⟩ := TA
  go_wp2_with fail
  refine (toTree_any t a cap _ HS HA).mono ?_
  rintro e w2 ⟨b1, rfl, hb, ho⟩
  clear qA0 qA1
  replace hB := below_then hB hb
  replace BA := BA.below hb
  replace HA := HA.below hb
  have sw2 : Hid (w1.heap.size ≤ w2.heap.size) := by have hq := hb.size; show w1.heap.size ≤ w2.heap.size; omega
  have OT := ho.wide (Nat.le_refl _) (Nat.le_refl _) (Nat.le_refl _)
  clear ho
  clear hb
  go_wp2_with fail
  refine (HP.out HS _ _ OT.at).mono ?_
  rintro e w3 ⟨rfl, hb⟩
  replace hB := below_then hB hb
  replace BA := BA.below hb
  replace OT := OT.below hb
  replace HA := HA.below hb
  have sw3 : Hid (w2.heap.size ≤ w3.heap.size) := by have hq := hb.size; show w2.heap.size ≤ w3.heap.size; omega
  clear hb
  clear OT
  have TA := BA
  obtain ⟨qA0, qA1⟩ := TA
  have rA0 := fun o : Obj => cell_alloc qA0 o
  have rA1 := fun o : Obj => cell_alloc qA1 o
  go_wp2_with fail
  refine (toTree_any t a cap _ HS (HA.below (below_new _ _))).mono ?_
  rintro e w4 ⟨bx, rfl, hb, ho⟩
  clear qA0 qA1 rA0 rA1
  replace hB := below_then hB (below_then (below_new _ _) hb)
  replace BA := (BA.alloc _).below hb
  have BW := (Box2.new w3 (.int .i64 c) (.int .i64 v) 36).below hb
  replace HA := (HA.below (below_new _ _)).below hb
  have sw4 : Hid (w3.heap.size < w4.heap.size) := by have hq := hb.size; simp at hq; show w3.heap.size < w4.heap.size; omega
  have OX : OwnNd w4 (w3.heap.size + 1) w4.heap.size _ t.n t.T := ho.wide (by simp) (Nat.le_refl _) (Nat.le_refl _)
  clear ho
  clear hb
  go_wp2_with fail
  refine (HQ.out HS _ _ (OX.at.below (below_new _ _))).mono ?_
  rintro e w5 ⟨rfl, hb⟩
  replace hB := below_then hB (below_then (below_new _ _) hb)
  replace BA := (BA.alloc _).below hb
  replace BW := (BW.alloc _).below hb
  have BX := (Box2.new w4 (.int .i64 t.root) (.slice (some ⟨bx, 0, none⟩) t.n t.n) 29).below hb
  replace OX := (OX.below (below_new _ _)).below hb
  replace HA := (HA.below (below_new _ _)).below hb
  have sw5 : Hid (w4.heap.size < w5.heap.size) := by have hq := hb.size; simp at hq; show w4.heap.size < w5.heap.size; omega
  clear hb
  have TW := BW
  obtain ⟨qW0, qW1⟩ := TW
  have rW0 := fun o : Obj => cell_alloc qW0 o
  have rW1 := fun o : Obj => cell_alloc qW1 o
  go_wp2_with fail
  refine (eqIntResult_same c v _  ).mono ?_
  rintro e w6 ⟨rfl, hb⟩
  clear qW0 qW1 rW0 rW1
  replace hB := below_then hB (below_then (below_new _ _) hb)
  replace BA := (BA.alloc _).below hb
  replace BW := (BW.alloc _).below hb
  replace BX := (BX.alloc _).below hb
  have BG := (Box2.new w5 (.int .i64 c) (.int .i64 v) 36).below hb
  replace OX := (OX.below (below_new _ _)).below hb
  replace HA := (HA.below (below_new _ _)).below hb
  have sw6 : Hid (w5.heap.size < w6.heap.size) := by have hq := hb.size; simp at hq; show w5.heap.size < w6.heap.size; omega
  clear hb
  have TX := BX
  obtain ⟨qX0, qX1⟩ := TX
  have TA := BA
  obtain ⟨qA0, qA1⟩ := TA
  go_wp2_with fail
  have hb0 : Below w6.heap.size w6 w6.drew := (Below.refl _ _).drew
  go_region_held3 (fun w' => Below w6.heap.size w6 w' ∧ w'.cell? ⟨w4.heap.size, 0, none⟩ = some (.int .i64 t.root) ∧ w'.cell? ⟨w4.heap.size, 1, none⟩ = some (.slice (some ⟨bx, 0, none⟩) t.n t.n) ∧ w'.cell? ⟨w.heap.size, 0, none⟩ = some (.int .i64 t.root) ∧ w'.cell? ⟨w.heap.size, 1, none⟩ = some (.slice a t.n cap)) (go_keep)
    (first | (go_at_call 13; refine (toTree_any t a cap _ HS (HA.below (by simp [*]))).mono ?_; rintro e wq ⟨bq, rfl, hbq, hoq⟩; have hU := below_then (w := w6) (by simp [*]) hbq; have hU0 := cell_below (B := w4.heap.size) (o := 0) (v := .int .i64 t.root) (by simp [*]) hbq; have hU1 := cell_below (B := w4.heap.size) (o := 1) (v := .slice (some ⟨bx, 0, none⟩) t.n t.n) (by simp [*]) hbq; have hU2 := cell_below (B := w.heap.size) (o := 0) (v := .int .i64 t.root) (by simp [*]) hbq; have hU3 := cell_below (B := w.heap.size) (o := 1) (v := .slice a t.n cap) (by simp [*]) hbq) | (go_at_call 15; refine (eqTree_same t _ _ t.n t.n _ HS (OX.at.below (by simp [*])) hoq.at).mono ?_; rintro e w7 ⟨rfl, hbz⟩; have hS := below_then (w := w6) (by simp [*]) hbz; have hS0 := cell_below (B := w4.heap.size) (o := 0) (v := .int .i64 t.root) (by simp [*]) hbz; have hS1 := cell_below (B := w4.heap.size) (o := 1) (v := .slice (some ⟨bx, 0, none⟩) t.n t.n) (by simp [*]) hbz; have hS2 := cell_below (B := w.heap.size) (o := 0) (v := .int .i64 t.root) (by simp [*]) hbz; have hS3 := cell_below (B := w.heap.size) (o := 1) (v := .slice a t.n cap) (by simp [*]) hbz))
  clear qX0 qX1 qA0 qA1
  clear hb0 hU hU0 hU1 hU2 hU3 hS0 hS1 hS2 hS3 hbq hoq hbz
  replace hB := below_then hB hS
  replace BA := BA.below hS
  replace BW := BW.below hS
  replace BX := BX.below hS
  replace BG := BG.below hS
  replace OX := OX.below hS
  replace HA := HA.below hS
  have sw7 : Hid (w6.heap.size ≤ w7.heap.size) := by have hq := hS.size; show w6.heap.size ≤ w7.heap.size; omega
  clear hS
  go_wp2_with fail
  go_ret
  exact ⟨rfl, hB⟩
theorem depthOfLaw (t : Tr) (a : Option Addr) (cap : Nat) (w : World) (hn : t.n ≤ 9223372036854775807) (hL : ∀ i, i < t.n → (t.T i).kn ≤ 9223372036854775807 ∧ (t.T i).dn ≤ 9223372036854775807) (HA0 : NdsAt w a t.n t.T) :
    Calls Try.prog 5 #[.agg #[.int .i64 t.root, .slice a t.n cap]] w fun e w' => e = .returned (.bool true) ∧ Below w.heap.size w w' :=
  depthOfLaw_small t a cap w hn hL HA0 (trF t) (dpV t) (fun hs a w h => specDp_any t a t.n w hs h) (fun hs a w h => implDp_any t a t.n w hs h)
end Go.Proofs.Ytbnehgpefjbheaa
