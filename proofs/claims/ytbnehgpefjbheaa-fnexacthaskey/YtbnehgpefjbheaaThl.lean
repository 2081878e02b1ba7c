/- FnExactHasKey: the walk of the law. -/
import Derived.Test.YtbnehgpefjbheaaTnq
namespace Go.Proofs.Ytbnehgpefjbheaa
open Go.RowKit Go.Deep
set_option linter.unusedVariables false
set_option maxRecDepth 20000

set_option maxHeartbeats 8000000 in
theorem hasKeyLaw_small (t : Tr) (a : Option Addr) (cap : Nat) (key : Int) (w : World) (hn : t.n ≤ 9223372036854775807) (hL : ∀ i, i < t.n → (t.T i).kn ≤ 9223372036854775807 ∧ (t.T i).dn ≤ 9223372036854775807) (HA0 : NdsAt w a t.n t.T) (c : Bool)
    (HP : Hid (SmallT t → ∀ (a : Option Addr) (w : World), NdsAt w a t.n t.T → Calls Try.prog 16 #[.agg #[.int .i64 t.root, .slice a t.n t.n], .int .i64 key] w (fun e w' => e = .returned (.bool c) ∧ Below w.heap.size w w')))
    (HQ : Hid (SmallT t → ∀ (a : Option Addr) (w : World), NdsAt w a t.n t.T → Calls Try.prog 17 #[.agg #[.int .i64 t.root, .slice a t.n t.n], .int .i64 key] w (fun e w' => e = .returned (.bool c) ∧ Below w.heap.size w w'))) :
    Calls Try.prog 4 #[.agg #[.int .i64 t.root, .slice a t.n cap], .int .i64 key] w fun e w' => e = .returned (.bool true) ∧ Below w.heap.size w w' := by
  go_enter Try.func4, Try.ntmps4
  go_wp2_with fail
  refine (szTree_any t a cap _ hn hL (HA0.below (below_new _ _))).mono ?_
  rintro e w1 ⟨hb, r, rfl, hr⟩
  have hB : Below w.heap.size w w1 := below_then (below_new _ _) hb
  rcases hr with rfl | ⟨hr0, hr1⟩
  · go_wp2_with fail
    go_ret
    exact ⟨rfl, hB⟩
  have HS : SmallT t := smallT_of (by omega)
  have BA := (Box2.new w (.int .i64 t.root) (.slice a t.n cap) 24).below hb
  have HA := HA0.below hB
  have sw1 : Hid (w.heap.size < w1.heap.size) := by have hq := hb.size; simp at hq; show w.heap.size < w1.heap.size; omega
  have hneg : ¬ (r < 0) := by omega
  clear hb hr0 hr1 hn hL
  have hcc : (c != c) = false := by simp
  have TA := BA
  obtain ⟨qA0, qA1⟩ := TA
  go_wp2_with fail
  refine (toTree_any t a cap _ HS HA).mono ?_
  rintro e w2 ⟨b1, rfl, hb, ho⟩
  clear qA0 qA1
  replace hB := below_then hB hb
  replace BA := BA.below hb
  replace HA := HA.below hb
  have sw2 : Hid (w1.heap.size ≤ w2.heap.size) := by have hq := hb.size; show w1.heap.size ≤ w2.heap.size; omega
  have OT := ho.wide (Nat.le_refl _) (Nat.le_refl _) (Nat.le_refl _)
  clear ho
  clear hb
  go_wp2_with fail
  refine (HP.out HS _ _ OT.at).mono ?_
  rintro e w3 ⟨rfl, hb⟩
  replace hB := below_then hB hb
  replace BA := BA.below hb
  replace OT := OT.below hb
  replace HA := HA.below hb
  have sw3 : Hid (w2.heap.size ≤ w3.heap.size) := by have hq := hb.size; show w2.heap.size ≤ w3.heap.size; omega
  clear hb
  clear OT
  have TA := BA
  obtain ⟨qA0, qA1⟩ := TA
  go_wp2_with fail
  refine (toTree_any t a cap _ HS HA).mono ?_
  rintro e w4 ⟨bx, rfl, hb, ho⟩
  clear qA0 qA1
  replace hB := below_then hB hb
  replace BA := BA.below hb
  replace HA := HA.below hb
  have sw4 : Hid (w3.heap.size ≤ w4.heap.size) := by have hq := hb.size; show w3.heap.size ≤ w4.heap.size; omega
  have OX := ho.wide (Nat.le_refl _) (Nat.le_refl _) (Nat.le_refl _)
  clear ho
  clear hb
  go_wp2_with fail
  refine (HQ.out HS _ _ (OX.at.below (below_new _ _))).mono ?_
  rintro e w5 ⟨rfl, hb⟩
  replace hB := below_then hB (below_then (below_new _ _) hb)
  replace BA := (BA.alloc _).below hb
  have BX := (Box2.new w4 (.int .i64 t.root) (.slice (some ⟨bx, 0, none⟩) t.n t.n) 29).below hb
  replace OX := (OX.below (below_new _ _)).below hb
  replace HA := (HA.below (below_new _ _)).below hb
  have sw5 : Hid (w4.heap.size < w5.heap.size) := by have hq := hb.size; simp at hq; show w4.heap.size < w5.heap.size; omega
  clear hb
  have TX := BX
  obtain ⟨qX0, qX1⟩ := TX
  have TA := BA
  obtain ⟨qA0, qA1⟩ := TA
  go_wp2_with fail
  have hb0 : Below w5.heap.size w5 w5.drew := (Below.refl _ _).drew
  go_region_held3 (fun w' => Below w5.heap.size w5 w' ∧ w'.cell? ⟨w4.heap.size, 0, none⟩ = some (.int .i64 t.root) ∧ w'.cell? ⟨w4.heap.size, 1, none⟩ = some (.slice (some ⟨bx, 0, none⟩) t.n t.n) ∧ w'.cell? ⟨w.heap.size, 0, none⟩ = some (.int .i64 t.root) ∧ w'.cell? ⟨w.heap.size, 1, none⟩ = some (.slice a t.n cap)) (go_keep)
    (first | (go_at_call 13; refine (toTree_any t a cap _ HS (HA.below (by simp [*]))).mono ?_; rintro e wq ⟨bq, rfl, hbq, hoq⟩; have hU := below_then (w := w5) (by simp [*]) hbq; have hU0 := cell_below (B := w4.heap.size) (o := 0) (v := .int .i64 t.root) (by simp [*]) hbq; have hU1 := cell_below (B := w4.heap.size) (o := 1) (v := .slice (some ⟨bx, 0, none⟩) t.n t.n) (by simp [*]) hbq; have hU2 := cell_below (B := w.heap.size) (o := 0) (v := .int .i64 t.root) (by simp [*]) hbq; have hU3 := cell_below (B := w.heap.size) (o := 1) (v := .slice a t.n cap) (by simp [*]) hbq) | (go_at_call 15; refine (eqTree_same t _ _ t.n t.n _ HS (OX.at.below (by simp [*])) hoq.at).mono ?_; rintro e w6 ⟨rfl, hbz⟩; have hS := below_then (w := w5) (by simp [*]) hbz; have hS0 := cell_below (B := w4.heap.size) (o := 0) (v := .int .i64 t.root) (by simp [*]) hbz; have hS1 := cell_below (B := w4.heap.size) (o := 1) (v := .slice (some ⟨bx, 0, none⟩) t.n t.n) (by simp [*]) hbz; have hS2 := cell_below (B := w.heap.size) (o := 0) (v := .int .i64 t.root) (by simp [*]) hbz; have hS3 := cell_below (B := w.heap.size) (o := 1) (v := .slice a t.n cap) (by simp [*]) hbz))
  go_wp2
  go_ret
  exact ⟨rfl, below_then hB hS⟩
theorem hasKeyLaw (t : Tr) (a : Option Addr) (cap : Nat) (key : Int) (w : World) (hn : t.n ≤ 9223372036854775807) (hL : ∀ i, i < t.n → (t.T i).kn ≤ 9223372036854775807 ∧ (t.T i).dn ≤ 9223372036854775807) (HA0 : NdsAt w a t.n t.T) :
    Calls Try.prog 4 #[.agg #[.int .i64 t.root, .slice a t.n cap], .int .i64 key] w fun e w' => e = .returned (.bool true) ∧ Below w.heap.size w w' :=
  hasKeyLaw_small t a cap key w hn hL HA0 (hkB t key) (fun hs a w h => specHk_any t key a t.n w hs h) (fun hs a w h => implHk_any t key a t.n w hs h)
end Go.Proofs.Ytbnehgpefjbheaa
