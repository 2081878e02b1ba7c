/- FnExactLogFault: the walk of the law. -/
import Derived.Test.YtdanabecpmhjhaaLh
import Derived.Test.YtdanabecpmhjhaaLi
namespace Go.Proofs.Ytdanabecpmhjhaa
open Go.RowKit Go.Deep
set_option linter.unusedVariables false
set_option maxRecDepth 20000

set_option maxHeartbeats 8000000 in
theorem logFaultLaw_small (L : Lo) (a1 a2 : Option Addr) (c1 c2 : Nat) (w : World) (hn1 : L.n1 ≤ 9223372036854775807) (hn2 : L.n2 ≤ 9223372036854775807) (HA0 : LogAt w a1 a2 L) (c : Int) 
    (HP : Hid (L.n1 ≤ 1048576 → L.n2 ≤ 1048576 → ∀ (a1 a2 : Option Addr) (w : World), LogAt w a1 a2 L → Calls Try.prog 20 #[.agg #[.slice a1 L.n1 L.n1, .slice a2 L.n2 L.n2]] w fun e w' => e = .returned (.int .i64 c) ∧ Below w.heap.size w w'))
    (HQ : Hid (L.n1 ≤ 1048576 → L.n2 ≤ 1048576 → ∀ (a1 a2 : Option Addr) (w : World), LogAt w a1 a2 L → Calls Try.prog 22 #[.agg #[.slice a1 L.n1 L.n1, .slice a2 L.n2 L.n2]] w fun e w' => e = .returned (.int .i64 c) ∧ Below w.heap.size w w')) :
    Calls Try.prog 4 #[.agg #[.slice a1 L.n1 c1, .slice a2 L.n2 c2]] w fun e w' => e = .returned (.bool true) ∧ Below w.heap.size w w' := by
  go_enter Try.func4, Try.ntmps4
  go_wp2_with fail
  refine (szLog_any L a1 a2 c1 c2 _ hn1 hn2).mono ?_
  rintro e w1 ⟨hb, r, rfl, hr⟩
  have hB : Below w.heap.size w w1 := below_then (below_new _ _) hb
  rcases hr with rfl | ⟨hr0, hr1⟩
  · go_wp2_with fail
    go_ret
    exact ⟨rfl, hB⟩
  have hs1 : L.n1 ≤ 1048576 := by omega
  have hs2 : L.n2 ≤ 1048576 := by omega
  have HS : Hid (L.n1 ≤ 1048576 ∧ L.n2 ≤ 1048576) := ⟨hs1, hs2⟩
  have BA := (Box2.new w (.slice a1 L.n1 c1) (.slice a2 L.n2 c2) 34).below hb
  have HA := HA0.below hB
  have sw1 : Hid (w.heap.size < w1.heap.size) := by have hq := hb.size; simp at hq; show w.heap.size < w1.heap.size; omega
  have hneg : ¬ (r < 0) := by omega
  clear hb hr0 hr1 hn1 hn2
  have hneg2 : ¬ ((1 : Int) + ((L.n1 + L.n2 : Nat) : Int) < 0) := by omega
  have TA := BA
  obtain ⟨qA0, qA1⟩ := TA
  go_wp2_with fail
  refine (toLog_any L a1 a2 c1 c2 _ HS.out.1 HS.out.2 HA).mono ?_
  rintro e w2 ⟨b1, b2, rfl, hb, ho⟩
  clear qA0 qA1
  replace hB := below_then hB hb
  replace BA := BA.below hb
  replace HA := HA.below hb
  have sw2 : Hid (w1.heap.size ≤ w2.heap.size) := by have hq := hb.size; show w1.heap.size ≤ w2.heap.size; omega
  have OT := ho.wide (Nat.le_refl _) (Nat.le_refl _) (Nat.le_refl _)
  clear ho
  clear hb
  go_wp2_with fail
  refine (HP.out HS.out.1 HS.out.2 _ _ _ OT.at).mono ?_
  rintro e w3 ⟨rfl, hb⟩
  replace hB := below_then hB hb
  replace BA := BA.below hb
  replace OT := OT.below hb
  replace HA := HA.below hb
  have sw3 : Hid (w2.heap.size ≤ w3.heap.size) := by have hq := hb.size; show w2.heap.size ≤ w3.heap.size; omega
  clear hb
  clear OT
  have TA := BA
  obtain ⟨qA0, qA1⟩ := TA
  go_wp2_with fail
  refine (toLog_any L a1 a2 c1 c2 _ HS.out.1 HS.out.2 HA).mono ?_
  rintro e w4 ⟨bx, bx2, rfl, hb, ho⟩
  clear qA0 qA1
  replace hB := below_then hB hb
  replace BA := BA.below hb
  replace HA := HA.below hb
  have sw4 : Hid (w3.heap.size ≤ w4.heap.size) := by have hq := hb.size; show w3.heap.size ≤ w4.heap.size; omega
  have OX := ho.wide (Nat.le_refl _) (Nat.le_refl _) (Nat.le_refl _)
  clear ho
  clear hb
  go_wp2_with fail
  refine (HQ.out HS.out.1 HS.out.2 _ _ _ (OX.at.below (below_new _ _))).mono ?_
  rintro e w5 ⟨rfl, hb⟩
  replace hB := below_then hB (below_then (below_new _ _) hb)
  replace BA := (BA.alloc _).below hb
  have BX := (Box2.new w4 (.slice (some ⟨bx, 0, none⟩) L.n1 L.n1) (.slice (some ⟨bx2, 0, none⟩) L.n2 L.n2) 37).below hb
  replace OX := (OX.below (below_new _ _)).below hb
  replace HA := (HA.below (below_new _ _)).below hb
  have sw5 : Hid (w4.heap.size < w5.heap.size) := by have hq := hb.size; simp at hq; show w4.heap.size < w5.heap.size; omega
  clear hb
  have TX := BX
  obtain ⟨qX0, qX1⟩ := TX
  have TA := BA
  obtain ⟨qA0, qA1⟩ := TA
  go_wp2_with fail
  have hb0 : Below w5.heap.size w5 w5.drew := (Below.refl _ _).drew
  go_region_held3 (fun w' => Below w5.heap.size w5 w' ∧ w'.cell? ⟨w4.heap.size, 0, none⟩ = some (.slice (some ⟨bx, 0, none⟩) L.n1 L.n1) ∧ w'.cell? ⟨w4.heap.size, 1, none⟩ = some (.slice (some ⟨bx2, 0, none⟩) L.n2 L.n2) ∧ w'.cell? ⟨w.heap.size, 0, none⟩ = some (.slice a1 L.n1 c1) ∧ w'.cell? ⟨w.heap.size, 1, none⟩ = some (.slice a2 L.n2 c2)) (go_keep)
    (first | (go_at_call 21; refine (toLog_any L a1 a2 c1 c2 _ HS.out.1 HS.out.2 (HA.below (by simp [*]))).mono ?_; rintro e wq ⟨bq, bq2, rfl, hbq, hoq⟩; have hU := below_then (w := w5) (by simp [*]) hbq; have hU0 := cell_below (B := w4.heap.size) (o := 0) (v := .slice (some ⟨bx, 0, none⟩) L.n1 L.n1) (by simp [*]) hbq; have hU1 := cell_below (B := w4.heap.size) (o := 1) (v := .slice (some ⟨bx2, 0, none⟩) L.n2 L.n2) (by simp [*]) hbq; have hU2 := cell_below (B := w.heap.size) (o := 0) (v := .slice a1 L.n1 c1) (by simp [*]) hbq; have hU3 := cell_below (B := w.heap.size) (o := 1) (v := .slice a2 L.n2 c2) (by simp [*]) hbq) | (go_at_call 23; refine (eqLog_same L _ _ _ _ L.n1 L.n2 L.n1 L.n2 _ HS.out.1 HS.out.2 (OX.at.below (by simp [*])) hoq.at).mono ?_; rintro e w6 ⟨rfl, hbz⟩; have hS := below_then (w := w5) (by simp [*]) hbz; have hS0 := cell_below (B := w4.heap.size) (o := 0) (v := .slice (some ⟨bx, 0, none⟩) L.n1 L.n1) (by simp [*]) hbz; have hS1 := cell_below (B := w4.heap.size) (o := 1) (v := .slice (some ⟨bx2, 0, none⟩) L.n2 L.n2) (by simp [*]) hbz; have hS2 := cell_below (B := w.heap.size) (o := 0) (v := .slice a1 L.n1 c1) (by simp [*]) hbz; have hS3 := cell_below (B := w.heap.size) (o := 1) (v := .slice a2 L.n2 c2) (by simp [*]) hbz))
  clear qX0 qX1 qA0 qA1
  clear hb0 hU hU0 hU1 hU2 hU3 hS0 hS1 hS2 hS3 hbq hoq hbz
  replace hB := below_then hB hS
  replace BA := BA.below hS
  replace BX := BX.below hS
  replace OX := OX.below hS
  replace HA := HA.below hS
  have sw6 : Hid (w5.heap.size ≤ w6.heap.size) := by have hq := hS.size; show w5.heap.size ≤ w6.heap.size; omega
  clear hS
  go_wp2_with fail
  go_ret
  exact ⟨rfl, hB⟩
theorem logFaultLaw (L : Lo) (a1 a2 : Option Addr) (c1 c2 : Nat) (w : World) (hn1 : L.n1 ≤ 9223372036854775807) (hn2 : L.n2 ≤ 9223372036854775807) (hby : LogByt L) (HA0 : LogAt w a1 a2 L) :
    Calls Try.prog 4 #[.agg #[.slice a1 L.n1 c1, .slice a2 L.n2 c2]] w fun e w' => e = .returned (.bool true) ∧ Below w.heap.size w w' :=
  logFaultLaw_small L a1 a2 c1 c2 w hn1 hn2 HA0 (lgC L) (fun h1 h2 a1 a2 w h => specLf_any L a1 a2 L.n1 L.n2 w h1 h2 hby h) (fun h1 h2 a1 a2 w h => implLf_any L a1 a2 L.n1 L.n2 w h1 h2 hby h)
end Go.Proofs.Ytdanabecpmhjhaa
