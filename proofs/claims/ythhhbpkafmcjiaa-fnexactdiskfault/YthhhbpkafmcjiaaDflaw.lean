/- FnExactDiskFault: the walk of the law. -/
import Derived.Test.YthhhbpkafmcjiaaDg
namespace Go.Proofs.Ythhhbpkafmcjiaa
open Go.RowKit Go.Deep
set_option linter.unusedVariables false
set_option maxRecDepth 20000

set_option maxHeartbeats 2000000 in
theorem diskFaultLaw (D : Dk) (a a' : Option Addr) (cap cap' : Nat) (w : World) (hn : D.n ≤ 9223372036854775807) (hL : ∀ i, i < D.n → D.L i ≤ 9223372036854775807) (hm : D.m ≤ 9223372036854775807) (hM : ∀ i, i < D.m → D.M i ≤ 9223372036854775807) (HA0 : DiskAt w a a' D) :
    Calls Try.prog 7 #[.agg #[.slice a D.n cap, .slice a' D.m cap']] w fun e w' => e = .returned (.bool true) ∧ Below w.heap.size w w' := by
  go_enter Try.func7, Try.ntmps7
  go_wp2_with fail
  refine (szDisk_any D.n D.m D.L D.Z D.P D.T D.M D.Y a a' cap cap' _ hn hL hm hM (HA0.1.below (below_new _ _)) (HA0.2.below (below_new _ _))).mono ?_
  rintro e w1 ⟨hb, r, rfl, hr⟩
  have hB : Below w.heap.size w w1 := below_then (below_new _ _) hb
  rcases hr with rfl | ⟨hr0, hr1⟩
  · go_wp2_with fail
    go_ret
    exact ⟨rfl, hB⟩
  have HS : Small D := small_of (by omega)
  have BA := (Box2.new w (.slice a D.n cap) (.slice a' D.m cap') 62).below hb
  have HA := HA0.below hB
  have sw1 : Hid (w.heap.size < w1.heap.size) := by have hq := hb.size; simp at hq; show w.heap.size < w1.heap.size; omega
  have hneg : ¬ (r < 0) := by omega
  clear hb hr0 hr1 hn hm hL hM
  have TA := BA
  obtain ⟨qA0, qA1⟩ := TA
  go_wp2_with fail
  refine (toDisk_any D a a' cap cap' _ HS HA).mono ?_
  rintro e w2 ⟨b1, b2, rfl, hb, ho⟩
  clear qA0 qA1
  replace hB := below_then hB hb
  replace BA := BA.below hb
  replace HA := HA.below hb
  have sw2 : Hid (w1.heap.size ≤ w2.heap.size) := by have hq := hb.size; show w1.heap.size ≤ w2.heap.size; omega
  clear hb
  go_wp2_with fail
  refine (specDf_any D _ _ D.n D.m _ HS ho.at).mono ?_
  rintro e w3 ⟨rfl, hb⟩
  replace hB := below_then hB hb
  replace BA := BA.below hb
  replace HA := HA.below hb
  have sw3 : Hid (w2.heap.size ≤ w3.heap.size) := by have hq := hb.size; show w2.heap.size ≤ w3.heap.size; omega
  clear ho
  clear hb
  have TA := BA
  obtain ⟨qA0, qA1⟩ := TA
  go_wp2_with fail
  refine (toDisk_any D a a' cap cap' _ HS HA).mono ?_
  rintro e w4 ⟨bx, bv, rfl, hb, ho⟩
  clear qA0 qA1
  replace hB := below_then hB hb
  replace BA := BA.below hb
  replace HA := HA.below hb
  have sw4 : Hid (w3.heap.size ≤ w4.heap.size) := by have hq := hb.size; show w3.heap.size ≤ w4.heap.size; omega
  have OX := ho.wide (Nat.le_refl _) (Nat.le_refl _) (Nat.le_refl _)
  clear ho
  clear hb
  go_wp2_with fail
  refine (implDf_any D _ _ D.n D.m _ HS (OX.at.below (below_new _ _))).mono ?_
  rintro e w5 ⟨rfl, hb⟩
  replace hB := below_then hB (below_then (below_new _ _) hb)
  replace BA := (BA.alloc _).below hb
  have BX := (Box2.new w4 (.slice (some ⟨bx, 0, none⟩) D.n D.n) (.slice (some ⟨bv, 0, none⟩) D.m D.m) 40).below hb
  replace OX := (OX.below (below_new _ _)).below hb
  replace HA := (HA.below (below_new _ _)).below hb
  have sw5 : Hid (w4.heap.size < w5.heap.size) := by have hq := hb.size; simp at hq; show w4.heap.size < w5.heap.size; omega
  clear hb
  have TX := BX
  obtain ⟨qX0, qX1⟩ := TX
  have TA := BA
  obtain ⟨qA0, qA1⟩ := TA
  go_wp2_with fail
  have hb0 : Below w5.heap.size w5 w5.drew := (Below.refl _ _).drew
  go_region_held3 (fun w' => Below w5.heap.size w5 w' ∧ w'.cell? ⟨w4.heap.size, 0, none⟩ = some (.slice (some ⟨bx, 0, none⟩) D.n D.n) ∧ w'.cell? ⟨w4.heap.size, 1, none⟩ = some (.slice (some ⟨bv, 0, none⟩) D.m D.m) ∧ w'.cell? ⟨w.heap.size, 0, none⟩ = some (.slice a D.n cap) ∧ w'.cell? ⟨w.heap.size, 1, none⟩ = some (.slice a' D.m cap')) (go_keep)
    (first | (go_at_call 42; refine (toDisk_any D a a' cap cap' _ HS (HA.below (by simp [*]))).mono ?_; rintro e wq ⟨bq, bq', rfl, hbq, hoq⟩; have hS := below_then (w := w5) (by simp [*]) hbq; have hS0 := cell_below (B := w4.heap.size) (o := 0) (v := .slice (some ⟨bx, 0, none⟩) D.n D.n) (by simp [*]) hbq; have hS1 := cell_below (B := w4.heap.size) (o := 1) (v := .slice (some ⟨bv, 0, none⟩) D.m D.m) (by simp [*]) hbq; have hS2 := cell_below (B := w.heap.size) (o := 0) (v := .slice a D.n cap) (by simp [*]) hbq; have hS3 := cell_below (B := w.heap.size) (o := 1) (v := .slice a' D.m cap') (by simp [*]) hbq) | (go_at_call 43; refine (eqDisk_same D _ _ _ _ D.n D.m D.n D.m _ HS (OX.at.below (by simp [*])) hoq.at).mono ?_; rintro e wz ⟨rfl, hbz⟩; have hS := below_then (w := w5) (by simp [*]) hbz; have hS0 := cell_below (B := w4.heap.size) (o := 0) (v := .slice (some ⟨bx, 0, none⟩) D.n D.n) (by simp [*]) hbz; have hS1 := cell_below (B := w4.heap.size) (o := 1) (v := .slice (some ⟨bv, 0, none⟩) D.m D.m) (by simp [*]) hbz; have hS2 := cell_below (B := w.heap.size) (o := 0) (v := .slice a D.n cap) (by simp [*]) hbz; have hS3 := cell_below (B := w.heap.size) (o := 1) (v := .slice a' D.m cap') (by simp [*]) hbz))
  go_wp2
  go_ret
  exact ⟨rfl, below_then hB hS⟩
end Go.Proofs.Ythhhbpkafmcjiaa
