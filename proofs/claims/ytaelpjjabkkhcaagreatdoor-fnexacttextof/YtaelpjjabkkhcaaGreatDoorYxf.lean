/- FnExactTextOf: the walk of the law. -/
import Derived.Test.YtaelpjjabkkhcaaGreatDoorYxd
import Derived.Test.YtaelpjjabkkhcaaGreatDoorYxe
import Derived.Test.YtaelpjjabkkhcaaGreatDoorYic
namespace Go.Proofs.YtaelpjjabkkhcaaGreatDoor
open Go.RowKit Go.Deep
set_option linter.unusedVariables false
set_option maxRecDepth 20000

set_option maxHeartbeats 8000000 in
theorem textOfLaw_small (E : En) (a a' : Option Addr) (cap cap' : Nat) (w : World) (hn : E.p ≤ 9223372036854775807) (hL : ∀ i, i < E.p → (E.T i).n ≤ 9223372036854775807) (hm : E.q ≤ 9223372036854775807) (hM : ∀ i, i < E.q → (E.R i).n ≤ 9223372036854775807) (HA0 : EngAt w a a' E) (hPw : PowAt w) (c : Int) (s : ByteArray)
    (HP : Hid (SmallE E → ∀ (a a' : Option Addr) (w : World), EngAt w a a' E → Calls Tryz.prog 5 #[.agg #[.int .i64 E.nx, .int .i64 E.ck, .slice a E.p E.p, .slice a' E.q E.q]] w (fun e w' => e = .returned (.agg #[.int .i64 c, .string s]) ∧ Below w.heap.size w w')))
    (HQ : Hid (SmallE E → ∀ (a a' : Option Addr) (w : World), EngAt w a a' E → PowAt w → Calls Tryz.prog 7 #[.agg #[.int .i64 E.nx, .int .i64 E.ck, .slice a E.p E.p, .slice a' E.q E.q]] w (fun e w' => e = .returned (.agg #[.int .i64 c, .string s]) ∧ Below w.heap.size w w'))) :
    Calls Tryz.prog 3 #[.agg #[.int .i64 E.nx, .int .i64 E.ck, .slice a E.p cap, .slice a' E.q cap']] w fun e w' => e = .returned (.bool true) ∧ Below w.heap.size w w' := by
  have HPW : Hid (PowAt w) := hPw
  clear hPw
  go_enter Tryz.func3, Tryz.ntmps3
  go_wp2_with fail
  refine (szEngine_any E a a' cap cap' _ hn hL hm hM (HA0.below (below_new _ _))).mono ?_
  rintro e w1 ⟨hb, r, rfl, hr⟩
  have hB : Below w.heap.size w w1 := below_then (below_new _ _) hb
  rcases hr with rfl | ⟨hr0, hr1⟩
  · go_wp2_with fail
    go_ret
    exact ⟨rfl, hB⟩
  have HS : SmallE E := smallE_of (by omega)
  have BA := (Box4.new w (.int .i64 E.nx) (.int .i64 E.ck) (.slice a E.p cap) (.slice a' E.q cap') 25).below hb
  have HA := HA0.below hB
  have sw1 : Hid (w.heap.size < w1.heap.size) := by have hq := hb.size; simp at hq; show w.heap.size < w1.heap.size; omega
  have hneg : ¬ (r < 0) := by omega
  clear hb hr0 hr1 hn hm hL hM
  have TA := BA
  obtain ⟨qA0, qA1, qA2, qA3⟩ := TA
  go_wp2_with fail
  refine (toEngine_any E a a' cap cap' _ HS HA).mono ?_
  rintro e w2 ⟨b1, b2, rfl, hb, ho⟩
  clear qA0 qA1 qA2 qA3
  replace hB := below_then hB hb
  replace BA := BA.below hb
  replace HA := HA.below hb
  have sw2 : Hid (w1.heap.size ≤ w2.heap.size) := by have hq := hb.size; show w1.heap.size ≤ w2.heap.size; omega
  have OT := ho.wide (Nat.le_refl _) (Nat.le_refl _) (Nat.le_refl _)
  clear ho
  clear hb
  go_wp2_with fail
  refine (HP.out HS _ _ _ OT.at).mono ?_
  rintro e w3 ⟨rfl, hb⟩
  replace hB := below_then hB hb
  replace BA := BA.below hb
  replace HA := HA.below hb
  have sw3 : Hid (w2.heap.size ≤ w3.heap.size) := by have hq := hb.size; show w2.heap.size ≤ w3.heap.size; omega
  clear hb
  clear OT
  have BS := Box2.new w3 (.int .i64 c) (.string s) 28
  replace hB := hB.alloc hB.size (.cells #[.int .i64 c, .string s] 28)
  replace BA := BA.alloc (.cells #[.int .i64 c, .string s] 28)
  replace HA := HA.below (below_new w3 (.cells #[.int .i64 c, .string s] 28))
  go_upto_region 6 with fail
  obtain ⟨B3, hB3⟩ : ∃ B, B = w3.heap.size := ⟨_, rfl⟩
  have sw3b : Hid (B3 < (w3.alloc (.cells #[.int .i64 c, .string s] 28)).heap.size ∧ w.heap.size < (w3.alloc (.cells #[.int .i64 c, .string s] 28)).heap.size) := by
    have h1 := sw1.out; have h2 := sw2.out; have h3 := sw3.out
    show _ ∧ _
    simp only [World.size_alloc]
    omega
  rw [← hB3] at BS ⊢
  generalize (w3.alloc (.cells #[.int .i64 c, .string s] 28)) = w3b at *
  clear hB3 sw1 sw2 sw3
  have TA := BA
  obtain ⟨qA0, qA1, qA2, qA3⟩ := TA
  go_wp2_with fail
  refine (toEngine_any E a a' cap cap' _ HS HA).mono ?_
  rintro e w4 ⟨bx, bx2, rfl, hb, ho⟩
  clear qA0 qA1 qA2 qA3
  replace hB := below_then hB hb
  replace BA := BA.below hb
  replace BS := BS.below hb
  replace HA := HA.below hb
  have sw4 : Hid (B3 < w4.heap.size ∧ w.heap.size < w4.heap.size) := by have hq := hb.size; have h1 := sw3b.out; show _ ∧ _; omega
  have OX := ho.wide (Nat.le_refl _) (Nat.le_refl _) (Nat.le_refl _)
  clear ho
  clear hb
  go_wp2_with fail
  refine (HQ.out HS _ _ _ (OX.at.below (below_new _ _)) (HPW.out.below (hB.alloc hB.size _))).mono ?_
  rintro e w5 ⟨rfl, hb⟩
  replace hB := below_then hB (below_then (below_new _ _) hb)
  replace BA := (BA.alloc _).below hb
  replace BS := (BS.alloc _).below hb
  have BX := (Box4.new w4 (.int .i64 E.nx) (.int .i64 E.ck) (.slice (some ⟨bx, 0, none⟩) E.p E.p) (.slice (some ⟨bx2, 0, none⟩) E.q E.q) 33).below hb
  replace OX := (OX.below (below_new _ _)).below hb
  replace HA := (HA.below (below_new _ _)).below hb
  have sw5 : Hid (B3 < w5.heap.size ∧ w.heap.size < w5.heap.size ∧ w4.heap.size < w5.heap.size) := by have hq := hb.size; have h1 := sw4.out; simp at hq; show _ ∧ _ ∧ _; omega
  clear hb
  have BG := Box2.new w5 (.int .i64 c) (.string s) 28
  replace hB := hB.alloc hB.size (.cells #[.int .i64 c, .string s] 28)
  replace BA := BA.alloc (.cells #[.int .i64 c, .string s] 28)
  replace BS := BS.alloc (.cells #[.int .i64 c, .string s] 28)
  replace BX := BX.alloc (.cells #[.int .i64 c, .string s] 28)
  replace OX := OX.below (below_new w5 (.cells #[.int .i64 c, .string s] 28))
  replace HA := HA.below (below_new w5 (.cells #[.int .i64 c, .string s] 28))
  go_upto_region 8 with fail
  obtain ⟨B5, hB5⟩ : ∃ B, B = w5.heap.size := ⟨_, rfl⟩
  rw [← hB5] at BG ⊢
  generalize (w5.alloc (.cells #[.int .i64 c, .string s] 28)) = w6 at *
  clear hB5
  obtain ⟨s0, s1⟩ := BS
  obtain ⟨g0, g1⟩ := BG
  go_wp2_with fail
  refine (eqTextResult_same c s _).mono ?_
  rintro e w7 ⟨rfl, hb⟩
  replace hB := below_then hB hb
  replace BA := BA.below hb
  replace BX := BX.below hb
  replace OX := OX.below hb
  replace HA := HA.below hb
  clear hb s0 s1 g0 g1 sw5 sw4 sw3b
  obtain ⟨BB, hBB⟩ : ∃ B, B = w4.heap.size := ⟨_, rfl⟩
  rw [← hBB] at BX ⊢
  clear hBB
  have TX := BX
  obtain ⟨qX0, qX1, qX2, qX3⟩ := TX
  have TA := BA
  obtain ⟨qA0, qA1, qA2, qA3⟩ := TA
  go_wp2_with fail
  have hb0 : Below w7.heap.size w7 w7.drew := (Below.refl _ _).drew
  go_region_held3 (fun w' => Below w7.heap.size w7 w' ∧ w'.cell? ⟨BB, 0, none⟩ = some (.int .i64 E.nx) ∧ w'.cell? ⟨BB, 1, none⟩ = some (.int .i64 E.ck) ∧ w'.cell? ⟨BB, 2, none⟩ = some (.slice (some ⟨bx, 0, none⟩) E.p E.p) ∧ w'.cell? ⟨BB, 3, none⟩ = some (.slice (some ⟨bx2, 0, none⟩) E.q E.q) ∧ w'.cell? ⟨w.heap.size, 0, none⟩ = some (.int .i64 E.nx) ∧ w'.cell? ⟨w.heap.size, 1, none⟩ = some (.int .i64 E.ck) ∧ w'.cell? ⟨w.heap.size, 2, none⟩ = some (.slice a E.p cap) ∧ w'.cell? ⟨w.heap.size, 3, none⟩ = some (.slice a' E.q cap')) (go_keep)
    (first | (go_at_call 6; refine (toEngine_any E a a' cap cap' _ HS (HA.below (by simp [*]))).mono ?_; rintro e wq ⟨bq, bq2, rfl, hbq, hoq⟩; have hU := below_then (w := w7) (by simp [*]) hbq; have hU0 := cell_below (B := BB) (o := 0) (v := .int .i64 E.nx) (by simp [*]) hbq; have hU1 := cell_below (B := BB) (o := 1) (v := .int .i64 E.ck) (by simp [*]) hbq; have hU2 := cell_below (B := BB) (o := 2) (v := .slice (some ⟨bx, 0, none⟩) E.p E.p) (by simp [*]) hbq; have hU3 := cell_below (B := BB) (o := 3) (v := .slice (some ⟨bx2, 0, none⟩) E.q E.q) (by simp [*]) hbq; have hU4 := cell_below (B := w.heap.size) (o := 0) (v := .int .i64 E.nx) (by simp [*]) hbq; have hU5 := cell_below (B := w.heap.size) (o := 1) (v := .int .i64 E.ck) (by simp [*]) hbq; have hU6 := cell_below (B := w.heap.size) (o := 2) (v := .slice a E.p cap) (by simp [*]) hbq; have hU7 := cell_below (B := w.heap.size) (o := 3) (v := .slice a' E.q cap') (by simp [*]) hbq) | (go_at_call 9; refine (eqEngine_same E _ _ _ _ E.p E.q E.p E.q _ HS (OX.at.below (by simp [*])) hoq.at).mono ?_; rintro e w8 ⟨rfl, hbz⟩; have hS := below_then (w := w7) (by simp [*]) hbz; have hS0 := cell_below (B := BB) (o := 0) (v := .int .i64 E.nx) (by simp [*]) hbz; have hS1 := cell_below (B := BB) (o := 1) (v := .int .i64 E.ck) (by simp [*]) hbz; have hS2 := cell_below (B := BB) (o := 2) (v := .slice (some ⟨bx, 0, none⟩) E.p E.p) (by simp [*]) hbz; have hS3 := cell_below (B := BB) (o := 3) (v := .slice (some ⟨bx2, 0, none⟩) E.q E.q) (by simp [*]) hbz; have hS4 := cell_below (B := w.heap.size) (o := 0) (v := .int .i64 E.nx) (by simp [*]) hbz; have hS5 := cell_below (B := w.heap.size) (o := 1) (v := .int .i64 E.ck) (by simp [*]) hbz; have hS6 := cell_below (B := w.heap.size) (o := 2) (v := .slice a E.p cap) (by simp [*]) hbz; have hS7 := cell_below (B := w.heap.size) (o := 3) (v := .slice a' E.q cap') (by simp [*]) hbz))
  go_wp2
  go_ret
  exact ⟨rfl, below_then hB hS⟩
theorem textOfLaw (E : En) (a a' : Option Addr) (cap cap' : Nat) (w : World) (hn : E.p ≤ 9223372036854775807) (hL : ∀ i, i < E.p → (E.T i).n ≤ 9223372036854775807) (hm : E.q ≤ 9223372036854775807) (hM : ∀ i, i < E.q → (E.R i).n ≤ 9223372036854775807) (HA0 : EngAt w a a' E) (hP : PowAt w) :
    Calls Tryz.prog 3 #[.agg #[.int .i64 E.nx, .int .i64 E.ck, .slice a E.p cap, .slice a' E.q cap']] w fun e w' => e = .returned (.bool true) ∧ Below w.heap.size w w' :=
  textOfLaw_small E a a' cap cap' w hn hL hm hM HA0 hP (eF E) (tE E) (fun hs a a' w h => specTe_any E a E.p a' E.q w hs h) (fun hs a a' w h hp => implTe_any E a E.p a' E.q w hs h hp)
end Go.Proofs.YtaelpjjabkkhcaaGreatDoor
