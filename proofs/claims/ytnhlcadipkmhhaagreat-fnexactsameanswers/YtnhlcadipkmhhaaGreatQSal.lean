/- FnExactSameAnswers: the walk of the law. -/
import Derived.Test.YtnhlcadipkmhhaaGreatQSae
import Derived.Test.YtnhlcadipkmhhaaGreatQSag
namespace Go.Proofs.YtnhlcadipkmhhaaGreat
open Go.RowKit Go.Deep
set_option linter.unusedVariables false
set_option maxRecDepth 20000

set_option maxHeartbeats 1000000 in
theorem szEngineL_any (E : En) (a a' : Option Addr) (cap cap' : Nat) (x : Int) (w : World) (hx0 : 0 ≤ x) (hx1 : x ≤ 1048576) (hn : E.p ≤ 9223372036854775807) (hL : ∀ i, i < E.p → (E.T i).n ≤ 9223372036854775807) (hm : E.q ≤ 9223372036854775807) (hL' : ∀ i, i < E.q → (E.R i).n ≤ 9223372036854775807) (h : EngAt w a a' E) :
    Calls Tryz.prog 8 #[.agg #[.int .i64 E.nx, .int .i64 E.ck, .slice a E.p cap, .slice a' E.q cap'], .int .i64 x] w fun e w' => Below w.heap.size w w' ∧ ∃ r : Int, e = .returned (.int .i64 r) ∧ (r = -1 ∨ (0 ≤ r ∧ r = x - E.p - smTx E.T E.p - E.q - smRw E.R E.q)) := by
  have HL : Hid (∀ i, i < E.p → (E.T i).n ≤ 9223372036854775807) := hL
  have HL' : Hid (∀ i, i < E.q → (E.R i).n ≤ 9223372036854775807) := hL'
  have HA : Hid (EngAt w a a' E) := h
  clear hL hL' h
  go_enter Tryz.func8, Tryz.ntmps8
  go_wp2_with fail
  refine (szTxnS_any E.p E.T a cap x _ hn HL.out hx0 hx1 (HA.out.1.below (below_new _ _))).mono ?_
  rintro e w1 ⟨hb1, r, rfl, hr⟩
  have HB1 : Hid (Below w.heap.size w w1) := below_then (below_new _ _) hb1
  have q3 : w1.cell? ⟨w.heap.size, 3, none⟩ = some (.slice a' E.q cap') := by rw [(bcell2 hb1).1 _ _ (by simp)]; simp [go_sem]
  clear hb1
  rcases hr with rfl | ⟨hr0, hr1⟩
  · go_wp2_with fail
    go_ret
    exact ⟨HB1.out, _, rfl, .inl rfl⟩
  · have hr2 : r ≤ 1048576 := by omega
    have HR : Hid (r = x - E.p - smTx E.T E.p) := hr1
    clear hr1
    have hrn : ¬ (r < 0) := by omega
    go_wp2_with fail
    refine (szRowS_any E.q E.R a' cap' r _ hm HL'.out hr0 hr2 (HA.out.2.below HB1.out)).mono ?_
    rintro e w2 ⟨hb, s, rfl, hs⟩
    have HB := below_then HB1.out hb
    rcases hs with rfl | ⟨hs0, hs1⟩
    · go_wp2_with fail
      go_ret
      exact ⟨HB, _, rfl, .inl rfl⟩
    · have HS : Hid (s = r - E.q - smRw E.R E.q) := hs1
      clear hs1
      have hsn : ¬ (s < 0) := by omega
      go_wp2_with fail
      go_ret
      exact ⟨HB, _, rfl, .inr ⟨hs0, by rw [HS.out, HR.out]⟩⟩
set_option maxHeartbeats 8000000 in
theorem sameAnswersLaw_small (E : En) (a a' : Option Addr) (cap cap' : Nat) (G : En) (b b' : Option Addr) (cbp cbp' : Nat) (w : World) (hn : E.p ≤ 9223372036854775807) (hL : ∀ i, i < E.p → (E.T i).n ≤ 9223372036854775807) (hm : E.q ≤ 9223372036854775807) (hM : ∀ i, i < E.q → (E.R i).n ≤ 9223372036854775807) (HA0 : EngAt w a a' E) (hn2 : G.p ≤ 9223372036854775807) (hL2 : ∀ i, i < G.p → (G.T i).n ≤ 9223372036854775807) (hm2 : G.q ≤ 9223372036854775807) (hM2 : ∀ i, i < G.q → (G.R i).n ≤ 9223372036854775807) (HG0 : EngAt w b b' G) (c : Bool)
    (HP : Hid (SmallE E → SmallE G → ∀ (a a' b b' : Option Addr) (w : World), EngAt w a a' E → EngAt w b b' G → Calls Tryz.prog 9 #[.agg #[.int .i64 E.nx, .int .i64 E.ck, .slice a E.p E.p, .slice a' E.q E.q], .agg #[.int .i64 G.nx, .int .i64 G.ck, .slice b G.p G.p, .slice b' G.q G.q]] w (fun e w' => e = .returned (.bool c) ∧ Below w.heap.size w w')))
    (HQ : Hid (SmallE E → SmallE G → ∀ (a a' b b' : Option Addr) (w : World), EngAt w a a' E → EngAt w b b' G → Calls Tryz.prog 11 #[.agg #[.int .i64 E.nx, .int .i64 E.ck, .slice a E.p E.p, .slice a' E.q E.q], .agg #[.int .i64 G.nx, .int .i64 G.ck, .slice b G.p G.p, .slice b' G.q G.q]] w (fun e w' => e = .returned (.bool c) ∧ Below w.heap.size w w'))) :
    Calls Tryz.prog 3 #[.agg #[.int .i64 E.nx, .int .i64 E.ck, .slice a E.p cap, .slice a' E.q cap'], .agg #[.int .i64 G.nx, .int .i64 G.ck, .slice b G.p cbp, .slice b' G.q cbp']] w fun e w' => e = .returned (.bool true) ∧ Below w.heap.size w w' := by
  have HBX : Hid (∀ o1 o2 : Obj, o1 = .cells #[.int .i64 E.nx, .int .i64 E.ck, .slice a E.p cap, .slice a' E.q cap'] 25 → o2 = .cells #[.int .i64 G.nx, .int .i64 G.ck, .slice b G.p cbp, .slice b' G.q cbp'] 25 →
      Box4 ((w.alloc o1).alloc o2) w.heap.size (.int .i64 E.nx) (.int .i64 E.ck) (.slice a E.p cap) (.slice a' E.q cap') ∧ Box4 ((w.alloc o1).alloc o2) (w.heap.size + 1) (.int .i64 G.nx) (.int .i64 G.ck) (.slice b G.p cbp) (.slice b' G.q cbp') ∧ Below w.heap.size w ((w.alloc o1).alloc o2) ∧ ((w.alloc o1).alloc o2).heap.size = w.heap.size + 2) := by
    rintro o1 o2 rfl rfl
    exact ⟨(Box4.new w _ _ _ _ _).alloc _, by simp [Box4, go_sem], ((Below.refl _ _).alloc (Nat.le_refl _) _).alloc (by simp) _, by simp⟩
  go_enter Tryz.func3, Tryz.ntmps3
  go_wp2_with fail
  obtain ⟨bA0, bC0, hb2, hz2⟩ := HBX.out _ _ rfl rfl
  refine (szEngineL_any E a a' cap cap' 1048576 _ (by omega) (by omega) hn hL hm hM (HA0.below hb2)).mono ?_
  rintro e w1 ⟨hb, r, rfl, hr⟩
  have hB : Below w.heap.size w w1 := below_then hb2 hb
  rcases hr with rfl | ⟨hr0, hr1⟩
  · go_wp2_with fail
    go_ret
    exact ⟨rfl, hB⟩
  have HS : SmallE E := smallE_of (by omega)
  have BA := bA0.below hb
  have BC := bC0.below hb
  have HA := HA0.below hB
  have HG := HG0.below hB
  have sw1 : Hid (w.heap.size + 2 ≤ w1.heap.size) := by have hq := hb.size; rw [hz2] at hq; exact hq
  have hneg : ¬ (r < 0) := by omega
  have hle : r ≤ 1048576 := by omega
  clear hb hr1 hn hm hL hM bA0 bC0 hb2 hz2 HBX
  have TC := BC
  obtain ⟨qC0, qC1, qC2, qC3⟩ := TC
  go_wp2_with fail
  refine (szEngineL_any G b b' cbp cbp' r _ hr0 hle hn2 hL2 hm2 hM2 HG).mono ?_
  rintro e w2 ⟨hb, r2, rfl, hr⟩
  clear qC0 qC1 qC2 qC3
  replace hB := below_then hB hb
  replace BA := BA.below hb
  replace BC := BC.below hb
  replace HA := HA.below hb
  replace HG := HG.below hb
  have sw2 : Hid (w1.heap.size ≤ w2.heap.size) := by have hq := hb.size; show w1.heap.size ≤ w2.heap.size; omega
  rcases hr with rfl | ⟨hr2, hr3⟩
  · go_wp2_with fail
    go_ret
    exact ⟨rfl, hB⟩
  have HS2 : SmallE G := smallE_of (by omega)
  have hneg2 : ¬ (r2 < 0) := by omega
  clear hr0 hr2 hr3 hle hn2 hm2 hL2 hM2
  clear hb
  have TA := BA
  obtain ⟨qA0, qA1, qA2, qA3⟩ := TA
  have TC := BC
  obtain ⟨qC0, qC1, qC2, qC3⟩ := TC
  go_upto_region 8 with fail
  refine wp_region_E 999 (S := fun u => Below w2.heap.size w2 u) (by kernel_rfl) ((Below.refl _ _).drew) (fun hS => ?_)
  obtain ⟨u0, hu0⟩ : ∃ y, y = w2.drew := ⟨_, rfl⟩
  rw [← hu0] at hS ⊢
  clear hu0
  refine wpAnyE_takeD (L := 999) (i := 0) (v := .agg #[.int .i64 E.nx, .int .i64 E.ck, .slice a E.p cap, .slice a' E.q cap']) (some 20) rfl rfl (by kernel_rfl) (by kernel_rfl) (by kernel_rfl) (by kernel_rfl) (fun _ _ _ h => h) (Or.inl ⟨by kernel_rfl, by intro u hSu; have gA0 := cell_below qA0 hSu; have gA1 := cell_below qA1 hSu; have gA2 := cell_below qA2 hSu; have gA3 := cell_below qA3 hSu; go_simp⟩) hS ?_
  try simp only [Act.put, List.setIfInBounds_toArray, List.set_cons_zero, List.set_cons_succ]
  refine wpAnyE_takeD (L := 999) (i := 2) (v := .agg #[.int .i64 G.nx, .int .i64 G.ck, .slice b G.p cbp, .slice b' G.q cbp']) (some 22) rfl rfl (by kernel_rfl) (by kernel_rfl) (by kernel_rfl) (by kernel_rfl) (fun _ _ _ h => h) (Or.inl ⟨by kernel_rfl, by intro u hSu; have gC0 := cell_below qC0 hSu; have gC1 := cell_below qC1 hSu; have gC2 := cell_below qC2 hSu; have gC3 := cell_below qC3 hSu; go_simp⟩) hS ?_
  try simp only [Act.put, List.setIfInBounds_toArray, List.set_cons_zero, List.set_cons_succ]
  refine wpAnyE_ready (rs := [1]) (by kernel_rfl) (by simp) ?_
  refine AllReadyE.cons rfl (fun K9 hK => ?_) AllReadyE.nil
  go_simp
  refine (toEngine_any E a a' cap cap' _ HS (HA.below hS)).mono ?_
  rintro e u1 ⟨bs, ds, rfl, hbu, hos⟩
  have OS : Hid (EngAt u1 (some ⟨bs, 0, none⟩) (some ⟨ds, 0, none⟩) E) := hos.at
  clear hos
  refine hK.out _ _ (below_then hS hbu) (fun hS9 => ?_)
  try simp only [Act.put, List.setIfInBounds_toArray, List.set_cons_zero, List.set_cons_succ]
  clear hK K9 hS hbu
  have hS := hS9
  clear hS9
  refine wpAnyE_ready (rs := [3]) (by kernel_rfl) (by simp) ?_
  refine AllReadyE.cons rfl (fun K9 hK => ?_) AllReadyE.nil
  go_simp
  refine (toEngine_any G b b' cbp cbp' _ HS2 (HG.below hS)).mono ?_
  rintro e u1 ⟨bt, dt, rfl, hbu, hot⟩
  have OT : Hid (EngAt u1 (some ⟨bt, 0, none⟩) (some ⟨dt, 0, none⟩) G) := hot.at
  replace OS : Hid (EngAt u1 (some ⟨bs, 0, none⟩) (some ⟨ds, 0, none⟩) E) := OS.out.below hbu
  clear hot
  refine hK.out _ _ (below_then hS hbu) (fun hS9 => ?_)
  try simp only [Act.put, List.setIfInBounds_toArray, List.set_cons_zero, List.set_cons_succ]
  clear hK K9 hS hbu
  have hS := hS9
  clear hS9
  refine wpAnyE_ready (rs := [4]) (by kernel_rfl) (by simp) ?_
  refine AllReadyE.cons rfl (fun K9 hK => ?_) AllReadyE.nil
  go_simp
  refine (HP.out HS HS2 _ _ _ _ _ OS.out OT.out).mono ?_
  rintro e u1 ⟨rfl, hbu⟩
  refine hK.out _ _ (below_then hS hbu) (fun hS9 => ?_)
  try simp only [Act.put, List.setIfInBounds_toArray, List.set_cons_zero, List.set_cons_succ]
  clear hK K9 hS hbu
  have hS := hS9
  clear hS9
  refine wpAnyE_takeD (L := 999) (i := 5) (v := .bool c) (some 6) rfl rfl (by kernel_rfl) (by kernel_rfl) (by kernel_rfl) (by kernel_rfl) (fun _ _ _ h => h) (Or.inl ⟨by kernel_rfl, by intro u hSu; go_simp⟩) hS ?_
  try simp only [Act.put, List.setIfInBounds_toArray, List.set_cons_zero, List.set_cons_succ]
  refine wpAnyE_done (by kernel_rfl) ?_ _
  go_simp
  clear OS OT qA0 qA1 qA2 qA3 qC0 qC1 qC2 qC3
  obtain ⟨w3, hw3⟩ : ∃ y, y = u1 := ⟨_, rfl⟩
  rw [← hw3] at hS ⊢
  clear hw3
  replace hB := below_then hB hS
  replace BA := BA.below hS
  replace BC := BC.below hS
  replace HA := HA.below hS
  replace HG := HG.below hS
  have sw3 : Hid (w2.heap.size ≤ w3.heap.size) := by have hq := hS.size; show w2.heap.size ≤ w3.heap.size; omega
  clear hS
  have TA := BA
  obtain ⟨qA0, qA1, qA2, qA3⟩ := TA
  go_wp2_with fail
  refine (toEngine_any E a a' cap cap' _ HS HA).mono ?_
  rintro e w4 ⟨bx, dx, rfl, hb, ho⟩
  clear qA0 qA1 qA2 qA3
  replace hB := below_then hB hb
  replace BA := BA.below hb
  replace BC := BC.below hb
  replace HA := HA.below hb
  replace HG := HG.below hb
  have sw4 : Hid (w3.heap.size ≤ w4.heap.size) := by have hq := hb.size; show w3.heap.size ≤ w4.heap.size; omega
  have OX := ho.wide (Nat.le_refl _) (Nat.le_refl _) (Nat.le_refl _)
  clear ho
  clear hb
  have TC := BC
  obtain ⟨qC0, qC1, qC2, qC3⟩ := TC
  have rC0 := fun o : Obj => cell_alloc qC0 o
  have rC1 := fun o : Obj => cell_alloc qC1 o
  have rC2 := fun o : Obj => cell_alloc qC2 o
  have rC3 := fun o : Obj => cell_alloc qC3 o
  go_wp2_with fail
  refine (toEngine_any G b b' cbp cbp' _ HS2 (HG.below (below_new _ _))).mono ?_
  rintro e w5 ⟨bY, dy, rfl, hb, ho⟩
  clear qC0 qC1 qC2 qC3 rC0 rC1 rC2 rC3
  replace hB := below_then hB (below_then (below_new _ _) hb)
  replace BA := (BA.alloc _).below hb
  replace BC := (BC.alloc _).below hb
  have BX := (Box4.new w4 (.int .i64 E.nx) (.int .i64 E.ck) (.slice (some ⟨bx, 0, none⟩) E.p E.p) (.slice (some ⟨dx, 0, none⟩) E.q E.q) 31).below hb
  replace OX := (OX.below (below_new _ _)).below hb
  replace HA := (HA.below (below_new _ _)).below hb
  replace HG := (HG.below (below_new _ _)).below hb
  have sw5 : Hid (w4.heap.size < w5.heap.size) := by have hq := hb.size; simp at hq; show w4.heap.size < w5.heap.size; omega
  have OY : OwnE w5 (w4.heap.size + 1) w5.heap.size _ _ G := ho.wide (by simp) (Nat.le_refl _) (Nat.le_refl _)
  clear ho
  clear hb
  have TX := BX
  obtain ⟨qX0, qX1, qX2, qX3⟩ := TX
  have rX0 := fun o : Obj => cell_alloc qX0 o
  have rX1 := fun o : Obj => cell_alloc qX1 o
  have rX2 := fun o : Obj => cell_alloc qX2 o
  have rX3 := fun o : Obj => cell_alloc qX3 o
  go_wp2_with fail
  refine (HQ.out HS HS2 _ _ _ _ _ (OX.at.below (below_new _ _)) (OY.at.below (below_new _ _))).mono ?_
  rintro e w6 ⟨rfl, hb⟩
  clear qX0 qX1 qX2 qX3 rX0 rX1 rX2 rX3
  replace hB := below_then hB (below_then (below_new _ _) hb)
  replace BA := (BA.alloc _).below hb
  replace BC := (BC.alloc _).below hb
  replace BX := (BX.alloc _).below hb
  have BY := (Box4.new w5 (.int .i64 G.nx) (.int .i64 G.ck) (.slice (some ⟨bY, 0, none⟩) G.p G.p) (.slice (some ⟨dy, 0, none⟩) G.q G.q) 31).below hb
  replace OX := (OX.below (below_new _ _)).below hb
  replace OY := (OY.below (below_new _ _)).below hb
  replace HA := (HA.below (below_new _ _)).below hb
  replace HG := (HG.below (below_new _ _)).below hb
  have sw6 : Hid (w5.heap.size < w6.heap.size) := by have hq := hb.size; simp at hq; show w5.heap.size < w6.heap.size; omega
  clear hb
  have TX := BX
  obtain ⟨qX0, qX1, qX2, qX3⟩ := TX
  have TA := BA
  obtain ⟨qA0, qA1, qA2, qA3⟩ := TA
  go_wp2_with fail
  have hb0 : Below w6.heap.size w6 w6.drew := (Below.refl _ _).drew
  go_region_held3 (fun w' => Below w6.heap.size w6 w' ∧ w'.cell? ⟨w4.heap.size, 0, none⟩ = some (.int .i64 E.nx) ∧ w'.cell? ⟨w4.heap.size, 1, none⟩ = some (.int .i64 E.ck) ∧ w'.cell? ⟨w4.heap.size, 2, none⟩ = some (.slice (some ⟨bx, 0, none⟩) E.p E.p) ∧ w'.cell? ⟨w4.heap.size, 3, none⟩ = some (.slice (some ⟨dx, 0, none⟩) E.q E.q) ∧ w'.cell? ⟨w.heap.size, 0, none⟩ = some (.int .i64 E.nx) ∧ w'.cell? ⟨w.heap.size, 1, none⟩ = some (.int .i64 E.ck) ∧ w'.cell? ⟨w.heap.size, 2, none⟩ = some (.slice a E.p cap) ∧ w'.cell? ⟨w.heap.size, 3, none⟩ = some (.slice a' E.q cap')) (go_keep)
    (first | (go_at_call 10; refine (toEngine_any E a a' cap cap' _ HS (HA.below (by simp [*]))).mono ?_; rintro e wq ⟨bq, bq2, rfl, hbq, hoq⟩; have hU := below_then (w := w6) (by simp [*]) hbq; have hU0 := cell_below (B := w4.heap.size) (o := 0) (v := .int .i64 E.nx) (by simp [*]) hbq; have hU1 := cell_below (B := w4.heap.size) (o := 1) (v := .int .i64 E.ck) (by simp [*]) hbq; have hU2 := cell_below (B := w4.heap.size) (o := 2) (v := .slice (some ⟨bx, 0, none⟩) E.p E.p) (by simp [*]) hbq; have hU3 := cell_below (B := w4.heap.size) (o := 3) (v := .slice (some ⟨dx, 0, none⟩) E.q E.q) (by simp [*]) hbq; have hU4 := cell_below (B := w.heap.size) (o := 0) (v := .int .i64 E.nx) (by simp [*]) hbq; have hU5 := cell_below (B := w.heap.size) (o := 1) (v := .int .i64 E.ck) (by simp [*]) hbq; have hU6 := cell_below (B := w.heap.size) (o := 2) (v := .slice a E.p cap) (by simp [*]) hbq; have hU7 := cell_below (B := w.heap.size) (o := 3) (v := .slice a' E.q cap') (by simp [*]) hbq) | (go_at_call 12; refine (eqEngine_same E _ _ _ _ E.p E.q E.p E.q _ HS (OX.at.below (by simp [*])) hoq.at).mono ?_; rintro e w7 ⟨rfl, hbz⟩; have hS := below_then (w := w6) (by simp [*]) hbz; have hS0 := cell_below (B := w4.heap.size) (o := 0) (v := .int .i64 E.nx) (by simp [*]) hbz; have hS1 := cell_below (B := w4.heap.size) (o := 1) (v := .int .i64 E.ck) (by simp [*]) hbz; have hS2 := cell_below (B := w4.heap.size) (o := 2) (v := .slice (some ⟨bx, 0, none⟩) E.p E.p) (by simp [*]) hbz; have hS3 := cell_below (B := w4.heap.size) (o := 3) (v := .slice (some ⟨dx, 0, none⟩) E.q E.q) (by simp [*]) hbz; have hS4 := cell_below (B := w.heap.size) (o := 0) (v := .int .i64 E.nx) (by simp [*]) hbz; have hS5 := cell_below (B := w.heap.size) (o := 1) (v := .int .i64 E.ck) (by simp [*]) hbz; have hS6 := cell_below (B := w.heap.size) (o := 2) (v := .slice a E.p cap) (by simp [*]) hbz; have hS7 := cell_below (B := w.heap.size) (o := 3) (v := .slice a' E.q cap') (by simp [*]) hbz))
  clear qX0 qX1 qX2 qX3 qA0 qA1 qA2 qA3
  clear hb0 hU hU0 hU1 hU2 hU3 hU4 hU5 hU6 hU7 hS0 hS1 hS2 hS3 hS4 hS5 hS6 hS7 hbq hoq hbz
  replace hB := below_then hB hS
  replace BA := BA.below hS
  replace BC := BC.below hS
  replace BX := BX.below hS
  replace BY := BY.below hS
  replace OX := OX.below hS
  replace OY := OY.below hS
  replace HA := HA.below hS
  replace HG := HG.below hS
  have sw7 : Hid (w6.heap.size ≤ w7.heap.size) := by have hq := hS.size; show w6.heap.size ≤ w7.heap.size; omega
  clear hS
  have TY := BY
  obtain ⟨qY0, qY1, qY2, qY3⟩ := TY
  have TC := BC
  obtain ⟨qC0, qC1, qC2, qC3⟩ := TC
  go_wp2_with fail
  have hb0 : Below w7.heap.size w7 w7.drew := (Below.refl _ _).drew
  go_region_held3 (fun w' => Below w7.heap.size w7 w' ∧ w'.cell? ⟨w5.heap.size, 0, none⟩ = some (.int .i64 G.nx) ∧ w'.cell? ⟨w5.heap.size, 1, none⟩ = some (.int .i64 G.ck) ∧ w'.cell? ⟨w5.heap.size, 2, none⟩ = some (.slice (some ⟨bY, 0, none⟩) G.p G.p) ∧ w'.cell? ⟨w5.heap.size, 3, none⟩ = some (.slice (some ⟨dy, 0, none⟩) G.q G.q) ∧ w'.cell? ⟨(w.heap.size + 1), 0, none⟩ = some (.int .i64 G.nx) ∧ w'.cell? ⟨(w.heap.size + 1), 1, none⟩ = some (.int .i64 G.ck) ∧ w'.cell? ⟨(w.heap.size + 1), 2, none⟩ = some (.slice b G.p cbp) ∧ w'.cell? ⟨(w.heap.size + 1), 3, none⟩ = some (.slice b' G.q cbp')) (go_keep)
    (first | (go_at_call 10; refine (toEngine_any G b b' cbp cbp' _ HS2 (HG.below (by simp [*]))).mono ?_; rintro e wq ⟨bq, bq2, rfl, hbq, hoq⟩; have hU := below_then (w := w7) (by simp [*]) hbq; have hU0 := cell_below (B := w5.heap.size) (o := 0) (v := .int .i64 G.nx) (by simp [*]) hbq; have hU1 := cell_below (B := w5.heap.size) (o := 1) (v := .int .i64 G.ck) (by simp [*]) hbq; have hU2 := cell_below (B := w5.heap.size) (o := 2) (v := .slice (some ⟨bY, 0, none⟩) G.p G.p) (by simp [*]) hbq; have hU3 := cell_below (B := w5.heap.size) (o := 3) (v := .slice (some ⟨dy, 0, none⟩) G.q G.q) (by simp [*]) hbq; have hU4 := cell_below (B := (w.heap.size + 1)) (o := 0) (v := .int .i64 G.nx) (by simp [*]) hbq; have hU5 := cell_below (B := (w.heap.size + 1)) (o := 1) (v := .int .i64 G.ck) (by simp [*]) hbq; have hU6 := cell_below (B := (w.heap.size + 1)) (o := 2) (v := .slice b G.p cbp) (by simp [*]) hbq; have hU7 := cell_below (B := (w.heap.size + 1)) (o := 3) (v := .slice b' G.q cbp') (by simp [*]) hbq) | (go_at_call 12; refine (eqEngine_same G _ _ _ _ G.p G.q G.p G.q _ HS2 (OY.at.below (by simp [*])) hoq.at).mono ?_; rintro e w8 ⟨rfl, hbz⟩; have hS := below_then (w := w7) (by simp [*]) hbz; have hS0 := cell_below (B := w5.heap.size) (o := 0) (v := .int .i64 G.nx) (by simp [*]) hbz; have hS1 := cell_below (B := w5.heap.size) (o := 1) (v := .int .i64 G.ck) (by simp [*]) hbz; have hS2 := cell_below (B := w5.heap.size) (o := 2) (v := .slice (some ⟨bY, 0, none⟩) G.p G.p) (by simp [*]) hbz; have hS3 := cell_below (B := w5.heap.size) (o := 3) (v := .slice (some ⟨dy, 0, none⟩) G.q G.q) (by simp [*]) hbz; have hS4 := cell_below (B := (w.heap.size + 1)) (o := 0) (v := .int .i64 G.nx) (by simp [*]) hbz; have hS5 := cell_below (B := (w.heap.size + 1)) (o := 1) (v := .int .i64 G.ck) (by simp [*]) hbz; have hS6 := cell_below (B := (w.heap.size + 1)) (o := 2) (v := .slice b G.p cbp) (by simp [*]) hbz; have hS7 := cell_below (B := (w.heap.size + 1)) (o := 3) (v := .slice b' G.q cbp') (by simp [*]) hbz))
  go_wp2
  go_ret
  exact ⟨rfl, below_then hB hS⟩
theorem sameAnswersLaw (E : En) (a a' : Option Addr) (cap cap' : Nat) (G : En) (b b' : Option Addr) (cbp cbp' : Nat) (w : World) (hn : E.p ≤ 9223372036854775807) (hL : ∀ i, i < E.p → (E.T i).n ≤ 9223372036854775807) (hm : E.q ≤ 9223372036854775807) (hM : ∀ i, i < E.q → (E.R i).n ≤ 9223372036854775807) (HA0 : EngAt w a a' E) (hn2 : G.p ≤ 9223372036854775807) (hL2 : ∀ i, i < G.p → (G.T i).n ≤ 9223372036854775807) (hm2 : G.q ≤ 9223372036854775807) (hM2 : ∀ i, i < G.q → (G.R i).n ≤ 9223372036854775807) (HG0 : EngAt w b b' G) :
    Calls Tryz.prog 3 #[.agg #[.int .i64 E.nx, .int .i64 E.ck, .slice a E.p cap, .slice a' E.q cap'], .agg #[.int .i64 G.nx, .int .i64 G.ck, .slice b G.p cbp, .slice b' G.q cbp']] w fun e w' => e = .returned (.bool true) ∧ Below w.heap.size w w' := by
  obtain ⟨c, hc⟩ := bool_of (SAP E G)
  exact sameAnswersLaw_small E a a' cap cap' G b b' cbp cbp' w hn hL hm hM HA0 hn2 hL2 hm2 hM2 HG0 c (fun h1 h2 a a' b b' w h h' => specSa_any E G a E.p a' E.q b G.p b' G.q w h1 h2 h h' c hc) (fun h1 h2 a a' b b' w h h' => implSa_any E G a E.p a' E.q b G.p b' G.q w h1 h2 h h' c hc)
end Go.Proofs.YtnhlcadipkmhhaaGreat
