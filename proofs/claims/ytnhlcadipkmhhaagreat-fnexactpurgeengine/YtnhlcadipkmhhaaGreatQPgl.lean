/- PurgeEngine: both sides. -/
import Derived.Test.YtnhlcadipkmhhaaGreatQPgk
import Derived.Test.YtnhlcadipkmhhaaGreatQPgc
import Derived.Test.YtnhlcadipkmhhaaGreatQPgf
import Derived.Test.YtnhlcadipkmhhaaGreatQNb
namespace Go.Proofs.YtnhlcadipkmhhaaGreat
open Go.RowKit Go.Deep
set_option linter.unusedVariables false
set_option linter.unusedSimpArgs false
set_option maxRecDepth 20000

set_option maxHeartbeats 16000000 in
theorem implPe_any (E : En) (a : Option Addr) (cap : Nat) (a' : Option Addr) (cap' : Nat) (w : World) (hs : SmallE E) (h : EngAt w a a' E) :
    Calls Tryz.prog 14 #[.agg #[.int .i64 E.nx, .int .i64 E.ck, .slice a E.p cap, .slice a' E.q cap']] w (ERes2 (eF E) (peV E) (peE E) w) := by
  have HXA : Hid (EngAt w a a' E) := h
  have HS : Hid (SmallE E) := hs
  clear h hs
  have HBX : Hid (∀ o1 o2 : Obj, o1 = .cells #[.int .i64 E.nx, .int .i64 E.ck, .slice a E.p cap, .slice a' E.q cap'] 31 → o2 = .cells #[.int .i64 0, .int .i64 0, .int .i64 0, .int .i64 0, .slice none 0 0, .slice none 0 0] 35 →
      Box4 ((w.alloc o1).alloc o2) w.heap.size (.int .i64 E.nx) (.int .i64 E.ck) (.slice a E.p cap) (.slice a' E.q cap') ∧ Box6 ((w.alloc o1).alloc o2) (w.heap.size + 1) (.int .i64 0) (.int .i64 0) (.int .i64 0) (.int .i64 0) (.slice none 0 0) (.slice none 0 0) ∧ (∀ i, ((w.alloc o1).alloc o2).frozen? ⟨w.heap.size + 1, i, none⟩ = false) ∧ Below w.heap.size w ((w.alloc o1).alloc o2) ∧ ((w.alloc o1).alloc o2).heap.size = w.heap.size + 2) := by
    rintro o1 o2 rfl rfl
    exact ⟨(Box4.new w _ _ _ _ _).alloc _, by simp [Box6, go_sem], fun i => by simp [go_sem], ((Below.refl _ _).alloc (Nat.le_refl _) _).alloc (by simp) _, by simp⟩
  go_enter Tryz.func14, Tryz.ntmps14
  go_wp2_with fail
  obtain ⟨hb4, hb2, hbf, hbw, hbs⟩ := HBX.out _ _ rfl rfl
  refine (implEf_any E a cap a' cap' _ HS.out (HXA.out.below hbw)).mono ?_
  rintro e W ⟨rfl, hb1⟩
  have HB4 : Hid (Box4 W w.heap.size (.int .i64 E.nx) (.int .i64 E.ck) (.slice a E.p cap) (.slice a' E.q cap')) := hb4.below hb1
  have HR6 : Hid (Box6 W (w.heap.size + 1) (.int .i64 0) (.int .i64 0) (.int .i64 0) (.int .i64 0) (.slice none 0 0) (.slice none 0 0)) := hb2.below hb1
  have HRF : Hid (∀ i, W.frozen? ⟨w.heap.size + 1, i, none⟩ = false) := fun i => ((bcell2 hb1).2 _ _ (by rw [hbs]; omega)).trans (hbf i)
  have HBW : Hid (Below w.heap.size w W) := below_then hbw hb1
  have hs1 : w.heap.size + 2 ≤ W.heap.size := by have := hb1.size; rw [hbs] at this; exact this
  clear hb1 hb4 hb2 hbf hbw hbs HBX
  by_cases hc : eF E = 0
  case neg =>
    have hc2 : (eF E != 0) = true := by simp [hc]
    have HF : Hid (∀ w7, Below w.heap.size w w7 → ERes2 (eF E) (peV E) (peE E) w (.returned (.agg #[.int .i64 (eF E), .int .i64 0, .int .i64 0, .int .i64 0, .slice none 0 0, .slice none 0 0])) w7) := fun w7 hb => by
      rw [(pe_bad hc).1, (pe_bad hc).2]; exact eres_bad2 hb
    obtain ⟨r0, r1, r2, r3, r4, r5⟩ := HR6.out
    have rf := HRF.out
    clear hc
    generalize eF E = uu at *
    go_wp2_with fail
    refine bodyPost_ret (v := .agg #[.int .i64 uu, .int .i64 0, .int .i64 0, .int .i64 0, .slice none 0 0, .slice none 0 0]) (by simp [results, Tryz.results14, go_sem, *]) rfl ?_
    refine HF.out _ ?_
    repeat (first | with_reducible exact HBW.out | with_reducible refine Below.setCell ?_ (by first | omega | (simp <;> omega)) _)
  have HEX : Hid (EngAt W a a' E) := HXA.out.below HBW.out
  have hq32 := (eF_pq hc).2
  have hp20 := (eF_pq hc).1
  have HR12 : Hid (∀ i, i < E.q → (E.R i).n ≤ 12) := rows12 hc
  have HHC : Hid (eF E = 0) := hc
  obtain ⟨hpp, hpq, -, hpr⟩ := pg_few hc
  have HPR : Hid (∀ i, i < (pgE E).q → ((pgE E).R i).n ≤ 12) := hpr
  have hV1 := vsN_le hq32 HR12.out
  have hV2 := vsN_le hpq hpr
  obtain ⟨b0, b1, b2, b3⟩ := HB4.out
  rw [hc]
  clear hc hpr
  go_wp2_with fail
  refine (purged_any E a cap a' cap' _ HHC.out HEX.out).mono ?_
  rintro e w2 ⟨pa, pc, pa', pc', rfl, hb2, hOE⟩
  have hs2 := hb2.size
  have HOE0 : Hid (OwnE2 w2 W.heap.size w2.heap.size pa pa' (pgE E)) := hOE
  have HB40 : Hid (Box4 w2 w.heap.size (.int .i64 E.nx) (.int .i64 E.ck) (.slice a E.p cap) (.slice a' E.q cap')) := HB4.out.below hb2
  have HR60 : Hid (Box6 w2 (w.heap.size + 1) (.int .i64 0) (.int .i64 0) (.int .i64 0) (.int .i64 0) (.slice none 0 0) (.slice none 0 0)) := HR6.out.below hb2
  have HRF0 : Hid (∀ i, w2.frozen? ⟨w.heap.size + 1, i, none⟩ = false) := fun i => ((bcell2 hb2).2 _ _ (by omega)).trans (HRF.out i)
  have HB20 : Hid (Below w.heap.size w w2) := below_then HBW.out hb2
  clear hOE hb2 b0 b1 b2 b3
  go_upto_region 5 with fail
  obtain ⟨W3, hW3⟩ : ∃ x, x = w2.alloc (.cells #[.int .i64 E.nx, .int .i64 E.ck, .slice pa (pgE E).p pc, .slice pa' (pgE E).q pc'] 31) := ⟨_, rfl⟩
  have hb3 : Below w2.heap.size w2 W3 := by rw [hW3]; exact below_new _ _
  have HBo : Hid (Box4 W3 w2.heap.size (.int .i64 E.nx) (.int .i64 E.ck) (.slice pa (pgE E).p pc) (.slice pa' (pgE E).q pc')) := by rw [hW3]; exact Box4.new _ _ _ _ _ _
  rw [← hW3]
  clear hW3
  have hz3 := hb3.size
  have HB3 : Hid (Below w.heap.size w W3) := below_then HB20.out hb3
  have HOE : Hid (OwnE2 W3 W.heap.size w2.heap.size pa pa' (pgE E)) := HOE0.out.below hb3
  have HB4r : Hid (Box4 W3 w.heap.size (.int .i64 E.nx) (.int .i64 E.ck) (.slice a E.p cap) (.slice a' E.q cap')) := HB40.out.below hb3
  have HEXr : Hid (EngAt W3 a a' E) := HXA.out.below HB3.out
  obtain ⟨p0, p1, p2, p3⟩ := HB4r.out
  obtain ⟨q0, q1, q2, q3⟩ := HBo.out
  have HR6r : Hid (Box6 W3 (w.heap.size + 1) (.int .i64 0) (.int .i64 0) (.int .i64 0) (.int .i64 0) (.slice none 0 0) (.slice none 0 0)) := HR60.out.below hb3
  have HRFr : Hid (∀ i, W3.frozen? ⟨w.heap.size + 1, i, none⟩ = false) := fun i => ((bcell2 hb3).2 _ _ (by omega)).trans (HRF0.out i)
  clear hb3 HOE0 HB40 HR60 HRF0 HB20
  have hw1 : IntKind.i64.wrap (vsN E - vsN (pgE E)) = (vsN E - vsN (pgE E)) := by rw [IntKind.wrap_i64]; omega
  have hw2 : IntKind.i64.wrap ((E.q : Int) - ((pgE E).q : Int)) = ((E.q : Int) - ((pgE E).q : Int)) := by rw [IntKind.wrap_i64]; omega
  have hw3 : IntKind.i64.wrap ((E.p : Int) - ((pgE E).p : Int)) = ((E.p : Int) - ((pgE E).p : Int)) := by rw [IntKind.wrap_i64]; omega
  refine wp_region_E 7 (S := fun u => Below W3.heap.size W3 u) (by kernel_rfl) ((Below.refl _ _).drew) (fun hS => ?_)
  obtain ⟨u0, hu0⟩ : ∃ y, y = W3.drew := ⟨_, rfl⟩
  rw [← hu0] at hS ⊢
  clear hu0
  refine wpAnyE_takeD (L := 7) (i := 0) (v := .agg #[.int .i64 E.nx, .int .i64 E.ck, .slice a E.p cap, .slice a' E.q cap']) (some 13) rfl rfl (by kernel_rfl) (by kernel_rfl) (by kernel_rfl) (by kernel_rfl) (fun _ _ _ h => h) (Or.inl ⟨by kernel_rfl, by intro u hSu; have gp0 := cell_below p0 hSu; have gp1 := cell_below p1 hSu; have gp2 := cell_below p2 hSu; have gp3 := cell_below p3 hSu; go_simp⟩) hS ?_
  try simp only [Act.put, List.setIfInBounds_toArray, List.set_cons_zero, List.set_cons_succ]
  refine wpAnyE_takeD (L := 7) (i := 2) (v := .agg #[.int .i64 E.nx, .int .i64 E.ck, .slice pa (pgE E).p pc, .slice pa' (pgE E).q pc']) (some 15) rfl rfl (by kernel_rfl) (by kernel_rfl) (by kernel_rfl) (by kernel_rfl) (fun _ _ _ h => h) (Or.inl ⟨by kernel_rfl, by intro u hSu; have gq0 := cell_below q0 hSu; have gq1 := cell_below q1 hSu; have gq2 := cell_below q2 hSu; have gq3 := cell_below q3 hSu; go_simp⟩) hS ?_
  try simp only [Act.put, List.setIfInBounds_toArray, List.set_cons_zero, List.set_cons_succ]
  refine wpAnyE_takeD (L := 7) (i := 5) (v := .agg #[.int .i64 E.nx, .int .i64 E.ck, .slice pa (pgE E).p pc, .slice pa' (pgE E).q pc']) (some 18) rfl rfl (by kernel_rfl) (by kernel_rfl) (by kernel_rfl) (by kernel_rfl) (fun _ _ _ h => h) (Or.inl ⟨by kernel_rfl, by intro u hSu; have gq0 := cell_below q0 hSu; have gq1 := cell_below q1 hSu; have gq2 := cell_below q2 hSu; have gq3 := cell_below q3 hSu; go_simp⟩) hS ?_
  try simp only [Act.put, List.setIfInBounds_toArray, List.set_cons_zero, List.set_cons_succ]
  refine wpAnyE_ready (rs := [1]) (by kernel_rfl) (by simp) ?_
  refine AllReadyE.cons rfl (fun K9 hK => ?_) AllReadyE.nil
  go_simp
  refine (countVersions_any E a cap a' cap' _ hq32 HR12.out (HEXr.out.below hS)).mono ?_
  rintro e u1 ⟨rfl, hbu⟩
  refine hK.out _ _ (below_then hS hbu) (fun hS9 => ?_)
  try simp only [Act.put, List.setIfInBounds_toArray, List.set_cons_zero, List.set_cons_succ]
  clear hK K9 hS hbu
  have hS := hS9
  clear hS9
  refine wpAnyE_ready (rs := [3]) (by kernel_rfl) (by simp) ?_
  refine AllReadyE.cons rfl (fun K9 hK => ?_) AllReadyE.nil
  go_simp
  refine (countVersions_any (pgE E) pa pc pa' pc' _ hpq HPR.out (HOE.out.at.below hS)).mono ?_
  rintro e u1 ⟨rfl, hbu⟩
  refine hK.out _ _ (below_then hS hbu) (fun hS9 => ?_)
  try simp only [Act.put, List.setIfInBounds_toArray, List.set_cons_zero, List.set_cons_succ]
  clear hK K9 hS hbu
  have hS := hS9
  clear hS9
  refine wpAnyE_takeD (L := 7) (i := 4) (v := .int .i64 (vsN E - vsN (pgE E))) (some 17) rfl rfl (by kernel_rfl) (by kernel_rfl) (by kernel_rfl) (by kernel_rfl) (fun _ _ _ h => h) (Or.inl ⟨by kernel_rfl, by intro u hSu; go_simp⟩) hS ?_
  try simp only [Act.put, List.setIfInBounds_toArray, List.set_cons_zero, List.set_cons_succ]
  refine wpAnyE_takeD (L := 7) (i := 6) (v := .agg #[.int .i64 0, .int .i64 (vsN E - vsN (pgE E)), .int .i64 E.nx, .int .i64 E.ck, .slice pa (pgE E).p pc, .slice pa' (pgE E).q pc']) (some 19) rfl rfl (by kernel_rfl) (by kernel_rfl) (by kernel_rfl) (by kernel_rfl) (fun _ _ _ h => h) (Or.inl ⟨by kernel_rfl, by intro u hSu; go_simp⟩) hS ?_
  try simp only [Act.put, List.setIfInBounds_toArray, List.set_cons_zero, List.set_cons_succ]
  have HBU : Hid (Below W3.heap.size W3 u1) := hS
  obtain ⟨r0, r1, r2, r3, r4, r5⟩ := HR6r.out.below hS
  have rf : ∀ i, u1.frozen? ⟨w.heap.size + 1, i, none⟩ = false := fun i => ((bcell2 hS).2 _ _ (by omega)).trans (HRFr.out i)
  have HF : Hid (∀ u9, Writes (w.heap.size + 1) (w.heap.size + 2) u1 u9 → u9.heap.size = u1.heap.size → ERes2 (eF E) (peV E) (peE E) w (.returned (.agg #[.int .i64 0, .int .i64 (vsN E - vsN (pgE E)), .int .i64 E.nx, .int .i64 E.ck, .slice pa (pgE E).p pc, .slice pa' (pgE E).q pc'])) u9) := fun u9 g9 z9 => by
    rw [HHC.out, (pe_ok HHC.out).1, (pe_ok HHC.out).2]
    exact ⟨pa, pc, pa', pc', rfl, Writes.below (below_then HB3.out HBU.out) g9 (by omega), ((HOE.out.below HBU.out).writes g9 (.inr hs1)).wide (by omega) (by have := HBU.out.size; omega) (Nat.le_refl _)⟩
  refine wpAnyE_ready (rs := [7]) (by kernel_rfl) (by simp) ?_
  refine AllReadyE.last rfl (fun K9 hK => ?_)
  go_simp
  refine hK.out _ _ ?_
  clear hK K9 hS p0 p1 p2 p3 q0 q1 q2 q3
  refine wpAnyE_done (by kernel_rfl) ?_ _
  go_simp
  go_wp2_with fail
  refine bodyPost_ret (v := .agg #[.int .i64 0, .int .i64 (vsN E - vsN (pgE E)), .int .i64 E.nx, .int .i64 E.ck, .slice pa (pgE E).p pc, .slice pa' (pgE E).q pc']) (by simp [results, Tryz.results14, go_sem, *]) rfl ?_
  refine HF.out _ ?_ (by simp [World.setCell])
  repeat (first | with_reducible exact Writes.refl _ _ _ | with_reducible refine Writes.setCell ?_ (by first | omega | (simp <;> omega)) (by first | omega | (simp <;> omega)) _)
set_option maxHeartbeats 16000000 in
theorem specPe_any (E : En) (a : Option Addr) (cap : Nat) (a' : Option Addr) (cap' : Nat) (w : World) (hs : SmallE E) (h : EngAt w a a' E) :
    Calls Tryz.prog 13 #[.agg #[.int .i64 E.nx, .int .i64 E.ck, .slice a E.p cap, .slice a' E.q cap']] w (ERes2 (eF E) (peV E) (peE E) w) := by
  have HXA : Hid (EngAt w a a' E) := h
  have HS : Hid (SmallE E) := hs
  clear h hs
  have HBX : Hid (∀ o1 o2 : Obj, o1 = .cells #[.int .i64 E.nx, .int .i64 E.ck, .slice a E.p cap, .slice a' E.q cap'] 31 → o2 = .cells #[.int .i64 0, .int .i64 0, .int .i64 0, .int .i64 0, .slice none 0 0, .slice none 0 0] 35 →
      Box4 ((w.alloc o1).alloc o2) w.heap.size (.int .i64 E.nx) (.int .i64 E.ck) (.slice a E.p cap) (.slice a' E.q cap') ∧ Box6 ((w.alloc o1).alloc o2) (w.heap.size + 1) (.int .i64 0) (.int .i64 0) (.int .i64 0) (.int .i64 0) (.slice none 0 0) (.slice none 0 0) ∧ (∀ i, ((w.alloc o1).alloc o2).frozen? ⟨w.heap.size + 1, i, none⟩ = false) ∧ Below w.heap.size w ((w.alloc o1).alloc o2) ∧ ((w.alloc o1).alloc o2).heap.size = w.heap.size + 2) := by
    rintro o1 o2 rfl rfl
    exact ⟨(Box4.new w _ _ _ _ _).alloc _, by simp [Box6, go_sem], fun i => by simp [go_sem], ((Below.refl _ _).alloc (Nat.le_refl _) _).alloc (by simp) _, by simp⟩
  go_enter Tryz.func13, Tryz.ntmps13
  go_wp2_with fail
  obtain ⟨hb4, hb2, hbf, hbw, hbs⟩ := HBX.out _ _ rfl rfl
  refine (l6Fault_any E w.heap.size a cap a' cap' _ HS.out ⟨hb4, HXA.out.below hbw⟩).mono ?_
  rintro e W ⟨rfl, hb1⟩
  have HB4 : Hid (Box4 W w.heap.size (.int .i64 E.nx) (.int .i64 E.ck) (.slice a E.p cap) (.slice a' E.q cap')) := hb4.below hb1
  have HR6 : Hid (Box6 W (w.heap.size + 1) (.int .i64 0) (.int .i64 0) (.int .i64 0) (.int .i64 0) (.slice none 0 0) (.slice none 0 0)) := hb2.below hb1
  have HRF : Hid (∀ i, W.frozen? ⟨w.heap.size + 1, i, none⟩ = false) := fun i => ((bcell2 hb1).2 _ _ (by rw [hbs]; omega)).trans (hbf i)
  have HBW : Hid (Below w.heap.size w W) := below_then hbw hb1
  have hs1 : w.heap.size + 2 ≤ W.heap.size := by have := hb1.size; rw [hbs] at this; exact this
  clear hb1 hb4 hb2 hbf hbw hbs HBX
  by_cases hc : eF E = 0
  case neg =>
    have hc2 : (eF E != 0) = true := by simp [hc]
    have HF : Hid (∀ w7, Below w.heap.size w w7 → ERes2 (eF E) (peV E) (peE E) w (.returned (.agg #[.int .i64 (eF E), .int .i64 0, .int .i64 0, .int .i64 0, .slice none 0 0, .slice none 0 0])) w7) := fun w7 hb => by
      rw [(pe_bad hc).1, (pe_bad hc).2]; exact eres_bad2 hb
    clear hc
    generalize eF E = uu at *
    go_wp2_with fail
    refine (l6Bad_any uu _).mono ?_
    rintro e w9 ⟨rfl, hb9⟩
    have HB9 : Hid (Below w.heap.size w w9) := below_then HBW.out hb9
    obtain ⟨r0, r1, r2, r3, r4, r5⟩ := HR6.out.below hb9
    have rf : ∀ i, w9.frozen? ⟨w.heap.size + 1, i, none⟩ = false := fun i => ((bcell2 hb9).2 _ _ (by omega)).trans (HRF.out i)
    clear hb9
    go_wp2_with fail
    refine bodyPost_ret (v := .agg #[.int .i64 uu, .int .i64 0, .int .i64 0, .int .i64 0, .slice none 0 0, .slice none 0 0]) (by simp [results, Tryz.results13, go_sem, *]) rfl ?_
    refine HF.out _ ?_
    repeat (first | with_reducible exact HB9.out | with_reducible refine Below.setCell ?_ (by first | omega | (simp <;> omega)) _)
  have HEX : Hid (EngAt W a a' E) := HXA.out.below HBW.out
  have hq32 := (eF_pq hc).2
  have hp20 := (eF_pq hc).1
  have HR12 : Hid (∀ i, i < E.q → (E.R i).n ≤ 12) := rows12 hc
  have HHC : Hid (eF E = 0) := hc
  obtain ⟨hpp, hpq, -, hpr⟩ := pg_few hc
  have HPR : Hid (∀ i, i < (pgE E).q → ((pgE E).R i).n ≤ 12) := hpr
  have hV1 := vsN_le hq32 HR12.out
  have hV2 := vsN_le hpq hpr
  obtain ⟨b0, b1, b2, b3⟩ := HB4.out
  rw [hc]
  clear hc hpr
  go_wp2_with fail
  refine (l7Purge_any E w.heap.size a cap a' cap' _ HHC.out ⟨HB4.out, HEX.out⟩).mono ?_
  rintro e w2 ⟨pa, pc, pa', pc', rfl, hb2, hOE⟩
  have hs2 := hb2.size
  have HOE0 : Hid (OwnE2 w2 W.heap.size w2.heap.size pa pa' (pgE E)) := hOE
  have HB40 : Hid (Box4 w2 w.heap.size (.int .i64 E.nx) (.int .i64 E.ck) (.slice a E.p cap) (.slice a' E.q cap')) := HB4.out.below hb2
  have HR60 : Hid (Box6 w2 (w.heap.size + 1) (.int .i64 0) (.int .i64 0) (.int .i64 0) (.int .i64 0) (.slice none 0 0) (.slice none 0 0)) := HR6.out.below hb2
  have HRF0 : Hid (∀ i, w2.frozen? ⟨w.heap.size + 1, i, none⟩ = false) := fun i => ((bcell2 hb2).2 _ _ (by omega)).trans (HRF.out i)
  have HB20 : Hid (Below w.heap.size w w2) := below_then HBW.out hb2
  clear hOE hb2 b0 b1 b2 b3
  go_upto_region 5 with fail
  obtain ⟨W3, hW3⟩ : ∃ x, x = w2.alloc (.cells #[.int .i64 E.nx, .int .i64 E.ck, .slice pa (pgE E).p pc, .slice pa' (pgE E).q pc'] 31) := ⟨_, rfl⟩
  have hb3 : Below w2.heap.size w2 W3 := by rw [hW3]; exact below_new _ _
  have HBo : Hid (Box4 W3 w2.heap.size (.int .i64 E.nx) (.int .i64 E.ck) (.slice pa (pgE E).p pc) (.slice pa' (pgE E).q pc')) := by rw [hW3]; exact Box4.new _ _ _ _ _ _
  rw [← hW3]
  clear hW3
  have hz3 := hb3.size
  have HB3 : Hid (Below w.heap.size w W3) := below_then HB20.out hb3
  have HOE : Hid (OwnE2 W3 W.heap.size w2.heap.size pa pa' (pgE E)) := HOE0.out.below hb3
  have HB4r : Hid (Box4 W3 w.heap.size (.int .i64 E.nx) (.int .i64 E.ck) (.slice a E.p cap) (.slice a' E.q cap')) := HB40.out.below hb3
  have HEXr : Hid (EngAt W3 a a' E) := HXA.out.below HB3.out
  obtain ⟨p0, p1, p2, p3⟩ := HB4r.out
  obtain ⟨q0, q1, q2, q3⟩ := HBo.out
  have HR6r : Hid (Box6 W3 (w.heap.size + 1) (.int .i64 0) (.int .i64 0) (.int .i64 0) (.int .i64 0) (.slice none 0 0) (.slice none 0 0)) := HR60.out.below hb3
  have HRFr : Hid (∀ i, W3.frozen? ⟨w.heap.size + 1, i, none⟩ = false) := fun i => ((bcell2 hb3).2 _ _ (by omega)).trans (HRF0.out i)
  clear hb3 HOE0 HB40 HR60 HRF0 HB20
  have hw1 : IntKind.i64.wrap (vsN E - vsN (pgE E)) = (vsN E - vsN (pgE E)) := by rw [IntKind.wrap_i64]; omega
  have hw2 : IntKind.i64.wrap ((E.q : Int) - ((pgE E).q : Int)) = ((E.q : Int) - ((pgE E).q : Int)) := by rw [IntKind.wrap_i64]; omega
  have hw3 : IntKind.i64.wrap ((E.p : Int) - ((pgE E).p : Int)) = ((E.p : Int) - ((pgE E).p : Int)) := by rw [IntKind.wrap_i64]; omega
  refine wp_region_E 5 (S := fun u => Below W3.heap.size W3 u) (by kernel_rfl) ((Below.refl _ _).drew) (fun hS => ?_)
  obtain ⟨u0, hu0⟩ : ∃ y, y = W3.drew := ⟨_, rfl⟩
  rw [← hu0] at hS ⊢
  clear hu0
  refine wpAnyE_takeD (L := 5) (i := 3) (v := .agg #[.int .i64 E.nx, .int .i64 E.ck, .slice pa (pgE E).p pc, .slice pa' (pgE E).q pc']) (some 14) rfl rfl (by kernel_rfl) (by kernel_rfl) (by kernel_rfl) (by kernel_rfl) (fun _ _ _ h => h) (Or.inl ⟨by kernel_rfl, by intro u hSu; have gq0 := cell_below q0 hSu; have gq1 := cell_below q1 hSu; have gq2 := cell_below q2 hSu; have gq3 := cell_below q3 hSu; go_simp⟩) hS ?_
  try simp only [Act.put, List.setIfInBounds_toArray, List.set_cons_zero, List.set_cons_succ]
  refine wpAnyE_ready (rs := [0]) (by kernel_rfl) (by simp) ?_
  refine AllReadyE.cons rfl (fun K9 hK => ?_) AllReadyE.nil
  go_simp
  refine (l7Versions_any E w.heap.size a cap a' cap' _ hq32 HR12.out ((show EBox W3 w.heap.size a cap a' cap' E from ⟨HB4r.out, HEXr.out⟩).below hS)).mono ?_
  rintro e u1 ⟨rfl, hbu⟩
  refine hK.out _ _ (below_then hS hbu) (fun hS9 => ?_)
  try simp only [Act.put, List.setIfInBounds_toArray, List.set_cons_zero, List.set_cons_succ]
  clear hK K9 hS hbu
  have hS := hS9
  clear hS9
  refine wpAnyE_ready (rs := [1]) (by kernel_rfl) (by simp) ?_
  refine AllReadyE.cons rfl (fun K9 hK => ?_) AllReadyE.nil
  go_simp
  refine (l7Versions_any (pgE E) w2.heap.size pa pc pa' pc' _ hpq HPR.out ((show EBox W3 w2.heap.size pa pc pa' pc' (pgE E) from ⟨HBo.out, HOE.out.at⟩).below hS)).mono ?_
  rintro e u1 ⟨rfl, hbu⟩
  refine hK.out _ _ (below_then hS hbu) (fun hS9 => ?_)
  try simp only [Act.put, List.setIfInBounds_toArray, List.set_cons_zero, List.set_cons_succ]
  clear hK K9 hS hbu
  have hS := hS9
  clear hS9
  refine wpAnyE_takeD (L := 5) (i := 2) (v := .int .i64 (vsN E - vsN (pgE E))) (some 13) rfl rfl (by kernel_rfl) (by kernel_rfl) (by kernel_rfl) (by kernel_rfl) (fun _ _ _ h => h) (Or.inl ⟨by kernel_rfl, by intro u hSu; go_simp⟩) hS ?_
  try simp only [Act.put, List.setIfInBounds_toArray, List.set_cons_zero, List.set_cons_succ]
  refine wpAnyE_takeD (L := 5) (i := 4) (v := .agg #[.int .i64 0, .int .i64 (vsN E - vsN (pgE E)), .int .i64 E.nx, .int .i64 E.ck, .slice pa (pgE E).p pc, .slice pa' (pgE E).q pc']) (some 15) rfl rfl (by kernel_rfl) (by kernel_rfl) (by kernel_rfl) (by kernel_rfl) (fun _ _ _ h => h) (Or.inl ⟨by kernel_rfl, by intro u hSu; go_simp⟩) hS ?_
  try simp only [Act.put, List.setIfInBounds_toArray, List.set_cons_zero, List.set_cons_succ]
  have HBU : Hid (Below W3.heap.size W3 u1) := hS
  obtain ⟨r0, r1, r2, r3, r4, r5⟩ := HR6r.out.below hS
  have rf : ∀ i, u1.frozen? ⟨w.heap.size + 1, i, none⟩ = false := fun i => ((bcell2 hS).2 _ _ (by omega)).trans (HRFr.out i)
  have HF : Hid (∀ u9, Writes (w.heap.size + 1) (w.heap.size + 2) u1 u9 → u9.heap.size = u1.heap.size → ERes2 (eF E) (peV E) (peE E) w (.returned (.agg #[.int .i64 0, .int .i64 (vsN E - vsN (pgE E)), .int .i64 E.nx, .int .i64 E.ck, .slice pa (pgE E).p pc, .slice pa' (pgE E).q pc'])) u9) := fun u9 g9 z9 => by
    rw [HHC.out, (pe_ok HHC.out).1, (pe_ok HHC.out).2]
    exact ⟨pa, pc, pa', pc', rfl, Writes.below (below_then HB3.out HBU.out) g9 (by omega), ((HOE.out.below HBU.out).writes g9 (.inr hs1)).wide (by omega) (by have := HBU.out.size; omega) (Nat.le_refl _)⟩
  refine wpAnyE_ready (rs := [5]) (by kernel_rfl) (by simp) ?_
  refine AllReadyE.last rfl (fun K9 hK => ?_)
  go_simp
  refine hK.out _ _ ?_
  clear hK K9 hS p0 p1 p2 p3 q0 q1 q2 q3
  refine wpAnyE_done (by kernel_rfl) ?_ _
  go_simp
  go_wp2_with fail
  refine bodyPost_ret (v := .agg #[.int .i64 0, .int .i64 (vsN E - vsN (pgE E)), .int .i64 E.nx, .int .i64 E.ck, .slice pa (pgE E).p pc, .slice pa' (pgE E).q pc']) (by simp [results, Tryz.results13, go_sem, *]) rfl ?_
  refine HF.out _ ?_ (by simp [World.setCell])
  repeat (first | with_reducible exact Writes.refl _ _ _ | with_reducible refine Writes.setCell ?_ (by first | omega | (simp <;> omega)) (by first | omega | (simp <;> omega)) _)
end Go.Proofs.YtnhlcadipkmhhaaGreat
