/- FnCells: the walk. -/
import Derived.Test.YtnhkjdcbaphfcaaFcf
import Derived.Test.YtnhkjdcbaphfcaaDpc
namespace Go.Proofs.Ytnhkjdcbaphfcaa
open Go.RowKit Go.Deep
set_option linter.unusedVariables false
set_option linter.unusedSimpArgs false
set_option maxRecDepth 20000

theorem lwBig_any (a : Option Addr) (k cap : Nat) (w : World) : Calls Try.prog 7 #[.slice a k cap] w fun e w' => e = .returned (.bool (decide ((1048576 : Int) < (k : Int)))) ∧ w' = w := by
  go_enter Try.func7, Try.ntmps7
  go_wp2
  go_ret
  exact ⟨rfl, rfl⟩
set_option maxHeartbeats 16000000 in
theorem fnCells_small (kk : Nat) (z : Nat → Int) (a : Option Addr) (cap : Nat) (w : World) (hbig : kk ≤ 1048576) (hz : Byt kk z) (HA0 : BytesAt w a kk z) :
    Calls Try.prog 4 #[.slice a kk cap] w fun e w' => e = .returned (.bool true) ∧ Below w.heap.size w w' := by
  have HD : Hid (Calls Try.prog 15 #[.slice a kk cap] w _) := drawSc_any a kk cap z w hbig hz HA0
  have hbg : decide ((1048576 : Int) < (kk : Int)) = false := by simp; omega
  clear hz HA0
  go_enter Try.func4, Try.ntmps4
  go_wp2_with (go_at_call 7; refine (lwBig_any _ _ _ _).mono ?_; rintro e w' ⟨rfl, hw⟩; have hw1 := hw.symm; clear hw; subst hw1; rw [hbg])
  refine Calls.mono HD.out ?_
  rintro e w1 ⟨id, ls, b, off, n, rc, K, V, key, val, l2, rfl, hn13, hnc, hcells, hb1⟩
  have HB1 : Hid (Below w.heap.size w w1) := hb1
  have HC1 : Hid (CellsAt w1 (some ⟨b, off, none⟩) n K V) := hcells
  have HNC : Hid (n ≤ 13 ∧ n ≤ rc) := ⟨hn13, hnc⟩
  have BP := Box3.new w1 (.int .i64 id) (.int .i64 ls) (.slice (some ⟨b, off, none⟩) n rc) 27
  clear hb1 hcells HD hbg hnc hn13 hbig
  go_wp2_with fail
  refine (implSet_any id ls n K V b off rc key val l2 _ (by have := HNC.out.1; omega) HNC.out.2 (HC1.out.below (below_new _ _))).mono ?_
  rintro e w2 ⟨ra, rc2, rfl, hb2, ho⟩
  have HO2 : Hid (CellsAt w2 ra (if sC id ls n K V key val l2 = 0 then wi K V key val n else []).length (kOf (if sC id ls n K V key val l2 = 0 then wi K V key val n else [])) (vOf (if sC id ls n K V key val l2 = 0 then wi K V key val n else []))) := ho.at
  have HB2 : Hid (Below w.heap.size w w2) := below_then (below_then HB1.out (below_new _ _)) hb2
  have HC2 : Hid (CellsAt w2 (some ⟨b, off, none⟩) n K V) := (HC1.out.below (below_new _ _)).below hb2
  replace BP := BP.below hb2
  clear hb2 ho HB1 HC1
  have HSP : Hid (∀ u, CellsAt u (some ⟨b, off, none⟩) n K V → Calls Try.prog 17 #[.agg #[.int .i64 id, .int .i64 ls, .slice (some ⟨b, off, none⟩) n rc], .int .i64 key, .int .i64 val, .int .i64 l2] u (PResL (sC id ls n K V key val l2) id l2 (wi K V key val n) u)) := fun u h => specSet_any id ls n K V b off rc key val l2 u (by have := HNC.out.1; omega) HNC.out.2 h
  by_cases hC : sC id ls n K V key val l2 = 0
  case neg =>
    have hC2 : (sC id ls n K V key val l2 != 0) = true := by simp [hC]
    have HSQ : Hid (∀ u, CellsAt u (some ⟨b, off, none⟩) n K V → Calls Try.prog 17 #[.agg #[.int .i64 id, .int .i64 ls, .slice (some ⟨b, off, none⟩) n rc], .int .i64 key, .int .i64 val, .int .i64 l2] u fun e w' => ∃ sa sc, e = .returned (.agg #[.int .i64 (sC id ls n K V key val l2), .int .i64 0, .int .i64 0, .slice sa 0 sc]) ∧ Below u.heap.size u w') := fun u h => by
      refine (HSP.out u h).mono ?_
      rintro e w' ⟨sa, sc, rfl, hb, -⟩
      refine ⟨sa, sc, ?_, hb⟩
      simp only [if_neg hC]
      rfl
    clear HSP HO2
    generalize sC id ls n K V key val l2 = C at *
    generalize (if C = 0 then id else 0) = I1 at *
    generalize (if C = 0 then l2 else 0) = L1 at *
    generalize (if C = 0 then wi K V key val n else []).length = M1 at *
    go_upto_region 5 with fail
    obtain ⟨W3, hW3⟩ : ∃ y, y = w2.alloc (.cells #[.int .i64 C, .int .i64 I1, .int .i64 L1, .slice ra M1 rc2] 29) := ⟨_, rfl⟩
    have hb3 : Below w2.heap.size w2 W3 := by rw [hW3]; exact below_new _ _
    have A0 : W3.cell? ⟨w2.heap.size, 0, none⟩ = some (.int .i64 C) := by rw [hW3]; simp [go_sem]
    obtain ⟨B0, B1, B2⟩ := BP.below hb3
    have HB3 : Hid (Below w.heap.size w W3) := below_then HB2.out hb3
    have HC3 : Hid (CellsAt W3 (some ⟨b, off, none⟩) n K V) := HC2.out.below hb3
    rw [← hW3]
    generalize w2.heap.size = R at *
    generalize w1.heap.size = Pp at *
    clear hW3 hb3 BP HB2 HC2
    go_upto_region 6 with fail
    clear hC hC2
    refine wp_region_E 999 (S := fun u => Below W3.heap.size W3 u) (by kernel_rfl) ((Below.refl _ _).drew) (fun hS => ?_)
    obtain ⟨u0, hu0⟩ : ∃ y, y = W3.drew := ⟨_, rfl⟩
    rw [← hu0] at hS ⊢
    clear hu0
    refine wpAnyE_takeD (L := 999) (i := 0) (v := .agg #[.int .i64 id, .int .i64 ls, .slice (some ⟨b, off, none⟩) n rc]) (some 28) rfl rfl (by kernel_rfl) (by kernel_rfl) (by kernel_rfl) (by kernel_rfl) (fun _ _ _ h => h) (Or.inl ⟨by kernel_rfl, by intro u hSu; have h0 := cell_below B0 hSu; have h1 := cell_below B1 hSu; have h2 := cell_below B2 hSu; go_simp⟩) hS ?_
    try simp only [Act.put, List.setIfInBounds_toArray, List.set_cons_zero, List.set_cons_succ]
    refine wpAnyE_takeD (L := 999) (i := 1) (v := .int .i64 key) (some 29) rfl rfl (by kernel_rfl) (by kernel_rfl) (by kernel_rfl) (by kernel_rfl) (fun _ _ _ h => h) (Or.inl ⟨by kernel_rfl, by intro u hSu; go_simp⟩) hS ?_
    try simp only [Act.put, List.setIfInBounds_toArray, List.set_cons_zero, List.set_cons_succ]
    refine wpAnyE_takeD (L := 999) (i := 2) (v := .int .i64 val) (some 30) rfl rfl (by kernel_rfl) (by kernel_rfl) (by kernel_rfl) (by kernel_rfl) (fun _ _ _ h => h) (Or.inl ⟨by kernel_rfl, by intro u hSu; go_simp⟩) hS ?_
    try simp only [Act.put, List.setIfInBounds_toArray, List.set_cons_zero, List.set_cons_succ]
    refine wpAnyE_takeD (L := 999) (i := 3) (v := .int .i64 l2) (some 31) rfl rfl (by kernel_rfl) (by kernel_rfl) (by kernel_rfl) (by kernel_rfl) (fun _ _ _ h => h) (Or.inl ⟨by kernel_rfl, by intro u hSu; go_simp⟩) hS ?_
    try simp only [Act.put, List.setIfInBounds_toArray, List.set_cons_zero, List.set_cons_succ]
    refine wpAnyE_takeD (L := 999) (i := 6) (v := .pointer (some ⟨R, 0, none⟩)) (some 34) rfl rfl (by kernel_rfl) (by kernel_rfl) (by kernel_rfl) (by kernel_rfl) (fun _ _ _ h => h) (Or.inl ⟨by kernel_rfl, by intro u hSu; go_simp⟩) hS ?_
    try simp only [Act.put, List.setIfInBounds_toArray, List.set_cons_zero, List.set_cons_succ]
    refine wpAnyE_takeD (L := 999) (i := 7) (v := .int .i64 C) (some 35) rfl rfl (by kernel_rfl) (by kernel_rfl) (by kernel_rfl) (by kernel_rfl) (fun _ _ _ h => h) (Or.inl ⟨by kernel_rfl, by intro u hSu; have h0 := cell_below A0 hSu; go_simp⟩) hS ?_
    try simp only [Act.put, List.setIfInBounds_toArray, List.set_cons_zero, List.set_cons_succ]
    refine wpAnyE_ready (rs := [4]) (by kernel_rfl) (by simp) ?_
    refine AllReadyE.cons rfl (fun K9 hK => ?_) AllReadyE.nil
    go_simp
    refine (HSQ.out _ (HC3.out.below hS)).mono ?_
    rintro e u1 ⟨sa, sc, rfl, hbu⟩
    refine hK.out _ _ (below_then hS hbu) (fun hS9 => ?_)
    try simp only [Act.put, List.setIfInBounds_toArray, List.set_cons_zero, List.set_cons_succ]
    clear hK K9 hS hbu
    have hS := hS9
    clear hS9
    refine wpAnyE_takeD (L := 999) (i := 5) (v := .int .i64 C) (some 33) rfl rfl (by kernel_rfl) (by kernel_rfl) (by kernel_rfl) (by kernel_rfl) (fun _ _ _ h => h) (Or.inl ⟨by kernel_rfl, by intro u hSu; have hf : (Instr.field 29 (.agg #[.int .i64 C, .int .i64 0, .int .i64 0, .slice sa 0 sc]) 0).run Try.prog u = .ok (.int .i64 C) u := (by kernel_rfl); go_simp⟩) hS ?_
    try simp only [Act.put, List.setIfInBounds_toArray, List.set_cons_zero, List.set_cons_succ]
    refine wpAnyE_takeD (L := 999) (i := 8) (v := .bool (C == C)) (some 36) rfl rfl (by kernel_rfl) (by kernel_rfl) (by kernel_rfl) (by kernel_rfl) (fun _ _ _ h => h) (Or.inl ⟨by kernel_rfl, by intro u hSu; go_simp⟩) hS ?_
    try simp only [Act.put, List.setIfInBounds_toArray, List.set_cons_zero, List.set_cons_succ]
    refine wpAnyE_takeD (L := 999) (i := 9) (v := .bool (C == C)) (some 2) rfl rfl (by kernel_rfl) (by kernel_rfl) (by kernel_rfl) (by kernel_rfl) (fun _ _ _ h => h) (Or.inl ⟨by kernel_rfl, by intro u hSu; go_simp⟩) hS ?_
    try simp only [Act.put, List.setIfInBounds_toArray, List.set_cons_zero, List.set_cons_succ]
    refine wpAnyE_done (by kernel_rfl) ?_ _
    go_simp
    go_wp2_with fail
    go_ret
    exact ⟨ret_bool (by simp), below_then HB3.out hS⟩
  clear HSP
  simp only [if_pos hC] at *
  rw [hC]
  obtain ⟨L, hL⟩ : ∃ L, L = wi K V key val n := ⟨_, rfl⟩
  rw [← hL] at HO2 ⊢
  obtain ⟨M, hM⟩ : ∃ M, M = wo (kOf L) (vOf L) key L.length := ⟨_, rfl⟩
  obtain ⟨f1, f2, f3, f4, f5, f6, f7⟩ := fc_facts hC hL hM
  have HPF : Hid (∀ u, CellsAt u ra L.length (kOf L) (vOf L) → Calls Try.prog 19 #[.agg #[.int .i64 id, .int .i64 l2, .slice ra L.length rc2]] u fun e w' => e = .returned (.int .i64 0) ∧ Below u.heap.size u w') := fun u h => by have := implFault_any id l2 L.length (kOf L) (vOf L) ra rc2 u (by omega) h; rw [f1] at this; exact this
  have HCO : Hid (∀ u, CellsAt u ra L.length (kOf L) (vOf L) → ∃ cc : Int, Calls Try.prog 20 #[.agg #[.int .i64 id, .int .i64 l2, .slice ra L.length rc2], .int .i64 key] u fun e w' => e = .returned (.agg #[.int .i64 cc, .int .i64 val]) ∧ Below u.heap.size u w') := fun u h => by have := implCellOf_any id l2 L.length (kOf L) (vOf L) ra rc2 key u (by omega) h; rw [f2] at this; exact ⟨_, this⟩
  have HDR : Hid (∀ u, CellsAt u ra L.length (kOf L) (vOf L) → Calls Try.prog 18 #[.agg #[.int .i64 id, .int .i64 l2, .slice ra L.length rc2], .int .i64 key, .int .i64 l2] u (PResL 0 id l2 M u)) := fun u h => by have := implDrop_any id l2 L.length (kOf L) (vOf L) ra rc2 key l2 u (by omega) h; rw [f3, ← hM] at this; exact this
  have HCN : Hid (∀ u da dc, CellsAt u da M.length (kOf M) (vOf M) → ∃ vv : Int, Calls Try.prog 20 #[.agg #[.int .i64 id, .int .i64 l2, .slice da M.length dc], .int .i64 key] u fun e w' => e = .returned (.agg #[.int .i64 4, .int .i64 vv]) ∧ Below u.heap.size u w') := fun u da dc h => by have := implCellOf_any id l2 M.length (kOf M) (vOf M) da dc key u (by omega) h; rw [f4] at this; exact ⟨_, this⟩
  have HKP : Hid (∀ i, i < n → K i ≠ key → (∃ cc : Int, ∀ u, CellsAt u ra L.length (kOf L) (vOf L) → Calls Try.prog 20 #[.agg #[.int .i64 id, .int .i64 l2, .slice ra L.length rc2], .int .i64 (K i)] u fun e w' => e = .returned (.agg #[.int .i64 cc, .int .i64 (V i)]) ∧ Below u.heap.size u w') ∧
      ∀ da dc, ∃ cc : Int, ∀ u, CellsAt u da M.length (kOf M) (vOf M) → Calls Try.prog 20 #[.agg #[.int .i64 id, .int .i64 l2, .slice da M.length dc], .int .i64 (K i)] u fun e w' => e = .returned (.agg #[.int .i64 cc, .int .i64 (V i)]) ∧ Below u.heap.size u w') := fun i hi hne => by
    refine ⟨⟨coC id l2 L.length (kOf L) (vOf L) (K i), fun u h => ?_⟩, fun da dc => ⟨coC id l2 M.length (kOf M) (vOf M) (K i), fun u h => ?_⟩⟩
    · have := implCellOf_any id l2 L.length (kOf L) (vOf L) ra rc2 (K i) u (by omega) h; rw [(f5 i hi hne).1] at this; exact this
    · have := implCellOf_any id l2 M.length (kOf M) (vOf M) da dc (K i) u (by omega) h; rw [(f5 i hi hne).2] at this; exact this
  have hw1 : IntKind.i64.wrap ((M.length : Int) + 1) = (M.length : Int) + 1 := by rw [IntKind.wrap_i64]; omega
  have hlen : ((M.length : Int) + 1 == (L.length : Int)) = true := by simp; omega
  clear f1 f2 f3 f4 f5 f6 f7 hL hC hM
  obtain ⟨kL, hkL⟩ : ∃ k, k = kOf L := ⟨_, rfl⟩
  obtain ⟨vL, hvL⟩ : ∃ v, v = vOf L := ⟨_, rfl⟩
  obtain ⟨kM, hkM⟩ : ∃ k, k = kOf M := ⟨_, rfl⟩
  obtain ⟨vM, hvM⟩ : ∃ v, v = vOf M := ⟨_, rfl⟩
  simp only [← hkL, ← hvL, ← hkM, ← hvM] at HO2 HPF HCO HDR HCN HKP
  generalize hm : L.length = m at *
  go_wp2_with fail
  have BR := Box4.new w2 (.int .i64 0) (.int .i64 id) (.int .i64 l2) (.slice ra m rc2) 29
  refine (HDR.out _ (HO2.out.below (below_new _ _))).mono ?_
  rintro e w3 ⟨da, dc, rfl, hb3, hod⟩
  simp only [if_true] at hod ⊢
  have HB3 : Hid (Below w.heap.size w w3) := below_then (below_then HB2.out (below_new _ _)) hb3
  have HC3 : Hid (CellsAt w3 (some ⟨b, off, none⟩) n K V) := (HC2.out.below (below_new _ _)).below hb3
  have HO3 : Hid (CellsAt w3 ra m kL vL) := (HO2.out.below (below_new _ _)).below hb3
  have HD3 : Hid (CellsAt w3 da M.length kM vM) := by rw [hkM, hvM]; exact hod.at
  replace BR := BR.below hb3
  replace BP := (BP.alloc _).below hb3
  clear hb3 hod HB2 HC2 HO2 HDR hkL hvL hkM hvM hm
  generalize hm2 : M.length = m2 at *
  go_upto_region 8 with fail
  obtain ⟨W4, hW4⟩ : ∃ y, y = w3.alloc (.cells #[.int .i64 0, .int .i64 id, .int .i64 l2, .slice da m2 dc] 29) := ⟨_, rfl⟩
  have hb4 : Below w3.heap.size w3 W4 := by rw [hW4]; exact below_new _ _
  have BD : Box4 W4 w3.heap.size (.int .i64 0) (.int .i64 id) (.int .i64 l2) (.slice da m2 dc) := by rw [hW4]; exact Box4.new _ _ _ _ _ _
  obtain ⟨B0, B1, B2⟩ := BP.below hb4
  obtain ⟨E0, E1, E2, E3⟩ := BR.below hb4
  obtain ⟨G0, G1, G2, G3⟩ := BD
  have HB4 : Hid (Below w.heap.size w W4) := below_then HB3.out hb4
  have HC4 : Hid (CellsAt W4 (some ⟨b, off, none⟩) n K V) := HC3.out.below hb4
  have HO4 : Hid (CellsAt W4 ra m kL vL) := HO3.out.below hb4
  have HD4 : Hid (CellsAt W4 da m2 kM vM) := HD3.out.below hb4
  rw [← hW4]
  generalize w3.heap.size = Dd at *
  generalize w2.heap.size = R at *
  generalize w1.heap.size = Pp at *
  clear hW4 hb4 BP BR HB3 HC3 HO3 HD3 hm2
  have hvv : (val != val) = false := by simp
  have hll : (l2 != l2) = false := by simp
  have hf1 : ∀ (c v : Int) (u : World), (Instr.field 42 (.agg #[.int .i64 c, .int .i64 v]) 1).run Try.prog u = .ok (.int .i64 v) u := fun _ _ _ => by kernel_rfl
  have hf0 : ∀ (c v : Int) (u : World), (Instr.field 42 (.agg #[.int .i64 c, .int .i64 v]) 0).run Try.prog u = .ok (.int .i64 c) u := fun _ _ _ => by kernel_rfl
  go_wp2_with fail
  refine (HPF.out _ HO4.out).mono ?_
  rintro e W5 ⟨rfl, hb⟩
  replace B0 := cell_below B0 hb
  replace B1 := cell_below B1 hb
  replace B2 := cell_below B2 hb
  replace E0 := cell_below E0 hb
  replace E1 := cell_below E1 hb
  replace E2 := cell_below E2 hb
  replace E3 := cell_below E3 hb
  replace G0 := cell_below G0 hb
  replace G1 := cell_below G1 hb
  replace G2 := cell_below G2 hb
  replace G3 := cell_below G3 hb
  replace HB4 : Hid (Below w.heap.size w W5) := below_then HB4.out hb
  replace HC4 : Hid (CellsAt W5 (some ⟨b, off, none⟩) n K V) := HC4.out.below hb
  replace HO4 : Hid (CellsAt W5 ra m kL vL) := HO4.out.below hb
  replace HD4 : Hid (CellsAt W5 da m2 kM vM) := HD4.out.below hb
  clear hb
  go_wp2_with fail
  obtain ⟨cc, hcc⟩ := HCO.out _ HO4.out
  refine hcc.mono ?_
  rintro e W6 ⟨rfl, hb⟩
  replace B0 := cell_below B0 hb
  replace B1 := cell_below B1 hb
  replace B2 := cell_below B2 hb
  replace E0 := cell_below E0 hb
  replace E1 := cell_below E1 hb
  replace E2 := cell_below E2 hb
  replace E3 := cell_below E3 hb
  replace G0 := cell_below G0 hb
  replace G1 := cell_below G1 hb
  replace G2 := cell_below G2 hb
  replace G3 := cell_below G3 hb
  replace HB4 : Hid (Below w.heap.size w W6) := below_then HB4.out hb
  replace HC4 : Hid (CellsAt W6 (some ⟨b, off, none⟩) n K V) := HC4.out.below hb
  replace HO4 : Hid (CellsAt W6 ra m kL vL) := HO4.out.below hb
  replace HD4 : Hid (CellsAt W6 da m2 kM vM) := HD4.out.below hb
  clear hb hcc
  go_wp2_with fail
  obtain ⟨vv, hcc⟩ := HCN.out _ da dc HD4.out
  refine hcc.mono ?_
  rintro e W7 ⟨rfl, hb⟩
  replace B0 := cell_below B0 hb
  replace B1 := cell_below B1 hb
  replace B2 := cell_below B2 hb
  replace E0 := cell_below E0 hb
  replace E1 := cell_below E1 hb
  replace E2 := cell_below E2 hb
  replace E3 := cell_below E3 hb
  replace G0 := cell_below G0 hb
  replace G1 := cell_below G1 hb
  replace G2 := cell_below G2 hb
  replace G3 := cell_below G3 hb
  replace HB4 : Hid (Below w.heap.size w W7) := below_then HB4.out hb
  replace HC4 : Hid (CellsAt W7 (some ⟨b, off, none⟩) n K V) := HC4.out.below hb
  replace HO4 : Hid (CellsAt W7 ra m kL vL) := HO4.out.below hb
  replace HD4 : Hid (CellsAt W7 da m2 kM vM) := HD4.out.below hb
  clear hb hcc HPF HCO HCN
  go_wp2_with fail
  clear hvv hll hf0 hf1
  go_loopw [9, 10] (fun i _ wr => ∃ k : Nat, k ≤ n ∧ i = .int .i64 k ∧ Hid (Below W7.heap.size W7 wr)) (fun i _ _ => n - (intOf i).toNat)
  case atStart => exact ⟨0, Nat.zero_le _, rfl, Below.refl _ _⟩
  case round =>
    obtain ⟨k, hk, rfl, HBr⟩ := hrel
    replace B0 := cell_below B0 HBr.out
    replace B1 := cell_below B1 HBr.out
    replace B2 := cell_below B2 HBr.out
    replace E0 := cell_below E0 HBr.out
    replace E1 := cell_below E1 HBr.out
    replace E2 := cell_below E2 HBr.out
    replace E3 := cell_below E3 HBr.out
    replace G0 := cell_below G0 HBr.out
    replace G1 := cell_below G1 HBr.out
    replace G2 := cell_below G2 HBr.out
    replace G3 := cell_below G3 HBr.out
    have HBW : Hid (Below w.heap.size w wr) := below_then HB4.out HBr.out
    have HO5 : Hid (CellsAt wr ra m kL vL) := HO4.out.below HBr.out
    have HE5 : Hid (CellsAt wr da m2 kM vM) := HD4.out.below HBr.out
    have hn13 := HNC.out.1
    by_cases hlt : k < n
    · have hlt' : (k : Int) < (n : Int) := by omega
      have hk0 : (0 : Int) ≤ (k : Int) := by omega
      rcases HC4.out.below HBr.out with h | ⟨cb, co, hce, hcl, hck, hcv⟩
      · omega
      simp only [Option.some.injEq, Addr.mk.injEq, and_true] at hce
      obtain ⟨rfl, rfl⟩ := hce
      have x0 := hck k hlt
      have x1 := hcv k hlt
      have HKK : Hid (K k ≠ key → _) := fun hne => HKP.out k hlt hne
      clear hck hcv
      generalize K k = kx at *
      generalize V k = vx at *
      go_upto_region 14 with fail
      obtain ⟨W5, hW5⟩ : ∃ y, y = wr.alloc (.cells #[.int .i64 kx, .int .i64 vx] 45) := ⟨_, rfl⟩
      have hb5 : Below wr.heap.size wr W5 := by rw [hW5]; exact below_new _ _
      have Q0 : W5.cell? ⟨wr.heap.size, 0, none⟩ = some (.int .i64 kx) := by rw [hW5]; simp [go_sem]
      have Q1 : W5.cell? ⟨wr.heap.size, 1, none⟩ = some (.int .i64 vx) := by rw [hW5]; simp [go_sem]
      have HR5 : Hid (CellsAt W5 ra m kL vL) := HO5.out.below hb5
      have HD5 : Hid (CellsAt W5 da m2 kM vM) := HE5.out.below hb5
      have HB5 : Hid (Below W7.heap.size W7 W5) := below_then HBr.out hb5
      replace E1 := cell_below E1 hb5
      replace E2 := cell_below E2 hb5
      replace E3 := cell_below E3 hb5
      replace G1 := cell_below G1 hb5
      replace G2 := cell_below G2 hb5
      replace G3 := cell_below G3 hb5
      rw [← hW5]
      generalize wr.heap.size = X at *
      clear hW5 hb5 HBr HBW HO5 HE5 x0 x1 B0 B1 B2 E0 G0
      by_cases hne : kx = key
      · have hne2 : (kx != key) = false := by simp [hne]
        clear hne HKK
        go_quiet (fail)
        go_wp2_with fail
        go_roundw
        case rel => exact ⟨k + 1, hlt, by go_num, below_drewN HB5.out _⟩
        case measure => simp [intOf]; omega
      · have hne2 : (kx != key) = true := by simp [hne]
        obtain ⟨⟨cc1, hc1⟩, hc2⟩ := HKK.out hne
        obtain ⟨cc2, hc2⟩ := hc2 da dc
        have HC1 : Hid (∀ u, CellsAt u ra m kL vL → Calls Try.prog 20 #[.agg #[.int .i64 id, .int .i64 l2, .slice ra m rc2], .int .i64 kx] u fun e w' => e = .returned (.agg #[.int .i64 cc1, .int .i64 vx]) ∧ Below u.heap.size u w') := hc1
        have HC2 : Hid (∀ u, CellsAt u da m2 kM vM → Calls Try.prog 20 #[.agg #[.int .i64 id, .int .i64 l2, .slice da m2 dc], .int .i64 kx] u fun e w' => e = .returned (.agg #[.int .i64 cc2, .int .i64 vx]) ∧ Below u.heap.size u w') := hc2
        have hvx : (vx != vx) = false := by simp
        clear hne HKK hc1 hc2
        refine wp_region_E 999 (S := fun u => Below W5.heap.size W5 u) (by kernel_rfl) ((Below.refl _ _).drew) (fun hS => ?_)
        obtain ⟨u0, hu0⟩ : ∃ y, y = W5.drew := ⟨_, rfl⟩
        rw [← hu0] at hS ⊢
        clear hu0
        refine wpAnyE_takeD (L := 999) (i := 0) (v := .pointer (some ⟨X, 0, none⟩)) (some 87) rfl rfl (by kernel_rfl) (by kernel_rfl) (by kernel_rfl) (by kernel_rfl) (fun _ _ _ h => h) (Or.inl ⟨by kernel_rfl, by intro u hSu; go_simp⟩) hS ?_
        try simp only [Act.put, List.setIfInBounds_toArray, List.set_cons_zero, List.set_cons_succ]
        refine wpAnyE_takeD (L := 999) (i := 1) (v := .int .i64 kx) (some 88) rfl rfl (by kernel_rfl) (by kernel_rfl) (by kernel_rfl) (by kernel_rfl) (fun _ _ _ h => h) (Or.inl ⟨by kernel_rfl, by intro u hSu; have h0 := cell_below Q0 hSu; go_simp⟩) hS ?_
        try simp only [Act.put, List.setIfInBounds_toArray, List.set_cons_zero, List.set_cons_succ]
        refine wpAnyE_takeD (L := 999) (i := 2) (v := .int .i64 key) (some 89) rfl rfl (by kernel_rfl) (by kernel_rfl) (by kernel_rfl) (by kernel_rfl) (fun _ _ _ h => h) (Or.inl ⟨by kernel_rfl, by intro u hSu; go_simp⟩) hS ?_
        try simp only [Act.put, List.setIfInBounds_toArray, List.set_cons_zero, List.set_cons_succ]
        refine wpAnyE_takeD (L := 999) (i := 3) (v := .bool true) (some 90) rfl rfl (by kernel_rfl) (by kernel_rfl) (by kernel_rfl) (by kernel_rfl) (fun _ _ _ h => h) (Or.inl ⟨by kernel_rfl, by intro u hSu; go_simp⟩) hS ?_
        try simp only [Act.put, List.setIfInBounds_toArray, List.set_cons_zero, List.set_cons_succ]
        refine wpAnyE_takeD (L := 999) (i := 4) (v := .bool true) (some 91) rfl rfl (by kernel_rfl) (by kernel_rfl) (by kernel_rfl) (by kernel_rfl) (fun _ _ _ h => h) (Or.inl ⟨by kernel_rfl, by intro u hSu; go_simp⟩) hS ?_
        try simp only [Act.put, List.setIfInBounds_toArray, List.set_cons_zero, List.set_cons_succ]
        refine wpAnyE_takeD (L := 999) (i := 5) (v := .pointer (some ⟨R, 1, none⟩)) (some 92) rfl rfl (by kernel_rfl) (by kernel_rfl) (by kernel_rfl) (by kernel_rfl) (fun _ _ _ h => h) (Or.inl ⟨by kernel_rfl, by intro u hSu; go_simp⟩) hS ?_
        try simp only [Act.put, List.setIfInBounds_toArray, List.set_cons_zero, List.set_cons_succ]
        refine wpAnyE_takeD (L := 999) (i := 6) (v := .agg #[.int .i64 id, .int .i64 l2, .slice ra m rc2]) (some 93) rfl rfl (by kernel_rfl) (by kernel_rfl) (by kernel_rfl) (by kernel_rfl) (fun _ _ _ h => h) (Or.inl ⟨by kernel_rfl, by intro u hSu; have h1 := cell_below E1 hSu; have h2 := cell_below E2 hSu; have h3 := cell_below E3 hSu; go_simp⟩) hS ?_
        try simp only [Act.put, List.setIfInBounds_toArray, List.set_cons_zero, List.set_cons_succ]
        refine wpAnyE_takeD (L := 999) (i := 7) (v := .pointer (some ⟨X, 0, none⟩)) (some 94) rfl rfl (by kernel_rfl) (by kernel_rfl) (by kernel_rfl) (by kernel_rfl) (fun _ _ _ h => h) (Or.inl ⟨by kernel_rfl, by intro u hSu; go_simp⟩) hS ?_
        try simp only [Act.put, List.setIfInBounds_toArray, List.set_cons_zero, List.set_cons_succ]
        refine wpAnyE_takeD (L := 999) (i := 8) (v := .int .i64 kx) (some 95) rfl rfl (by kernel_rfl) (by kernel_rfl) (by kernel_rfl) (by kernel_rfl) (fun _ _ _ h => h) (Or.inl ⟨by kernel_rfl, by intro u hSu; have h0 := cell_below Q0 hSu; go_simp⟩) hS ?_
        try simp only [Act.put, List.setIfInBounds_toArray, List.set_cons_zero, List.set_cons_succ]
        refine wpAnyE_takeD (L := 999) (i := 11) (v := .pointer (some ⟨X, 1, none⟩)) (some 98) rfl rfl (by kernel_rfl) (by kernel_rfl) (by kernel_rfl) (by kernel_rfl) (fun _ _ _ h => h) (Or.inl ⟨by kernel_rfl, by intro u hSu; go_simp⟩) hS ?_
        try simp only [Act.put, List.setIfInBounds_toArray, List.set_cons_zero, List.set_cons_succ]
        refine wpAnyE_takeD (L := 999) (i := 12) (v := .int .i64 vx) (some 99) rfl rfl (by kernel_rfl) (by kernel_rfl) (by kernel_rfl) (by kernel_rfl) (fun _ _ _ h => h) (Or.inl ⟨by kernel_rfl, by intro u hSu; have h1 := cell_below Q1 hSu; go_simp⟩) hS ?_
        try simp only [Act.put, List.setIfInBounds_toArray, List.set_cons_zero, List.set_cons_succ]
        refine wpAnyE_ready (rs := [9]) (by kernel_rfl) (by simp) ?_
        refine AllReadyE.cons rfl (fun K9 hK => ?_) AllReadyE.nil
        rw [if_pos (by kernel_rfl)]
        go_simp
        refine (HC1.out _ (HR5.out.below hS)).mono ?_
        rintro e u1 ⟨rfl, hbu⟩
        refine hK.out _ _ (below_then hS hbu) (fun hS9 => ?_)
        try simp only [Act.put, List.setIfInBounds_toArray, List.set_cons_zero, List.set_cons_succ]
        clear hK K9 hS hbu
        have hS := hS9
        clear hS9
        refine wpAnyE_takeD (L := 999) (i := 10) (v := .int .i64 vx) (some 97) rfl rfl (by kernel_rfl) (by kernel_rfl) (by kernel_rfl) (by kernel_rfl) (fun _ _ _ h => h) (Or.inl ⟨by kernel_rfl, by intro u hSu; have hf : (Instr.field 42 (.agg #[.int .i64 cc1, .int .i64 vx]) 1).run Try.prog u = .ok (.int .i64 vx) u := (by kernel_rfl); go_simp⟩) hS ?_
        try simp only [Act.put, List.setIfInBounds_toArray, List.set_cons_zero, List.set_cons_succ]
        refine wpAnyE_takeD (L := 999) (i := 13) (v := .bool false) (some 100) rfl rfl (by kernel_rfl) (by kernel_rfl) (by kernel_rfl) (by kernel_rfl) (fun _ _ _ h => h) (Or.inl ⟨by kernel_rfl, by intro u hSu; go_simp⟩) hS ?_
        try simp only [Act.put, List.setIfInBounds_toArray, List.set_cons_zero, List.set_cons_succ]
        refine wpAnyE_takeD (L := 999) (i := 14) (v := .bool false) (some 101) rfl rfl (by kernel_rfl) (by kernel_rfl) (by kernel_rfl) (by kernel_rfl) (fun _ _ _ h => h) (Or.inl ⟨by kernel_rfl, by intro u hSu; go_simp⟩) hS ?_
        try simp only [Act.put, List.setIfInBounds_toArray, List.set_cons_zero, List.set_cons_succ]
        refine wpAnyE_takeD (L := 999) (i := 15) (v := .pointer (some ⟨Dd, 1, none⟩)) (some 102) rfl rfl (by kernel_rfl) (by kernel_rfl) (by kernel_rfl) (by kernel_rfl) (fun _ _ _ h => h) (Or.inl ⟨by kernel_rfl, by intro u hSu; go_simp⟩) hS ?_
        try simp only [Act.put, List.setIfInBounds_toArray, List.set_cons_zero, List.set_cons_succ]
        refine wpAnyE_takeD (L := 999) (i := 16) (v := .agg #[.int .i64 id, .int .i64 l2, .slice da m2 dc]) (some 103) rfl rfl (by kernel_rfl) (by kernel_rfl) (by kernel_rfl) (by kernel_rfl) (fun _ _ _ h => h) (Or.inl ⟨by kernel_rfl, by intro u hSu; have h1 := cell_below G1 hSu; have h2 := cell_below G2 hSu; have h3 := cell_below G3 hSu; go_simp⟩) hS ?_
        try simp only [Act.put, List.setIfInBounds_toArray, List.set_cons_zero, List.set_cons_succ]
        refine wpAnyE_takeD (L := 999) (i := 17) (v := .pointer (some ⟨X, 0, none⟩)) (some 104) rfl rfl (by kernel_rfl) (by kernel_rfl) (by kernel_rfl) (by kernel_rfl) (fun _ _ _ h => h) (Or.inl ⟨by kernel_rfl, by intro u hSu; go_simp⟩) hS ?_
        try simp only [Act.put, List.setIfInBounds_toArray, List.set_cons_zero, List.set_cons_succ]
        refine wpAnyE_takeD (L := 999) (i := 18) (v := .int .i64 kx) (some 105) rfl rfl (by kernel_rfl) (by kernel_rfl) (by kernel_rfl) (by kernel_rfl) (fun _ _ _ h => h) (Or.inl ⟨by kernel_rfl, by intro u hSu; have h0 := cell_below Q0 hSu; go_simp⟩) hS ?_
        try simp only [Act.put, List.setIfInBounds_toArray, List.set_cons_zero, List.set_cons_succ]
        refine wpAnyE_takeD (L := 999) (i := 21) (v := .pointer (some ⟨X, 1, none⟩)) (some 108) rfl rfl (by kernel_rfl) (by kernel_rfl) (by kernel_rfl) (by kernel_rfl) (fun _ _ _ h => h) (Or.inl ⟨by kernel_rfl, by intro u hSu; go_simp⟩) hS ?_
        try simp only [Act.put, List.setIfInBounds_toArray, List.set_cons_zero, List.set_cons_succ]
        refine wpAnyE_takeD (L := 999) (i := 22) (v := .int .i64 vx) (some 109) rfl rfl (by kernel_rfl) (by kernel_rfl) (by kernel_rfl) (by kernel_rfl) (fun _ _ _ h => h) (Or.inl ⟨by kernel_rfl, by intro u hSu; have h1 := cell_below Q1 hSu; go_simp⟩) hS ?_
        try simp only [Act.put, List.setIfInBounds_toArray, List.set_cons_zero, List.set_cons_succ]
        refine wpAnyE_ready (rs := [19]) (by kernel_rfl) (by simp) ?_
        refine AllReadyE.cons rfl (fun K9 hK => ?_) AllReadyE.nil
        rw [if_pos (by kernel_rfl)]
        go_simp
        refine (HC2.out _ (HD5.out.below hS)).mono ?_
        rintro e u1 ⟨rfl, hbu⟩
        refine hK.out _ _ (below_then hS hbu) (fun hS9 => ?_)
        try simp only [Act.put, List.setIfInBounds_toArray, List.set_cons_zero, List.set_cons_succ]
        clear hK K9 hS hbu
        have hS := hS9
        clear hS9
        refine wpAnyE_takeD (L := 999) (i := 20) (v := .int .i64 vx) (some 107) rfl rfl (by kernel_rfl) (by kernel_rfl) (by kernel_rfl) (by kernel_rfl) (fun _ _ _ h => h) (Or.inl ⟨by kernel_rfl, by intro u hSu; have hf : (Instr.field 42 (.agg #[.int .i64 cc2, .int .i64 vx]) 1).run Try.prog u = .ok (.int .i64 vx) u := (by kernel_rfl); go_simp⟩) hS ?_
        try simp only [Act.put, List.setIfInBounds_toArray, List.set_cons_zero, List.set_cons_succ]
        refine wpAnyE_takeD (L := 999) (i := 23) (v := .bool false) (some 110) rfl rfl (by kernel_rfl) (by kernel_rfl) (by kernel_rfl) (by kernel_rfl) (fun _ _ _ h => h) (Or.inl ⟨by kernel_rfl, by intro u hSu; go_simp⟩) hS ?_
        try simp only [Act.put, List.setIfInBounds_toArray, List.set_cons_zero, List.set_cons_succ]
        refine wpAnyE_takeD (L := 999) (i := 24) (v := .bool false) (some 111) rfl rfl (by kernel_rfl) (by kernel_rfl) (by kernel_rfl) (by kernel_rfl) (fun _ _ _ h => h) (Or.inl ⟨by kernel_rfl, by intro u hSu; go_simp⟩) hS ?_
        try simp only [Act.put, List.setIfInBounds_toArray, List.set_cons_zero, List.set_cons_succ]
        refine wpAnyE_takeD (L := 999) (i := 25) (v := .bool false) (some 112) rfl rfl (by kernel_rfl) (by kernel_rfl) (by kernel_rfl) (by kernel_rfl) (fun _ _ _ h => h) (Or.inl ⟨by kernel_rfl, by intro u hSu; go_simp⟩) hS ?_
        try simp only [Act.put, List.setIfInBounds_toArray, List.set_cons_zero, List.set_cons_succ]
        refine wpAnyE_done (by kernel_rfl) ?_ _
        go_simp
        go_wp2_with fail
        go_roundw
        case rel => exact ⟨k + 1, hlt, by go_num, below_then HB5.out hS⟩
        case measure => simp [intOf]; omega
    · have hnl : ¬ ((k : Int) < (n : Int)) := by omega
      go_wp2_with fail
      go_ret
      exact ⟨rfl, HBW.out⟩
end Go.Proofs.Ytnhkjdcbaphfcaa
