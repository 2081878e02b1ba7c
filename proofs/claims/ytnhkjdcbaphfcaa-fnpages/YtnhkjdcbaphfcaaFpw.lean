/- FnPages: the walk. -/
import Derived.Test.YtnhkjdcbaphfcaaFpc
namespace Go.Proofs.Ytnhkjdcbaphfcaa
open Go.RowKit Go.Deep
set_option linter.unusedVariables false
set_option linter.unusedSimpArgs false
set_option maxRecDepth 20000

theorem lwBig_any (a : Option Addr) (k cap : Nat) (w : World) : Calls Try.prog 7 #[.slice a k cap] w fun e w' => e = .returned (.bool (decide ((1048576 : Int) < (k : Int)))) ∧ w' = w := by
  go_enter Try.func7, Try.ntmps7
  go_wp2
  go_ret
  exact ⟨rfl, rfl⟩
theorem BA.lowly {w w' : World} {b off n : Nat} {z : Nat → Int} (h : BA w b off n z) (hb : Below w.heap.size w w') : BA w' b off n z := h.below hb
theorem pack_back (y : Nat → Int) (h1 : againF y = 0) (h2 : again y = zL y 48) (a : Option Addr) (cap : Nat) (w : World) (h : CellsAt w a (rpN y) (rpK y) (rpV y)) :
    Calls Try.prog 10 #[.agg #[.int .i64 (num y 0 1), .int .i64 (num y 1 4), .slice a (rpN y) cap]] w fun e w' => ∃ pb po sc, e = .returned (.agg #[.int .i64 0, .slice (some ⟨pb, po, none⟩) 48 sc]) ∧ Below w.heap.size w w' ∧ BA w' pb po 48 y := by
  refine (implPack2 (num y 0 1) (num y 1 4) (rpN y) (rpK y) (rpV y) a cap w (by have := rpN_le y; omega) h).mono ?_
  rintro e w' ⟨sa, sc, rfl, hb, ho, -⟩
  have e1 : pf (num y 0 1) (num y 1 4) (rpN y) (rpK y) (rpV y) = 0 := h1
  have e2 : pgb (num y 0 1) (num y 1 4) (rpN y) (rpK y) (rpV y) = zL y 48 := h2
  simp only [e1, if_true, e2, zL_len] at ho ⊢
  rcases ho.at with h | ⟨pb, po, rfl, hl, hc⟩
  · omega
  · refine ⟨pb, po, sc, rfl, hb, fun i hi => ?_⟩
    rw [hc i hi]
    simp only [zOf]
    rw [zL_get y 48 i hi]
theorem unpack_back {id ls : Int} {m : Nat} {K V : Nat → Int} (h0 : pf id ls m K V = 0) (sa : Option Addr) (sc : Nat) (hsc : 48 ≤ sc) (w : World) (h : BytesAt w sa 48 (zOf (pgb id ls m K V))) :
    Calls Try.prog 9 #[.slice sa 48 sc] w fun e w' => ∃ ra rc, e = .returned (.agg #[.int .i64 0, .int .i64 id, .int .i64 ls, .slice ra m rc]) ∧ Below w.heap.size w w' ∧ CellsAt w' ra m K V := by
  obtain ⟨f1, f2, f3, f4, f5⟩ := read_back h0
  have g := good_of h0
  rcases h with h | ⟨b, off, rfl, hl, hc⟩
  · omega
  have hby : Byt 48 (zOf (pgb id ls m K V)) := by
    have h9 := byt_of (pgb_byt id ls m K V)
    rw [pgb_48 g.gn] at h9
    exact h9
  refine (implUp_row 48 (zOf (pgb id ls m K V)) b off sc w hsc hl hby hc).mono ?_
  rintro e w' ⟨ra, rc, rfl, hb, ho⟩
  rw [f1] at ho ⊢
  simp only [if_true] at ho ⊢
  rw [f4] at ho ⊢
  rw [f2, f3]
  exact ⟨ra, rc, rfl, hb, (ho.congr (fun i hi => (f5 i hi).1) (fun i hi => (f5 i hi).2)).at⟩
set_option maxHeartbeats 16000000 in
theorem fnPages_small (kk : Nat) (z : Nat → Int) (a : Option Addr) (cap : Nat) (w : World) (hbig : kk ≤ 1048576) (hz : Byt kk z) (HA0 : BytesAt w a kk z) :
    Calls Try.prog 3 #[.slice a kk cap] w fun e w' => e = .returned (.bool true) ∧ Below w.heap.size w w' := by
  have HA : Hid (BytesAt w a kk z) := HA0
  have HZ : Hid (Byt kk z) := hz
  have HDU : Hid (Calls Try.prog 8 #[.slice a kk cap] w _) := drawUp_any a kk cap z w hbig hz HA0
  have HDP : Hid (∀ u, BytesAt u a kk z → Calls Try.prog 12 #[.slice a kk cap] u (DrawPkA u)) := fun u h => drawPk_any a kk cap z u hbig HZ.out h
  have hbg : decide ((1048576 : Int) < (kk : Int)) = false := by simp; omega
  clear hz HA0
  go_enter Try.func3, Try.ntmps3
  go_wp2_with (go_at_call 7; refine (lwBig_any _ _ _ _).mono ?_; rintro e w' ⟨rfl, hw⟩; have hw1 := hw.symm; clear hw; subst hw1; rw [hbg])
  refine Calls.mono HDU.out ?_
  rintro e w1 ⟨b, n, c, y, rfl, hn48, hnc, hby, hbl, hba, hb1⟩
  have HB1 : Hid (Below w.heap.size w w1) := hb1
  have HY1 : Hid (BA w1 b 0 n y) := hba
  have HBY : Hid (Byt n y) := hby
  have HNC : Hid (n ≤ 48 ∧ n ≤ c) := ⟨hn48, hnc⟩
  clear HDU hbg hbig hb1 hba hby hn48 hnc
  go_wp2_with fail
  refine (implUp_row n y b 0 c w1 HNC.out.2 hbl HBY.out HY1.out).mono ?_
  rintro e w2 ⟨ra, rc, rfl, hb2, ho⟩
  have HO2 : Hid (CellsAt w2 ra (if upc y n = 0 then rpN y else 0) (rpK y) (rpV y)) := ho.at
  have HB2 : Hid (Below w.heap.size w w2) := below_then HB1.out hb2
  have HY2 : Hid (BA w2 b 0 n y) := HY1.out.below hb2
  have HBL2 : Hid (b < w2.heap.size) := Nat.lt_of_lt_of_le hbl hb2.size
  have HSU0 : Hid (∀ u, BA u b 0 n y → b < u.heap.size → Calls Try.prog 11 #[.slice (some ⟨b, 0, none⟩) n c] u (PRes (upc y n) (num y 0 1) (num y 1 4) (rpN y) (rpK y) (rpV y) u)) := fun u h hl => specUp_row n y b 0 c u HNC.out.2 hl HBY.out h
  clear hb2 ho HB1 HY1 hbl
  by_cases hC : upc y n = 0
  · obtain ⟨f1, f2, f3⟩ := upc_zero hC
    subst f1
    have HPK : Hid (∀ u, CellsAt u ra (rpN y) (rpK y) (rpV y) → Calls Try.prog 10 #[.agg #[.int .i64 (num y 0 1), .int .i64 (num y 1 4), .slice ra (rpN y) rc]] u fun e w' => ∃ pb po sc, e = .returned (.agg #[.int .i64 0, .slice (some ⟨pb, po, none⟩) 48 sc]) ∧ Below u.heap.size u w' ∧ BA w' pb po 48 y) := fun u h => pack_back y f2 f3 ra rc u h
    simp only [if_pos hC] at HO2 ⊢
    rw [hC]
    clear hC f2 f3 HSU0
    obtain ⟨s, HSS⟩ : ∃ s, Hid (s = strOfNums (zL y 48)) := ⟨_, rfl⟩
    generalize num y 0 1 = I1 at *
    generalize num y 1 4 = L1 at *
    generalize rpN y = m at *
    generalize rpK y = rk at *
    generalize rpV y = rv at *
    go_upto_region 5 with fail
    obtain ⟨W3, hW3⟩ : ∃ y, y = w2.alloc (.cells #[.int .i64 0, .int .i64 I1, .int .i64 L1, .slice ra m rc] 29) := ⟨_, rfl⟩
    have hb3 : Below w2.heap.size w2 W3 := by rw [hW3]; exact below_new _ _
    obtain ⟨A0, A1, A2, A3⟩ : Box4 W3 w2.heap.size (.int .i64 0) (.int .i64 I1) (.int .i64 L1) (.slice ra m rc) := by rw [hW3]; exact Box4.new _ _ _ _ _ _
    have HB3 : Hid (Below w.heap.size w W3) := below_then HB2.out hb3
    have HY3 : Hid (BA W3 b 0 48 y) := HY2.out.below hb3
    have HBL : Hid (b < W3.heap.size) := Nat.lt_of_lt_of_le HBL2.out hb3.size
    have HO3 : Hid (CellsAt W3 ra m rk rv) := HO2.out.below hb3
    rw [← hW3]
    generalize w2.heap.size = U at *
    clear hW3 hb3 HB2 HY2 HBL2
    refine wp_region_E 999 (S := fun u => Below W3.heap.size W3 u) (by kernel_rfl) ((Below.refl _ _).drew) (fun hS => ?_)
    obtain ⟨u0, hu0⟩ : ∃ y, y = W3.drew := ⟨_, rfl⟩
    rw [← hu0] at hS ⊢
    clear hu0
    refine wpAnyE_takeD (L := 999) (i := 0) (v := .pointer (some ⟨U, 0, none⟩)) (some 14) rfl rfl (by kernel_rfl) (by kernel_rfl) (by kernel_rfl) (by kernel_rfl) (fun _ _ _ h => h) (Or.inl ⟨by kernel_rfl, by intro u hSu; go_simp⟩) hS ?_
    try simp only [Act.put, List.setIfInBounds_toArray, List.set_cons_zero, List.set_cons_succ]
    refine wpAnyE_takeD (L := 999) (i := 1) (v := .int .i64 0) (some 15) rfl rfl (by kernel_rfl) (by kernel_rfl) (by kernel_rfl) (by kernel_rfl) (fun _ _ _ h => h) (Or.inl ⟨by kernel_rfl, by intro u hSu; have h0 := cell_below A0 hSu; go_simp⟩) hS ?_
    try simp only [Act.put, List.setIfInBounds_toArray, List.set_cons_zero, List.set_cons_succ]
    refine wpAnyE_takeD (L := 999) (i := 2) (v := .bool true) (some 16) rfl rfl (by kernel_rfl) (by kernel_rfl) (by kernel_rfl) (by kernel_rfl) (fun _ _ _ h => h) (Or.inl ⟨by kernel_rfl, by intro u hSu; go_simp⟩) hS ?_
    try simp only [Act.put, List.setIfInBounds_toArray, List.set_cons_zero, List.set_cons_succ]
    refine wpAnyE_takeD (L := 999) (i := 3) (v := .bool true) (some 17) rfl rfl (by kernel_rfl) (by kernel_rfl) (by kernel_rfl) (by kernel_rfl) (fun _ _ _ h => h) (Or.inl ⟨by kernel_rfl, by intro u hSu; go_simp⟩) hS ?_
    try simp only [Act.put, List.setIfInBounds_toArray, List.set_cons_zero, List.set_cons_succ]
    refine wpAnyE_takeD (L := 999) (i := 4) (v := .pointer (some ⟨U, 1, none⟩)) (some 18) rfl rfl (by kernel_rfl) (by kernel_rfl) (by kernel_rfl) (by kernel_rfl) (fun _ _ _ h => h) (Or.inl ⟨by kernel_rfl, by intro u hSu; go_simp⟩) hS ?_
    try simp only [Act.put, List.setIfInBounds_toArray, List.set_cons_zero, List.set_cons_succ]
    refine wpAnyE_takeD (L := 999) (i := 5) (v := .agg #[.int .i64 I1, .int .i64 L1, .slice ra m rc]) (some 19) rfl rfl (by kernel_rfl) (by kernel_rfl) (by kernel_rfl) (by kernel_rfl) (fun _ _ _ h => h) (Or.inl ⟨by kernel_rfl, by intro u hSu; have h1 := cell_below A1 hSu; have h2 := cell_below A2 hSu; have h3 := cell_below A3 hSu; go_simp⟩) hS ?_
    try simp only [Act.put, List.setIfInBounds_toArray, List.set_cons_zero, List.set_cons_succ]
    refine wpAnyE_takeD (L := 999) (i := 9) (v := .slice (some ⟨b, 0, none⟩) 48 c) (some 23) rfl rfl (by kernel_rfl) (by kernel_rfl) (by kernel_rfl) (by kernel_rfl) (fun _ _ _ h => h) (Or.inl ⟨by kernel_rfl, by intro u hSu; go_simp⟩) hS ?_
    try simp only [Act.put, List.setIfInBounds_toArray, List.set_cons_zero, List.set_cons_succ]
    refine wpAnyE_takeD (L := 999) (i := 10) (v := .string s) (some 24) rfl rfl (by kernel_rfl) (by kernel_rfl) (by kernel_rfl) (by kernel_rfl) (fun _ _ _ h => h) (Or.inl ⟨by kernel_rfl, by intro u hSu; have hcv : (convert 22 9 (.slice (some ⟨b, 0, none⟩) 48 c)).run Try.prog u = .ok (.string s) u := (by rw [HSS.out]; exact convBA u (HY3.out.below hSu)); go_simp⟩) hS ?_
    try simp only [Act.put, List.setIfInBounds_toArray, List.set_cons_zero, List.set_cons_succ]
    refine wpAnyE_ready (rs := [6]) (by kernel_rfl) (by simp) ?_
    refine AllReadyE.cons rfl (fun K9 hK => ?_) AllReadyE.nil
    rw [if_pos (by kernel_rfl)]
    go_simp
    refine (HPK.out _ (HO3.out.below hS)).mono ?_
    rintro e u1 ⟨pb, po, sc, rfl, hbu, hob⟩
    have HOB : Hid (BA u1 pb po 48 y) := hob
    clear hob
    refine hK.out _ _ (below_then hS hbu) (fun hS9 => ?_)
    try simp only [Act.put, List.setIfInBounds_toArray, List.set_cons_zero, List.set_cons_succ]
    clear hK K9 hS hbu
    have hS := hS9
    clear hS9
    refine wpAnyE_takeD (L := 999) (i := 7) (v := .slice (some ⟨pb, po, none⟩) 48 sc) (some 21) rfl rfl (by kernel_rfl) (by kernel_rfl) (by kernel_rfl) (by kernel_rfl) (fun _ _ _ h => h) (Or.inl ⟨by kernel_rfl, by intro u hSu; have hf : (Instr.field 32 (.agg #[.int .i64 0, .slice (some ⟨pb, po, none⟩) 48 sc]) 1).run Try.prog u = .ok (.slice (some ⟨pb, po, none⟩) 48 sc) u := (by kernel_rfl); go_simp⟩) hS ?_
    try simp only [Act.put, List.setIfInBounds_toArray, List.set_cons_zero, List.set_cons_succ]
    refine wpAnyE_ready (rs := [8]) (by kernel_rfl) (by simp) ?_
    refine AllReadyE.cons rfl (fun K9 hK => ?_) AllReadyE.nil
    rw [if_pos (by kernel_rfl)]
    have hcv : (convert 22 9 (.slice (some ⟨pb, po, none⟩) 48 sc)).run Try.prog u1 = .ok (.string s) u1 := (by rw [HSS.out]; exact convBA u1 HOB.out)
    go_simp
    refine hK.out _ _ hS (fun hS9 => ?_)
    try simp only [Act.put, List.setIfInBounds_toArray, List.set_cons_zero, List.set_cons_succ]
    clear hK K9 hS
    have hS := hS9
    clear hS9
    refine wpAnyE_takeD (L := 999) (i := 11) (v := .bool false) (some 25) rfl rfl (by kernel_rfl) (by kernel_rfl) (by kernel_rfl) (by kernel_rfl) (fun _ _ _ h => h) (Or.inl ⟨by kernel_rfl, by intro u hSu; go_simp⟩) hS ?_
    try simp only [Act.put, List.setIfInBounds_toArray, List.set_cons_zero, List.set_cons_succ]
    refine wpAnyE_takeD (L := 999) (i := 12) (v := .bool false) (some 26) rfl rfl (by kernel_rfl) (by kernel_rfl) (by kernel_rfl) (by kernel_rfl) (fun _ _ _ h => h) (Or.inl ⟨by kernel_rfl, by intro u hSu; go_simp⟩) hS ?_
    try simp only [Act.put, List.setIfInBounds_toArray, List.set_cons_zero, List.set_cons_succ]
    refine wpAnyE_takeD (L := 999) (i := 13) (v := .bool false) (some 27) rfl rfl (by kernel_rfl) (by kernel_rfl) (by kernel_rfl) (by kernel_rfl) (fun _ _ _ h => h) (Or.inl ⟨by kernel_rfl, by intro u hSu; go_simp⟩) hS ?_
    try simp only [Act.put, List.setIfInBounds_toArray, List.set_cons_zero, List.set_cons_succ]
    refine wpAnyE_takeD (L := 999) (i := 14) (v := .pointer (some ⟨U, 0, none⟩)) (some 28) rfl rfl (by kernel_rfl) (by kernel_rfl) (by kernel_rfl) (by kernel_rfl) (fun _ _ _ h => h) (Or.inl ⟨by kernel_rfl, by intro u hSu; go_simp⟩) hS ?_
    try simp only [Act.put, List.setIfInBounds_toArray, List.set_cons_zero, List.set_cons_succ]
    refine wpAnyE_takeD (L := 999) (i := 15) (v := .int .i64 0) (some 29) rfl rfl (by kernel_rfl) (by kernel_rfl) (by kernel_rfl) (by kernel_rfl) (fun _ _ _ h => h) (Or.inl ⟨by kernel_rfl, by intro u hSu; have h0 := cell_below A0 hSu; go_simp⟩) hS ?_
    try simp only [Act.put, List.setIfInBounds_toArray, List.set_cons_zero, List.set_cons_succ]
    refine wpAnyE_takeD (L := 999) (i := 16) (v := .bool false) (some 30) rfl rfl (by kernel_rfl) (by kernel_rfl) (by kernel_rfl) (by kernel_rfl) (fun _ _ _ h => h) (Or.inl ⟨by kernel_rfl, by intro u hSu; go_simp⟩) hS ?_
    try simp only [Act.put, List.setIfInBounds_toArray, List.set_cons_zero, List.set_cons_succ]
    refine wpAnyE_takeD (L := 999) (i := 17) (v := .bool false) (some 31) rfl rfl (by kernel_rfl) (by kernel_rfl) (by kernel_rfl) (by kernel_rfl) (fun _ _ _ h => h) (Or.inl ⟨by kernel_rfl, by intro u hSu; go_simp⟩) hS ?_
    try simp only [Act.put, List.setIfInBounds_toArray, List.set_cons_zero, List.set_cons_succ]
    refine wpAnyE_takeD (L := 999) (i := 18) (v := undef) (some 32) rfl rfl (by kernel_rfl) (by kernel_rfl) (by kernel_rfl) (by kernel_rfl) (fun _ _ _ h => h) (Or.inr ⟨by kernel_rfl, rfl⟩) hS ?_
    try simp only [Act.put, List.setIfInBounds_toArray, List.set_cons_zero, List.set_cons_succ]
    refine wpAnyE_takeD (L := 999) (i := 19) (v := undef) (some 33) rfl rfl (by kernel_rfl) (by kernel_rfl) (by kernel_rfl) (by kernel_rfl) (fun _ _ _ h => h) (Or.inr ⟨by kernel_rfl, rfl⟩) hS ?_
    try simp only [Act.put, List.setIfInBounds_toArray, List.set_cons_zero, List.set_cons_succ]
    refine wpAnyE_takeD (L := 999) (i := 20) (v := undef) (some 34) rfl rfl (by kernel_rfl) (by kernel_rfl) (by kernel_rfl) (by kernel_rfl) (fun _ _ _ h => h) (Or.inr ⟨by kernel_rfl, rfl⟩) hS ?_
    try simp only [Act.put, List.setIfInBounds_toArray, List.set_cons_zero, List.set_cons_succ]
    refine wpAnyE_takeD (L := 999) (i := 21) (v := undef) (some 35) rfl rfl (by kernel_rfl) (by kernel_rfl) (by kernel_rfl) (by kernel_rfl) (fun _ _ _ h => h) (Or.inr ⟨by kernel_rfl, rfl⟩) hS ?_
    try simp only [Act.put, List.setIfInBounds_toArray, List.set_cons_zero, List.set_cons_succ]
    refine wpAnyE_takeD (L := 999) (i := 22) (v := undef) (some 36) rfl rfl (by kernel_rfl) (by kernel_rfl) (by kernel_rfl) (by kernel_rfl) (fun _ _ _ h => h) (Or.inr ⟨by kernel_rfl, rfl⟩) hS ?_
    try simp only [Act.put, List.setIfInBounds_toArray, List.set_cons_zero, List.set_cons_succ]
    refine wpAnyE_takeD (L := 999) (i := 23) (v := undef) (some 37) rfl rfl (by kernel_rfl) (by kernel_rfl) (by kernel_rfl) (by kernel_rfl) (fun _ _ _ h => h) (Or.inr ⟨by kernel_rfl, rfl⟩) hS ?_
    try simp only [Act.put, List.setIfInBounds_toArray, List.set_cons_zero, List.set_cons_succ]
    refine wpAnyE_takeD (L := 999) (i := 24) (v := .bool false) (some 38) rfl rfl (by kernel_rfl) (by kernel_rfl) (by kernel_rfl) (by kernel_rfl) (fun _ _ _ h => h) (Or.inl ⟨by kernel_rfl, by intro u hSu; go_simp⟩) hS ?_
    try simp only [Act.put, List.setIfInBounds_toArray, List.set_cons_zero, List.set_cons_succ]
    refine wpAnyE_takeD (L := 999) (i := 25) (v := .bool false) (some 39) rfl rfl (by kernel_rfl) (by kernel_rfl) (by kernel_rfl) (by kernel_rfl) (fun _ _ _ h => h) (Or.inl ⟨by kernel_rfl, by intro u hSu; go_simp⟩) hS ?_
    try simp only [Act.put, List.setIfInBounds_toArray, List.set_cons_zero, List.set_cons_succ]
    refine wpAnyE_done (by kernel_rfl) ?_ _
    go_simp
    go_wp2_with fail
    refine (HDP.out _ (HA.out.below (below_then HB3.out hS))).mono ?_
    rintro e w5 ⟨id, ls, pb, po, m2, prc, K, V, rfl, hm13, hmr, hcells, hb5⟩
    have HB5 : Hid (Below w.heap.size w w5) := below_then (below_then HB3.out hS) hb5
    have HC5 : Hid (CellsAt w5 (some ⟨pb, po, none⟩) m2 K V) := hcells
    have HM : Hid (m2 ≤ 13) := hm13
    have BP := Box3.new w5 (.int .i64 id) (.int .i64 ls) (.slice (some ⟨pb, po, none⟩) m2 prc) 27
    clear hS hb5 hcells hm13 hmr HDP HA HB3
    go_wp2_with fail
    refine (implPack2 id ls m2 K V _ prc _ (by have := HM.out; omega) (HC5.out.below (below_new _ _))).mono ?_
    rintro e w6 ⟨sa, sc, rfl, hb6, ho, hsc⟩
    have HOB : Hid (BytesAt w6 sa (if pf id ls m2 K V = 0 then pgb id ls m2 K V else []).length (zOf (if pf id ls m2 K V = 0 then pgb id ls m2 K V else []))) := ho.at
    have HB6 : Hid (Below w.heap.size w w6) := below_then (below_then HB5.out (below_new _ _)) hb6
    have HC6 : Hid (CellsAt w6 (some ⟨pb, po, none⟩) m2 K V) := (HC5.out.below (below_new _ _)).below hb6
    replace BP := BP.below hb6
    have HPF : Hid (∀ u, CellsAt u (some ⟨pb, po, none⟩) m2 K V → Calls Try.prog 13 #[.agg #[.int .i64 id, .int .i64 ls, .slice (some ⟨pb, po, none⟩) m2 prc]] u fun e w' => e = .returned (.int .i64 (pf id ls m2 K V)) ∧ Below u.heap.size u w') := fun u h => specFault_any id ls m2 K V _ prc u (by have := HM.out; omega) h
    clear hb6 ho HB5 HC5
    by_cases hC2 : pf id ls m2 K V = 0
    case neg =>
      simp only [if_neg hC2] at *
      clear HOB hsc
      have hC3 : (pf id ls m2 K V != 0) = true := by simp [hC2]
      generalize pf id ls m2 K V = C2 at *
      go_upto_region 9 with fail
      obtain ⟨W6, hW6⟩ : ∃ y, y = w6.alloc (.cells #[.int .i64 C2, .slice sa 0 sc] 32) := ⟨_, rfl⟩
      have hb7 : Below w6.heap.size w6 W6 := by rw [hW6]; exact below_new _ _
      have D0 : W6.cell? ⟨w6.heap.size, 0, none⟩ = some (.int .i64 C2) := by rw [hW6]; simp [go_sem]
      obtain ⟨P0, P1, P2⟩ := BP.below hb7
      replace HB6 : Hid (Below w.heap.size w W6) := below_then HB6.out hb7
      replace HC6 : Hid (CellsAt W6 (some ⟨pb, po, none⟩) m2 K V) := HC6.out.below hb7
      rw [← hW6]
      generalize w6.heap.size = Bb at *
      generalize w5.heap.size = Pp at *
      clear hW6 hb7 BP
      go_upto_region 10 with fail
      clear hC2 hC3
      refine wp_region_E 999 (S := fun u => Below W6.heap.size W6 u) (by kernel_rfl) ((Below.refl _ _).drew) (fun hS => ?_)
      obtain ⟨u0, hu0⟩ : ∃ y, y = W6.drew := ⟨_, rfl⟩
      rw [← hu0] at hS ⊢
      clear hu0
      refine wpAnyE_takeD (L := 999) (i := 0) (v := .agg #[.int .i64 id, .int .i64 ls, .slice (some ⟨pb, po, none⟩) m2 prc]) (some 47) rfl rfl (by kernel_rfl) (by kernel_rfl) (by kernel_rfl) (by kernel_rfl) (fun _ _ _ h => h) (Or.inl ⟨by kernel_rfl, by intro u hSu; have h0 := cell_below P0 hSu; have h1 := cell_below P1 hSu; have h2 := cell_below P2 hSu; go_simp⟩) hS ?_
      try simp only [Act.put, List.setIfInBounds_toArray, List.set_cons_zero, List.set_cons_succ]
      refine wpAnyE_takeD (L := 999) (i := 2) (v := .pointer (some ⟨Bb, 0, none⟩)) (some 49) rfl rfl (by kernel_rfl) (by kernel_rfl) (by kernel_rfl) (by kernel_rfl) (fun _ _ _ h => h) (Or.inl ⟨by kernel_rfl, by intro u hSu; go_simp⟩) hS ?_
      try simp only [Act.put, List.setIfInBounds_toArray, List.set_cons_zero, List.set_cons_succ]
      refine wpAnyE_takeD (L := 999) (i := 3) (v := .int .i64 C2) (some 50) rfl rfl (by kernel_rfl) (by kernel_rfl) (by kernel_rfl) (by kernel_rfl) (fun _ _ _ h => h) (Or.inl ⟨by kernel_rfl, by intro u hSu; have h0 := cell_below D0 hSu; go_simp⟩) hS ?_
      try simp only [Act.put, List.setIfInBounds_toArray, List.set_cons_zero, List.set_cons_succ]
      refine wpAnyE_ready (rs := [1]) (by kernel_rfl) (by simp) ?_
      refine AllReadyE.cons rfl (fun K9 hK => ?_) AllReadyE.nil
      go_simp
      refine (HPF.out _ (HC6.out.below hS)).mono ?_
      rintro e u1 ⟨rfl, hbu⟩
      refine hK.out _ _ (below_then hS hbu) (fun hS9 => ?_)
      try simp only [Act.put, List.setIfInBounds_toArray, List.set_cons_zero, List.set_cons_succ]
      clear hK K9 hS hbu
      have hS := hS9
      clear hS9
      refine wpAnyE_takeD (L := 999) (i := 4) (v := .bool (C2 == C2)) (some 51) rfl rfl (by kernel_rfl) (by kernel_rfl) (by kernel_rfl) (by kernel_rfl) (fun _ _ _ h => h) (Or.inl ⟨by kernel_rfl, by intro u hSu; go_simp⟩) hS ?_
      try simp only [Act.put, List.setIfInBounds_toArray, List.set_cons_zero, List.set_cons_succ]
      refine wpAnyE_takeD (L := 999) (i := 5) (v := .bool (C2 == C2)) (some 2) rfl rfl (by kernel_rfl) (by kernel_rfl) (by kernel_rfl) (by kernel_rfl) (fun _ _ _ h => h) (Or.inl ⟨by kernel_rfl, by intro u hSu; go_simp⟩) hS ?_
      try simp only [Act.put, List.setIfInBounds_toArray, List.set_cons_zero, List.set_cons_succ]
      refine wpAnyE_done (by kernel_rfl) ?_ _
      go_simp
      go_wp2_with fail
      go_ret
      exact ⟨ret_bool (by simp), below_then HB6.out hS⟩
    have g12 := (good_of hC2).gn
    have HUB : Hid (∀ u, 48 ≤ sc → BytesAt u sa 48 (zOf (pgb id ls m2 K V)) → Calls Try.prog 9 #[.slice sa 48 sc] u fun e w' => ∃ ra rc, e = .returned (.agg #[.int .i64 0, .int .i64 id, .int .i64 ls, .slice ra m2 rc]) ∧ Below u.heap.size u w' ∧ CellsAt w' ra m2 K V) := fun u h1 h2 => unpack_back hC2 sa sc h1 u h2
    simp only [if_pos hC2, pgb_48 g12] at *
    rw [hC2]
    clear hC2 g12 HPF
    have BB := Box2.new w6 (.int .i64 0) (.slice sa 48 sc) 32
    have HSC : Hid (48 ≤ sc) := hsc
    clear hsc
    go_wp2_with fail
    refine (HUB.out _ HSC.out (HOB.out.below (below_new _ _))).mono ?_
    rintro e w7 ⟨ra2, rc2, rfl, hb7, hcr⟩
    have HB7 : Hid (Below w.heap.size w w7) := below_then (below_then HB6.out (below_new _ _)) hb7
    have HC7 : Hid (CellsAt w7 (some ⟨pb, po, none⟩) m2 K V) := (HC6.out.below (below_new _ _)).below hb7
    have HR7 : Hid (CellsAt w7 ra2 m2 K V) := hcr
    replace BP := (BP.alloc _).below hb7
    replace BB := BB.below hb7
    clear hb7 hcr HB6 HC6 HOB HUB HSC
    go_upto_region 12 with fail
    obtain ⟨W8, hW8⟩ : ∃ y, y = w7.alloc (.cells #[.int .i64 0, .int .i64 id, .int .i64 ls, .slice ra2 m2 rc2] 29) := ⟨_, rfl⟩
    have hb8 : Below w7.heap.size w7 W8 := by rw [hW8]; exact below_new _ _
    have BR : Box4 W8 w7.heap.size (.int .i64 0) (.int .i64 id) (.int .i64 ls) (.slice ra2 m2 rc2) := by rw [hW8]; exact Box4.new _ _ _ _ _ _
    obtain ⟨P0, P1, P2⟩ := BP.below hb8
    obtain ⟨D0, D1⟩ := BB.below hb8
    obtain ⟨E0, E1, E2, E3⟩ := BR
    have HB8 : Hid (Below w.heap.size w W8) := below_then HB7.out hb8
    have HC8 : Hid (CellsAt W8 (some ⟨pb, po, none⟩) m2 K V) := HC7.out.below hb8
    have HR8 : Hid (CellsAt W8 ra2 m2 K V) := HR7.out.below hb8
    rw [← hW8]
    generalize w7.heap.size = Rr at *
    generalize w6.heap.size = Bb at *
    generalize w5.heap.size = Pp at *
    clear hW8 hb8 BP BB HB7 HC7 HR7
    have hid : (id == id) = true := by simp
    have hls : (ls == ls) = true := by simp
    go_wp2_with fail
    refine (lwCells_any m2 K V ra2 _ rc2 prc _ (by have := HM.out; omega) HR8.out HC8.out).mono ?_
    rintro e w9 ⟨rfl, hb9⟩
    have HB9 : Hid (Below w.heap.size w w9) := below_then HB8.out hb9
    clear hb9 HB8
    go_wp2_with fail
    go_ret
    exact ⟨rfl, HB9.out⟩
  · have HSU : Hid (∀ u, BA u b 0 n y → b < u.heap.size → Calls Try.prog 11 #[.slice (some ⟨b, 0, none⟩) n c] u fun e w' => ∃ sa sc, e = .returned (.agg #[.int .i64 (upc y n), .int .i64 0, .int .i64 0, .slice sa 0 sc]) ∧ Below u.heap.size u w') := fun u h hl => by
      refine (HSU0.out u h hl).mono ?_
      rintro e w' ⟨sa, sc, rfl, hb, -⟩
      refine ⟨sa, sc, ?_, hb⟩
      simp only [if_neg hC]
    simp only [if_neg hC]
    have hC1 : (upc y n == 0) = false := by simp [hC]
    have hC2 : (upc y n != 0) = true := by simp [hC]
    have hC3 : (upc y n != upc y n) = false := by simp
    clear HSU0 HO2
    generalize upc y n = C at *
    obtain ⟨I1, hI1⟩ : ∃ x : Int, x = 0 := ⟨_, rfl⟩
    obtain ⟨L1, hL1⟩ : ∃ x : Int, x = 0 := ⟨_, rfl⟩
    obtain ⟨m, hm⟩ : ∃ x : Nat, x = 0 := ⟨_, rfl⟩
    clear hC
    go_upto_region 5 with fail
    obtain ⟨W3, hW3⟩ : ∃ y, y = w2.alloc (.cells #[.int .i64 C, .int .i64 0, .int .i64 0, .slice ra 0 rc] 29) := ⟨_, rfl⟩
    have hb3 : Below w2.heap.size w2 W3 := by rw [hW3]; exact below_new _ _
    have A0 : W3.cell? ⟨w2.heap.size, 0, none⟩ = some (.int .i64 C) := by rw [hW3]; simp [go_sem]
    have HB3 : Hid (Below w.heap.size w W3) := below_then HB2.out hb3
    have HY3 : Hid (BA W3 b 0 n y) := HY2.out.below hb3
    have HBL : Hid (b < W3.heap.size) := Nat.lt_of_lt_of_le HBL2.out hb3.size
    rw [← hW3]
    generalize w2.heap.size = U at *
    clear hW3 hb3 HB2 HY2 HBL2 hI1 hL1 hm
    refine wp_region_E 999 (S := fun u => Below W3.heap.size W3 u) (by kernel_rfl) ((Below.refl _ _).drew) (fun hS => ?_)
    obtain ⟨u0, hu0⟩ : ∃ y, y = W3.drew := ⟨_, rfl⟩
    rw [← hu0] at hS ⊢
    clear hu0
    refine wpAnyE_takeD (L := 999) (i := 0) (v := .pointer (some ⟨U, 0, none⟩)) (some 14) rfl rfl (by kernel_rfl) (by kernel_rfl) (by kernel_rfl) (by kernel_rfl) (fun _ _ _ h => h) (Or.inl ⟨by kernel_rfl, by intro u hSu; go_simp⟩) hS ?_
    try simp only [Act.put, List.setIfInBounds_toArray, List.set_cons_zero, List.set_cons_succ]
    refine wpAnyE_takeD (L := 999) (i := 1) (v := .int .i64 C) (some 15) rfl rfl (by kernel_rfl) (by kernel_rfl) (by kernel_rfl) (by kernel_rfl) (fun _ _ _ h => h) (Or.inl ⟨by kernel_rfl, by intro u hSu; have h0 := cell_below A0 hSu; go_simp⟩) hS ?_
    try simp only [Act.put, List.setIfInBounds_toArray, List.set_cons_zero, List.set_cons_succ]
    refine wpAnyE_takeD (L := 999) (i := 2) (v := .bool false) (some 16) rfl rfl (by kernel_rfl) (by kernel_rfl) (by kernel_rfl) (by kernel_rfl) (fun _ _ _ h => h) (Or.inl ⟨by kernel_rfl, by intro u hSu; go_simp⟩) hS ?_
    try simp only [Act.put, List.setIfInBounds_toArray, List.set_cons_zero, List.set_cons_succ]
    refine wpAnyE_takeD (L := 999) (i := 3) (v := .bool false) (some 17) rfl rfl (by kernel_rfl) (by kernel_rfl) (by kernel_rfl) (by kernel_rfl) (fun _ _ _ h => h) (Or.inl ⟨by kernel_rfl, by intro u hSu; go_simp⟩) hS ?_
    try simp only [Act.put, List.setIfInBounds_toArray, List.set_cons_zero, List.set_cons_succ]
    refine wpAnyE_takeD (L := 999) (i := 4) (v := undef) (some 18) rfl rfl (by kernel_rfl) (by kernel_rfl) (by kernel_rfl) (by kernel_rfl) (fun _ _ _ h => h) (Or.inr ⟨by kernel_rfl, rfl⟩) hS ?_
    try simp only [Act.put, List.setIfInBounds_toArray, List.set_cons_zero, List.set_cons_succ]
    refine wpAnyE_takeD (L := 999) (i := 5) (v := undef) (some 19) rfl rfl (by kernel_rfl) (by kernel_rfl) (by kernel_rfl) (by kernel_rfl) (fun _ _ _ h => h) (Or.inr ⟨by kernel_rfl, rfl⟩) hS ?_
    try simp only [Act.put, List.setIfInBounds_toArray, List.set_cons_zero, List.set_cons_succ]
    refine wpAnyE_takeD (L := 999) (i := 6) (v := undef) (some 20) rfl rfl (by kernel_rfl) (by kernel_rfl) (by kernel_rfl) (by kernel_rfl) (fun _ _ _ h => h) (Or.inr ⟨by kernel_rfl, rfl⟩) hS ?_
    try simp only [Act.put, List.setIfInBounds_toArray, List.set_cons_zero, List.set_cons_succ]
    refine wpAnyE_takeD (L := 999) (i := 7) (v := undef) (some 21) rfl rfl (by kernel_rfl) (by kernel_rfl) (by kernel_rfl) (by kernel_rfl) (fun _ _ _ h => h) (Or.inr ⟨by kernel_rfl, rfl⟩) hS ?_
    try simp only [Act.put, List.setIfInBounds_toArray, List.set_cons_zero, List.set_cons_succ]
    refine wpAnyE_takeD (L := 999) (i := 9) (v := undef) (some 23) rfl rfl (by kernel_rfl) (by kernel_rfl) (by kernel_rfl) (by kernel_rfl) (fun _ _ _ h => h) (Or.inr ⟨by kernel_rfl, rfl⟩) hS ?_
    try simp only [Act.put, List.setIfInBounds_toArray, List.set_cons_zero, List.set_cons_succ]
    refine wpAnyE_takeD (L := 999) (i := 8) (v := undef) (some 22) rfl rfl (by kernel_rfl) (by kernel_rfl) (by kernel_rfl) (by kernel_rfl) (fun _ _ _ h => h) (Or.inr ⟨by kernel_rfl, rfl⟩) hS ?_
    try simp only [Act.put, List.setIfInBounds_toArray, List.set_cons_zero, List.set_cons_succ]
    refine wpAnyE_takeD (L := 999) (i := 10) (v := undef) (some 24) rfl rfl (by kernel_rfl) (by kernel_rfl) (by kernel_rfl) (by kernel_rfl) (fun _ _ _ h => h) (Or.inr ⟨by kernel_rfl, rfl⟩) hS ?_
    try simp only [Act.put, List.setIfInBounds_toArray, List.set_cons_zero, List.set_cons_succ]
    refine wpAnyE_takeD (L := 999) (i := 11) (v := undef) (some 25) rfl rfl (by kernel_rfl) (by kernel_rfl) (by kernel_rfl) (by kernel_rfl) (fun _ _ _ h => h) (Or.inr ⟨by kernel_rfl, rfl⟩) hS ?_
    try simp only [Act.put, List.setIfInBounds_toArray, List.set_cons_zero, List.set_cons_succ]
    refine wpAnyE_takeD (L := 999) (i := 12) (v := .bool false) (some 26) rfl rfl (by kernel_rfl) (by kernel_rfl) (by kernel_rfl) (by kernel_rfl) (fun _ _ _ h => h) (Or.inl ⟨by kernel_rfl, by intro u hSu; go_simp⟩) hS ?_
    try simp only [Act.put, List.setIfInBounds_toArray, List.set_cons_zero, List.set_cons_succ]
    refine wpAnyE_takeD (L := 999) (i := 13) (v := .bool false) (some 27) rfl rfl (by kernel_rfl) (by kernel_rfl) (by kernel_rfl) (by kernel_rfl) (fun _ _ _ h => h) (Or.inl ⟨by kernel_rfl, by intro u hSu; go_simp⟩) hS ?_
    try simp only [Act.put, List.setIfInBounds_toArray, List.set_cons_zero, List.set_cons_succ]
    refine wpAnyE_takeD (L := 999) (i := 14) (v := .pointer (some ⟨U, 0, none⟩)) (some 28) rfl rfl (by kernel_rfl) (by kernel_rfl) (by kernel_rfl) (by kernel_rfl) (fun _ _ _ h => h) (Or.inl ⟨by kernel_rfl, by intro u hSu; go_simp⟩) hS ?_
    try simp only [Act.put, List.setIfInBounds_toArray, List.set_cons_zero, List.set_cons_succ]
    refine wpAnyE_takeD (L := 999) (i := 15) (v := .int .i64 C) (some 29) rfl rfl (by kernel_rfl) (by kernel_rfl) (by kernel_rfl) (by kernel_rfl) (fun _ _ _ h => h) (Or.inl ⟨by kernel_rfl, by intro u hSu; have h0 := cell_below A0 hSu; go_simp⟩) hS ?_
    try simp only [Act.put, List.setIfInBounds_toArray, List.set_cons_zero, List.set_cons_succ]
    refine wpAnyE_takeD (L := 999) (i := 16) (v := .bool true) (some 30) rfl rfl (by kernel_rfl) (by kernel_rfl) (by kernel_rfl) (by kernel_rfl) (fun _ _ _ h => h) (Or.inl ⟨by kernel_rfl, by intro u hSu; go_simp⟩) hS ?_
    try simp only [Act.put, List.setIfInBounds_toArray, List.set_cons_zero, List.set_cons_succ]
    refine wpAnyE_takeD (L := 999) (i := 17) (v := .bool true) (some 31) rfl rfl (by kernel_rfl) (by kernel_rfl) (by kernel_rfl) (by kernel_rfl) (fun _ _ _ h => h) (Or.inl ⟨by kernel_rfl, by intro u hSu; go_simp⟩) hS ?_
    try simp only [Act.put, List.setIfInBounds_toArray, List.set_cons_zero, List.set_cons_succ]
    refine wpAnyE_takeD (L := 999) (i := 18) (v := .slice (some ⟨b, 0, none⟩) n c) (some 32) rfl rfl (by kernel_rfl) (by kernel_rfl) (by kernel_rfl) (by kernel_rfl) (fun _ _ _ h => h) (Or.inl ⟨by kernel_rfl, by intro u hSu; go_simp⟩) hS ?_
    try simp only [Act.put, List.setIfInBounds_toArray, List.set_cons_zero, List.set_cons_succ]
    refine wpAnyE_takeD (L := 999) (i := 21) (v := .pointer (some ⟨U, 0, none⟩)) (some 35) rfl rfl (by kernel_rfl) (by kernel_rfl) (by kernel_rfl) (by kernel_rfl) (fun _ _ _ h => h) (Or.inl ⟨by kernel_rfl, by intro u hSu; go_simp⟩) hS ?_
    try simp only [Act.put, List.setIfInBounds_toArray, List.set_cons_zero, List.set_cons_succ]
    refine wpAnyE_takeD (L := 999) (i := 22) (v := .int .i64 C) (some 36) rfl rfl (by kernel_rfl) (by kernel_rfl) (by kernel_rfl) (by kernel_rfl) (fun _ _ _ h => h) (Or.inl ⟨by kernel_rfl, by intro u hSu; have h0 := cell_below A0 hSu; go_simp⟩) hS ?_
    try simp only [Act.put, List.setIfInBounds_toArray, List.set_cons_zero, List.set_cons_succ]
    refine wpAnyE_ready (rs := [19]) (by kernel_rfl) (by simp) ?_
    refine AllReadyE.cons rfl (fun K9 hK => ?_) AllReadyE.nil
    rw [if_pos (by kernel_rfl)]
    go_simp
    refine (HSU.out _ (HY3.out.below hS) (Nat.lt_of_lt_of_le HBL.out hS.size)).mono ?_
    rintro e u1 ⟨sa, sc, rfl, hbu⟩
    refine hK.out _ _ (below_then hS hbu) (fun hS9 => ?_)
    try simp only [Act.put, List.setIfInBounds_toArray, List.set_cons_zero, List.set_cons_succ]
    clear hK K9 hS hbu
    have hS := hS9
    clear hS9
    refine wpAnyE_takeD (L := 999) (i := 20) (v := .int .i64 C) (some 34) rfl rfl (by kernel_rfl) (by kernel_rfl) (by kernel_rfl) (by kernel_rfl) (fun _ _ _ h => h) (Or.inl ⟨by kernel_rfl, by intro u hSu; have hf : (Instr.field 29 (.agg #[.int .i64 C, .int .i64 0, .int .i64 0, .slice sa 0 sc]) 0).run Try.prog u = .ok (.int .i64 C) u := (by kernel_rfl); go_simp⟩) hS ?_
    try simp only [Act.put, List.setIfInBounds_toArray, List.set_cons_zero, List.set_cons_succ]
    refine wpAnyE_takeD (L := 999) (i := 23) (v := .bool false) (some 37) rfl rfl (by kernel_rfl) (by kernel_rfl) (by kernel_rfl) (by kernel_rfl) (fun _ _ _ h => h) (Or.inl ⟨by kernel_rfl, by intro u hSu; go_simp⟩) hS ?_
    try simp only [Act.put, List.setIfInBounds_toArray, List.set_cons_zero, List.set_cons_succ]
    refine wpAnyE_takeD (L := 999) (i := 24) (v := .bool false) (some 38) rfl rfl (by kernel_rfl) (by kernel_rfl) (by kernel_rfl) (by kernel_rfl) (fun _ _ _ h => h) (Or.inl ⟨by kernel_rfl, by intro u hSu; go_simp⟩) hS ?_
    try simp only [Act.put, List.setIfInBounds_toArray, List.set_cons_zero, List.set_cons_succ]
    refine wpAnyE_takeD (L := 999) (i := 25) (v := .bool false) (some 39) rfl rfl (by kernel_rfl) (by kernel_rfl) (by kernel_rfl) (by kernel_rfl) (fun _ _ _ h => h) (Or.inl ⟨by kernel_rfl, by intro u hSu; go_simp⟩) hS ?_
    try simp only [Act.put, List.setIfInBounds_toArray, List.set_cons_zero, List.set_cons_succ]
    refine wpAnyE_done (by kernel_rfl) ?_ _
    go_simp
    clear hC1 hC2 hC3
    go_wp2_with fail
    refine (HDP.out _ (HA.out.below (below_then HB3.out hS))).mono ?_
    rintro e w5 ⟨id, ls, pb, po, m2, prc, K, V, rfl, hm13, hmr, hcells, hb5⟩
    have HB5 : Hid (Below w.heap.size w w5) := below_then (below_then HB3.out hS) hb5
    have HC5 : Hid (CellsAt w5 (some ⟨pb, po, none⟩) m2 K V) := hcells
    have HM : Hid (m2 ≤ 13) := hm13
    have BP := Box3.new w5 (.int .i64 id) (.int .i64 ls) (.slice (some ⟨pb, po, none⟩) m2 prc) 27
    clear hS hb5 hcells hm13 hmr HDP HA HB3
    go_wp2_with fail
    refine (implPack2 id ls m2 K V _ prc _ (by have := HM.out; omega) (HC5.out.below (below_new _ _))).mono ?_
    rintro e w6 ⟨sa, sc, rfl, hb6, ho, hsc⟩
    have HOB : Hid (BytesAt w6 sa (if pf id ls m2 K V = 0 then pgb id ls m2 K V else []).length (zOf (if pf id ls m2 K V = 0 then pgb id ls m2 K V else []))) := ho.at
    have HB6 : Hid (Below w.heap.size w w6) := below_then (below_then HB5.out (below_new _ _)) hb6
    have HC6 : Hid (CellsAt w6 (some ⟨pb, po, none⟩) m2 K V) := (HC5.out.below (below_new _ _)).below hb6
    replace BP := BP.below hb6
    have HPF : Hid (∀ u, CellsAt u (some ⟨pb, po, none⟩) m2 K V → Calls Try.prog 13 #[.agg #[.int .i64 id, .int .i64 ls, .slice (some ⟨pb, po, none⟩) m2 prc]] u fun e w' => e = .returned (.int .i64 (pf id ls m2 K V)) ∧ Below u.heap.size u w') := fun u h => specFault_any id ls m2 K V _ prc u (by have := HM.out; omega) h
    clear hb6 ho HB5 HC5
    by_cases hC2 : pf id ls m2 K V = 0
    case neg =>
      simp only [if_neg hC2] at *
      clear HOB hsc
      have hC3 : (pf id ls m2 K V != 0) = true := by simp [hC2]
      generalize pf id ls m2 K V = C2 at *
      go_upto_region 9 with fail
      obtain ⟨W6, hW6⟩ : ∃ y, y = w6.alloc (.cells #[.int .i64 C2, .slice sa 0 sc] 32) := ⟨_, rfl⟩
      have hb7 : Below w6.heap.size w6 W6 := by rw [hW6]; exact below_new _ _
      have D0 : W6.cell? ⟨w6.heap.size, 0, none⟩ = some (.int .i64 C2) := by rw [hW6]; simp [go_sem]
      obtain ⟨P0, P1, P2⟩ := BP.below hb7
      replace HB6 : Hid (Below w.heap.size w W6) := below_then HB6.out hb7
      replace HC6 : Hid (CellsAt W6 (some ⟨pb, po, none⟩) m2 K V) := HC6.out.below hb7
      rw [← hW6]
      generalize w6.heap.size = Bb at *
      generalize w5.heap.size = Pp at *
      clear hW6 hb7 BP
      go_upto_region 10 with fail
      clear hC2 hC3
      refine wp_region_E 999 (S := fun u => Below W6.heap.size W6 u) (by kernel_rfl) ((Below.refl _ _).drew) (fun hS => ?_)
      obtain ⟨u0, hu0⟩ : ∃ y, y = W6.drew := ⟨_, rfl⟩
      rw [← hu0] at hS ⊢
      clear hu0
      refine wpAnyE_takeD (L := 999) (i := 0) (v := .agg #[.int .i64 id, .int .i64 ls, .slice (some ⟨pb, po, none⟩) m2 prc]) (some 47) rfl rfl (by kernel_rfl) (by kernel_rfl) (by kernel_rfl) (by kernel_rfl) (fun _ _ _ h => h) (Or.inl ⟨by kernel_rfl, by intro u hSu; have h0 := cell_below P0 hSu; have h1 := cell_below P1 hSu; have h2 := cell_below P2 hSu; go_simp⟩) hS ?_
      try simp only [Act.put, List.setIfInBounds_toArray, List.set_cons_zero, List.set_cons_succ]
      refine wpAnyE_takeD (L := 999) (i := 2) (v := .pointer (some ⟨Bb, 0, none⟩)) (some 49) rfl rfl (by kernel_rfl) (by kernel_rfl) (by kernel_rfl) (by kernel_rfl) (fun _ _ _ h => h) (Or.inl ⟨by kernel_rfl, by intro u hSu; go_simp⟩) hS ?_
      try simp only [Act.put, List.setIfInBounds_toArray, List.set_cons_zero, List.set_cons_succ]
      refine wpAnyE_takeD (L := 999) (i := 3) (v := .int .i64 C2) (some 50) rfl rfl (by kernel_rfl) (by kernel_rfl) (by kernel_rfl) (by kernel_rfl) (fun _ _ _ h => h) (Or.inl ⟨by kernel_rfl, by intro u hSu; have h0 := cell_below D0 hSu; go_simp⟩) hS ?_
      try simp only [Act.put, List.setIfInBounds_toArray, List.set_cons_zero, List.set_cons_succ]
      refine wpAnyE_ready (rs := [1]) (by kernel_rfl) (by simp) ?_
      refine AllReadyE.cons rfl (fun K9 hK => ?_) AllReadyE.nil
      go_simp
      refine (HPF.out _ (HC6.out.below hS)).mono ?_
      rintro e u1 ⟨rfl, hbu⟩
      refine hK.out _ _ (below_then hS hbu) (fun hS9 => ?_)
      try simp only [Act.put, List.setIfInBounds_toArray, List.set_cons_zero, List.set_cons_succ]
      clear hK K9 hS hbu
      have hS := hS9
      clear hS9
      refine wpAnyE_takeD (L := 999) (i := 4) (v := .bool (C2 == C2)) (some 51) rfl rfl (by kernel_rfl) (by kernel_rfl) (by kernel_rfl) (by kernel_rfl) (fun _ _ _ h => h) (Or.inl ⟨by kernel_rfl, by intro u hSu; go_simp⟩) hS ?_
      try simp only [Act.put, List.setIfInBounds_toArray, List.set_cons_zero, List.set_cons_succ]
      refine wpAnyE_takeD (L := 999) (i := 5) (v := .bool (C2 == C2)) (some 2) rfl rfl (by kernel_rfl) (by kernel_rfl) (by kernel_rfl) (by kernel_rfl) (fun _ _ _ h => h) (Or.inl ⟨by kernel_rfl, by intro u hSu; go_simp⟩) hS ?_
      try simp only [Act.put, List.setIfInBounds_toArray, List.set_cons_zero, List.set_cons_succ]
      refine wpAnyE_done (by kernel_rfl) ?_ _
      go_simp
      go_wp2_with fail
      go_ret
      exact ⟨ret_bool (by simp), below_then HB6.out hS⟩
    have g12 := (good_of hC2).gn
    have HUB : Hid (∀ u, 48 ≤ sc → BytesAt u sa 48 (zOf (pgb id ls m2 K V)) → Calls Try.prog 9 #[.slice sa 48 sc] u fun e w' => ∃ ra rc, e = .returned (.agg #[.int .i64 0, .int .i64 id, .int .i64 ls, .slice ra m2 rc]) ∧ Below u.heap.size u w' ∧ CellsAt w' ra m2 K V) := fun u h1 h2 => unpack_back hC2 sa sc h1 u h2
    simp only [if_pos hC2, pgb_48 g12] at *
    rw [hC2]
    clear hC2 g12 HPF
    have BB := Box2.new w6 (.int .i64 0) (.slice sa 48 sc) 32
    have HSC : Hid (48 ≤ sc) := hsc
    clear hsc
    go_wp2_with fail
    refine (HUB.out _ HSC.out (HOB.out.below (below_new _ _))).mono ?_
    rintro e w7 ⟨ra2, rc2, rfl, hb7, hcr⟩
    have HB7 : Hid (Below w.heap.size w w7) := below_then (below_then HB6.out (below_new _ _)) hb7
    have HC7 : Hid (CellsAt w7 (some ⟨pb, po, none⟩) m2 K V) := (HC6.out.below (below_new _ _)).below hb7
    have HR7 : Hid (CellsAt w7 ra2 m2 K V) := hcr
    replace BP := (BP.alloc _).below hb7
    replace BB := BB.below hb7
    clear hb7 hcr HB6 HC6 HOB HUB HSC
    go_upto_region 12 with fail
    obtain ⟨W8, hW8⟩ : ∃ y, y = w7.alloc (.cells #[.int .i64 0, .int .i64 id, .int .i64 ls, .slice ra2 m2 rc2] 29) := ⟨_, rfl⟩
    have hb8 : Below w7.heap.size w7 W8 := by rw [hW8]; exact below_new _ _
    have BR : Box4 W8 w7.heap.size (.int .i64 0) (.int .i64 id) (.int .i64 ls) (.slice ra2 m2 rc2) := by rw [hW8]; exact Box4.new _ _ _ _ _ _
    obtain ⟨P0, P1, P2⟩ := BP.below hb8
    obtain ⟨D0, D1⟩ := BB.below hb8
    obtain ⟨E0, E1, E2, E3⟩ := BR
    have HB8 : Hid (Below w.heap.size w W8) := below_then HB7.out hb8
    have HC8 : Hid (CellsAt W8 (some ⟨pb, po, none⟩) m2 K V) := HC7.out.below hb8
    have HR8 : Hid (CellsAt W8 ra2 m2 K V) := HR7.out.below hb8
    rw [← hW8]
    generalize w7.heap.size = Rr at *
    generalize w6.heap.size = Bb at *
    generalize w5.heap.size = Pp at *
    clear hW8 hb8 BP BB HB7 HC7 HR7
    have hid : (id == id) = true := by simp
    have hls : (ls == ls) = true := by simp
    go_wp2_with fail
    refine (lwCells_any m2 K V ra2 _ rc2 prc _ (by have := HM.out; omega) HR8.out HC8.out).mono ?_
    rintro e w9 ⟨rfl, hb9⟩
    have HB9 : Hid (Below w.heap.size w w9) := below_then HB8.out hb9
    clear hb9 HB8
    go_wp2_with fail
    go_ret
    exact ⟨rfl, HB9.out⟩
end Go.Proofs.Ytnhkjdcbaphfcaa
