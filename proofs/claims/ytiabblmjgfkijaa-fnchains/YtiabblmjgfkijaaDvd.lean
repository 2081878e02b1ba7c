/- Draws: spec.DrawPushVersion. -/
import Derived.Test.YtiabblmjgfkijaaDvc
import Derived.Test.YtiabblmjgfkijaaVg
namespace Go.Proofs.Ytiabblmjgfkijaa
open Go.RowKit Go.Deep
set_option linter.unusedVariables false
set_option linter.unusedSimpArgs false
set_option maxRecDepth 20000

def DrawPvA (w : World) (e : Ending) (w' : World) : Prop := ∃ (g n c : Nat) (R : Nat → Vr) (x o : Int) (gn : Bool) (v : Int), e = .returned (.tuple #[.slice (some ⟨g, 0, none⟩) n c, .agg #[.int .i64 x, .int .i64 o], .bool gn, .int .i64 v]) ∧ n ≤ 13 ∧ n ≤ c ∧ VersAt w' (some ⟨g, 0, none⟩) n R ∧ Below w.heap.size w w'
theorem src_keep {w w2 : World} {S V : Nat} {a : Option Addr} {kk cap : Nat} {z : Nat → Int} {t : Nat} (h : Src w S a kk cap z t) (hz : w2.heap.size = w.heap.size) (e : ∀ k, k ≠ V → w2.heap[k]? = w.heap[k]?) (hVS : V ≠ S) (hl : S < V ∧ ∀ b off, a = some ⟨b, off, none⟩ → kk = 0 ∨ b < S) : Src w2 S a kk cap z t :=
  src_block h (by rw [hz]; exact Nat.le_refl _) fun b hb => e b (by have := hl.1; omega)
set_option maxHeartbeats 16000000 in
theorem drawPv_any (a : Option Addr) (kk cap : Nat) (z : Nat → Int) (w : World) (hk : kk ≤ 1048576) (hz : Byt kk z) (h : BytesAt w a kk z) :
    Calls Try.prog 12 #[.slice a kk cap] w (DrawPvA w) := by
  have HA : Hid (BytesAt w a kk z) := h
  have HZ : Hid (Byt kk z) := hz
  clear h hz
  go_enter Try.func12, Try.ntmps12
  go_wp2_with fail
  have BX := BoxR.new w (.int .i64 0) (.int .i64 0) 32
  have HB : Hid (Below w.heap.size w (w.alloc (.cells #[.int .i64 0, .int .i64 0] 32))) := below_new _ _
  have HA0 : Hid (BytesAt (w.alloc (.cells #[.int .i64 0, .int .i64 0] 32)) a kk z) := HA.out.below (below_new _ _)
  obtain ⟨B, hB⟩ : ∃ B, B = w.heap.size := ⟨_, rfl⟩
  have HBW : Hid (w.heap.size ≤ B) := by show w.heap.size ≤ B; omega
  rw [← hB] at BX ⊢
  generalize (w.alloc (.cells #[.int .i64 0, .int .i64 0] 32)) = w0 at *
  have hBl : B < w0.heap.size := Go.block_lt_of_cell BX.1
  refine (l1Source_any a kk cap z w0 hk HZ.out HA0.out).mono ?_
  rintro e w1 ⟨rfl, hb1, hs1, hsrc⟩
  obtain ⟨S, hS⟩ : ∃ S, S = w0.heap.size := ⟨_, rfl⟩
  rw [← hS] at hsrc ⊢
  have hw0 := HB.out.size
  have HSw : Hid (w.heap.size ≤ S) := by show w.heap.size ≤ S; omega
  have HBS : Hid (B ≠ S) := by show B ≠ S; omega
  have HSr : Hid (Src w1 S a kk cap z 0) := hsrc
  have HA1 : Hid (BytesAt w1 a kk z) := HA0.out.below hb1
  replace BX := BX.below hb1
  replace HB : Hid (Below w.heap.size w w1) := below_then HB.out hb1
  clear hsrc hS hB hs1 hb1 HA HA0 hw0 hBl
  have hBl1 : B < w1.heap.size := Go.block_lt_of_cell BX.1
  have hSl1 : S < w1.heap.size := HSr.out.lt
  have HBL : Hid (B < w1.heap.size ∧ S < w1.heap.size) := ⟨hBl1, hSl1⟩
  clear hBl1 hSl1
  go_wp2_with fail
  refine (l5With_any a kk cap z w1 hk HZ.out HA1.out).mono ?_
  rintro e w2 ⟨g, n, c, R, x, o, rfl, hg1, hn13, hnc, hv, hb2⟩
  have HGB : Hid (g ≠ B) := by show g ≠ B; have := HBL.out; omega
  have HGS : Hid (g ≠ S) := by show g ≠ S; have := HBL.out; omega
  clear hg1 HBL
  have HNC : Hid (n ≤ 13 ∧ n ≤ c) := ⟨hn13, hnc⟩
  have HV : Hid (VersAt w2 (some ⟨g, 0, none⟩) n R) := hv
  replace BX := BX.below hb2
  replace HB : Hid (Below w.heap.size w w2) := below_then HB.out hb2
  replace HSr : Hid (Src w2 S a kk cap z 0) := HSr.out.below hb2
  clear hv hb2 hnc hn13 HZ HA1
  go_upto_region 3 with fail
  obtain ⟨W, hW⟩ : ∃ y, y = w2.alloc (.cells #[.int .i64 x, .int .i64 o] 32) := ⟨_, rfl⟩
  have hb4 : Below w2.heap.size w2 W := by rw [hW]; exact below_new _ _
  have BV : BoxR W w2.heap.size (.int .i64 x) (.int .i64 o) := by rw [hW]; exact BoxR.new _ _ _ _
  have hBl : B < w2.heap.size := Go.block_lt_of_cell BX.1
  have hSl : S < w2.heap.size := HSr.out.lt
  have HVS : Hid (w2.heap.size ≠ S) := by show w2.heap.size ≠ S; omega
  have HNE : Hid (w2.heap.size ≠ B) := by show w2.heap.size ≠ B; omega
  have HVW : Hid (w.heap.size ≤ w2.heap.size) := HB.out.size
  have HVF : Hid (S < w2.heap.size ∧ ∀ b off, a = some ⟨b, off, none⟩ → kk = 0 ∨ b < S) := ⟨hSl, fun b off e => HSr.out.far b off e⟩
  have HGV : Hid (0 < n → g < w2.heap.size) := fun hp => by
    obtain ⟨b, off, e, hl, -⟩ := HV.out.first hp
    simp only [Option.some.injEq, Addr.mk.injEq] at e
    omega
  replace BX := BX.below hb4
  replace HB : Hid (Below w.heap.size w W) := below_then HB.out hb4
  replace HV : Hid (VersAt W (some ⟨g, 0, none⟩) n R) := HV.out.below hb4
  replace HSr : Hid (Src W S a kk cap z 0) := HSr.out.below hb4
  rw [← hW]
  clear hW hb4 hBl hSl
  generalize w2.heap.size = V at *
  go_wp2_with fail
  refine (l1Chance_any S a kk cap z 0 2 _ (by omega) (by omega) HSr.out).mono ?_
  rintro e w5 ⟨b, rfl, hn5⟩
  have hd := hn5.dw
  replace BX := BX.dw HBS.out hd
  replace BV := BV.dw HVS.out hd
  replace HB : Hid (Below w.heap.size w w5) := below_dw HB.out HSw.out hd
  replace HV : Hid (VersAt w5 (some ⟨g, 0, none⟩) n R) := HV.out.dw HGS.out hd
  replace HSr : Hid (Src w5 S a kk cap z 1) := hd.2
  clear hd hn5
  cases b with
  | true =>
    go_wp2_with fail
    refine (l5Writer_any n R _ c _ HV.out).mono ?_
    rintro e wt ⟨rfl, hwt⟩
    have hwt' := hwt.symm
    clear hwt
    subst hwt'
    generalize wrt n R = q9 at *
    go_wp2_with fail
    refine (l1Max_any _ _ _).mono ?_
    rintro e wt ⟨m9, rfl, hwt⟩
    have hwt' := hwt.symm
    clear hwt
    subst hwt'
    obtain ⟨p0, p1, pf⟩ := BV
    go_upto_region 5 with fail
    obtain ⟨W6, hW6⟩ : ∃ y, y = (w5.setCell ⟨V, 0, none⟩ (.int .i64 900)).setCell ⟨V, 1, none⟩ (.int .i64 m9) := ⟨_, rfl⟩
    have hbo : ∀ k, k ≠ V → W6.heap[k]? = w5.heap[k]? := fun k hk => by rw [hW6]; exact (Below.heap_setCell _ _ _ _ (by show ¬ k = V; exact hk)).trans (Below.heap_setCell _ _ _ _ (by show ¬ k = V; exact hk))
    have BV : BoxR W6 V (.int .i64 900) (.int .i64 m9) := by
      rw [hW6]
      refine ⟨(setO (by omega)).trans (setS p0), setS ((setO (by omega)).trans p1), fun i => ?_⟩
      rw [World.frozen?_setCell, World.frozen?_setCell]
      exact pf i
    have hbB := hbo B (by have := HNE.out; omega)
    replace BX : BoxR W6 B (.int .i64 0) (.int .i64 0) := ⟨(World.cell?_of_block (w := w5) (a := ⟨B, 0, none⟩) hbB).trans BX.1, (World.cell?_of_block (w := w5) (a := ⟨B, 1, none⟩) hbB).trans BX.2.1, fun i => (World.frozen?_of_block (w := w5) (a := ⟨B, i, none⟩) hbB).trans (BX.2.2 i)⟩
    replace HB : Hid (Below w.heap.size w W6) := by rw [hW6]; exact (HB.out.setCell (p := ⟨V, 0, none⟩) HVW.out _).setCell (p := ⟨V, 1, none⟩) HVW.out _
    have hSz : W6.heap.size = w5.heap.size := by rw [hW6]; simp [World.setCell]
    replace HSr : Hid (Src W6 S a kk cap z 1) := src_keep HSr.out hSz hbo HVS.out HVF.out
    replace HV : Hid (VersAt W6 (some ⟨g, 0, none⟩) n R) := by
      rcases HV.out with h | ⟨b, off, e, hl, hc⟩
      · exact .inl h
      · by_cases hn0 : n = 0
        · exact .inl hn0
        · have hgV := HGV.out (by omega)
          simp only [Option.some.injEq, Addr.mk.injEq, and_true] at e
          obtain ⟨rfl, rfl⟩ := e
          exact .inr ⟨_, _, rfl, by rw [hSz]; exact hl, fun i hi => (hc i hi).block (hbo g (by omega))⟩
    rw [← hW6]
    clear hW6 hbo hbB p0 p1 pf hSz
    obtain ⟨x, hx9⟩ : ∃ y : Int, y = 900 := ⟨_, rfl⟩
    rw [← hx9] at BV
    clear hx9
    obtain ⟨o, ho9⟩ : ∃ y : Int, y = m9 := ⟨_, rfl⟩
    rw [← ho9] at BV
    clear ho9
    go_wp2_with fail
    refine (l1Chance_any S a kk cap z 1 4 _ (by omega) (by omega) HSr.out).mono ?_
    rintro e W ⟨b, rfl, hn5⟩
    have hd := hn5.dw
    replace BX := BX.dw HBS.out hd
    replace BV := BV.dw HVS.out hd
    replace HB : Hid (Below w.heap.size w W) := below_dw HB.out HSw.out hd
    replace HV : Hid (VersAt W (some ⟨g, 0, none⟩) n R) := HV.out.dw HGS.out hd
    obtain ⟨t, ht, HSr⟩ : ∃ t : Nat, t ≤ 10 ∧ Hid (Src W S a kk cap z t) := ⟨2, by omega, hd.2⟩
    clear hd hn5
    replace BV : Box2 W V (.int .i64 x) (.int .i64 o) := ⟨BV.1, BV.2.1⟩
    have hne := HNE.out
    cases b with
    | true =>
      go_upto_region 6 with fail
      refine wp_region_E 999 (S := fun u => Box2 u V (.int .i64 x) (.int .i64 o)) (by kernel_rfl) BV (fun hS => ?_)
      obtain ⟨u0, hu0⟩ : ∃ y, y = W.drew := ⟨_, rfl⟩
      have HB0 : Hid (Below w.heap.size w u0) := by rw [hu0]; exact HB.out.drew
      have HV0 : Hid (VersAt u0 (some ⟨g, 0, none⟩) n R) := by rw [hu0]; exact HV.out.below ((Below.refl _ _).drew)
      have BX0 : BoxR u0 B (.int .i64 0) (.int .i64 0) := by rw [hu0]; exact BX
      have HS0 : Hid (Src u0 S a kk cap z t) := by rw [hu0]; exact HSr.out.drew
      rw [← hu0] at hS ⊢
      clear hu0 BV BX HB HV HSr
      obtain ⟨F, hF⟩ : ∃ F : Nat → Int, F = fun i => if i = 3 then 5 else 0 := ⟨_, rfl⟩
      refine wpAnyE_takeD (L := 999) (i := 0) (v := .slice (some ⟨g, 0, none⟩) n c) (some 24) rfl rfl (by kernel_rfl) (by kernel_rfl) (by kernel_rfl) (by kernel_rfl) (fun _ _ _ h => h) (Or.inl ⟨by kernel_rfl, by intro u hSu; go_simp⟩) hS ?_
      try simp only [Act.put, List.setIfInBounds_toArray, List.set_cons_zero, List.set_cons_succ]
      refine wpAnyE_takeD (L := 999) (i := 1) (v := .agg #[.int .i64 x, .int .i64 o]) (some 25) rfl rfl (by kernel_rfl) (by kernel_rfl) (by kernel_rfl) (by kernel_rfl) (fun _ _ _ h => h) (Or.inl ⟨by kernel_rfl, by intro u hSu; obtain ⟨h0, h1⟩ := hSu; go_simp⟩) hS ?_
      try simp only [Act.put, List.setIfInBounds_toArray, List.set_cons_zero, List.set_cons_succ]
      refine wpAnyE_takeD (L := 999) (i := 2) (v := .pointer (some ⟨S, 0, none⟩)) (some 26) rfl rfl (by kernel_rfl) (by kernel_rfl) (by kernel_rfl) (by kernel_rfl) (fun _ _ _ h => h) (Or.inl ⟨by kernel_rfl, by intro u hSu; go_simp⟩) hS ?_
      try simp only [Act.put, List.setIfInBounds_toArray, List.set_cons_zero, List.set_cons_succ]
      refine wpAnyE_ready (rs := [3]) (by kernel_rfl) (by simp) ?_
      refine AllReadyE.cons rfl (fun K hK => ?_) AllReadyE.nil
      have HB1 : Hid (∀ ob : Obj, Below w.heap.size w (u0.alloc ob)) := fun ob => below_then HB0.out (below_new _ _)
      have HV1 : Hid (∀ ob : Obj, VersAt (u0.alloc ob) (some ⟨g, 0, none⟩) n R) := fun ob => HV0.out.below (below_new _ _)
      have BX1 : ∀ ob : Obj, BoxR (u0.alloc ob) B (.int .i64 0) (.int .i64 0) := fun ob => BX0.below (below_new _ _)
      have HS1 : Hid (∀ ob : Obj, Src (u0.alloc ob) S a kk cap z t) := fun ob => HS0.out.below (below_new _ _)
      go_simp
      refine hK.out _ _ (hS.below (below_new _ _)) (fun hS9 => ?_)
      try simp only [Act.put, List.setIfInBounds_toArray, List.set_cons_zero, List.set_cons_succ]
      clear hK K hS
      have hS := hS9
      clear hS9
      obtain ⟨W1, hW1⟩ : ∃ y, y = u0.alloc (.cells #[.int .i64 0, .int .i64 0, .int .i64 0, .int .i64 5] 2) := ⟨_, rfl⟩
      have hcl : ∀ i, i < 4 → W1.cell? ⟨u0.heap.size, 0 + i, none⟩ = some (.int .i64 (F i)) := fun i hi => by
        rw [hW1]
        rcases i with - | - | - | - | i
        · simp [go_sem, hF]
        · simp [go_sem, hF]
        · simp [go_sem, hF]
        · simp [go_sem, hF]
        · omega
      have hbl : u0.heap.size < W1.heap.size := by rw [hW1]; simp
      have hbs : u0.heap.size ≠ S := by have := HS0.out.lt; omega
      have HB2 : Hid (Below w.heap.size w W1) := by rw [hW1]; exact HB1.out _
      have HV2 : Hid (VersAt W1 (some ⟨g, 0, none⟩) n R) := by rw [hW1]; exact HV1.out _
      have BX2 : BoxR W1 B (.int .i64 0) (.int .i64 0) := by rw [hW1]; exact BX1 _
      have HS2 : Hid (Src W1 S a kk cap z t) := by rw [hW1]; exact HS1.out _
      have hSs : Box2 W1 V (.int .i64 x) (.int .i64 o) := by rw [hW1]; exact hS
      rw [← hW1]
      clear hS HB1 HV1 BX1 HS1 hW1 BX0
      have hS := hSs
      clear hSs
      generalize u0.heap.size = D at *
      refine wpAnyE_ready (rs := [4]) (by kernel_rfl) (by simp) ?_
      refine AllReadyE.cons rfl (fun K hK => ?_) AllReadyE.nil
      go_simp
      refine (l1Pick_any S a kk cap z t D 0 4 4 F W1 (by omega) (by omega) (by omega) hbs hbl hcl HS2.out).mono ?_
      rintro e u1 ⟨i, hi, rfl, hn⟩
      have hd := hn.dw
      have HB3 : Hid (Below w.heap.size w u1) := below_dw HB2.out HSw.out hd
      have HV3 : Hid (VersAt u1 (some ⟨g, 0, none⟩) n R) := HV2.out.dw HGS.out hd
      have BX3 : BoxR u1 B (.int .i64 0) (.int .i64 0) := BX2.dw HBS.out hd
      refine hK.out _ _ (hS.dw HVS.out hd) (fun hS9 => ?_)
      try simp only [Act.put, List.setIfInBounds_toArray, List.set_cons_zero, List.set_cons_succ]
      clear hK K hS
      have hS := hS9
      clear hS9
      clear hn hd HB2 HV2 BX2 HS2 hcl hbl hbs
      generalize F i = y at *
      refine wpAnyE_takeD (L := 999) (i := 5) (v := .slice (some ⟨g, 0, none⟩) n c) (some 2) rfl rfl (by kernel_rfl) (by kernel_rfl) (by kernel_rfl) (by kernel_rfl) (fun _ _ _ h => h) (Or.inl ⟨by kernel_rfl, by intro u hSu; go_simp⟩) hS ?_
      try simp only [Act.put, List.setIfInBounds_toArray, List.set_cons_zero, List.set_cons_succ]
      refine wpAnyE_ready (rs := [6]) (by kernel_rfl) (by simp) ?_
      refine AllReadyE.cons rfl (fun K hK => ?_) AllReadyE.nil
      obtain ⟨q0, q1, qf⟩ := BX3
      go_simp
      refine hK.out _ _ (hS.set2 hne) (fun hS9 => ?_)
      try simp only [Act.put, List.setIfInBounds_toArray, List.set_cons_zero, List.set_cons_succ]
      clear hK K hS
      have hS := hS9
      clear hS9
      refine wpAnyE_takeD (L := 999) (i := 7) (v := .bool true) (some 4) rfl rfl (by kernel_rfl) (by kernel_rfl) (by kernel_rfl) (by kernel_rfl) (fun _ _ _ h => h) (Or.inl ⟨by kernel_rfl, by intro u hSu; go_simp⟩) hS ?_
      try simp only [Act.put, List.setIfInBounds_toArray, List.set_cons_zero, List.set_cons_succ]
      refine wpAnyE_takeD (L := 999) (i := 8) (v := .int .i64 y) (some 5) rfl rfl (by kernel_rfl) (by kernel_rfl) (by kernel_rfl) (by kernel_rfl) (fun _ _ _ h => h) (Or.inl ⟨by kernel_rfl, by intro u hSu; go_simp⟩) hS ?_
      try simp only [Act.put, List.setIfInBounds_toArray, List.set_cons_zero, List.set_cons_succ]
      refine wpAnyE_done (by kernel_rfl) ?_ _
      go_simp
      have HF := with_end (x := x) (o := o) HB3.out HV3.out HBW.out HGB.out q0 q1
      go_wp2_with fail
      exact bodyPost_ret (v := .tuple #[.slice (some ⟨g, 0, none⟩) n c, .agg #[.int .i64 x, .int .i64 o], .bool true, .int .i64 y]) (by simp [results, Try.results12, go_sem, *]) rfl ⟨g, n, c, R, x, o, true, y, rfl, HNC.out.1, HNC.out.2, HF.2, HF.1⟩
    | false =>
      go_upto_region 7 with fail
      refine wp_region_E 999 (S := fun u => Box2 u V (.int .i64 x) (.int .i64 o)) (by kernel_rfl) BV (fun hS => ?_)
      obtain ⟨u0, hu0⟩ : ∃ y, y = W.drew := ⟨_, rfl⟩
      have HB0 : Hid (Below w.heap.size w u0) := by rw [hu0]; exact HB.out.drew
      have HV0 : Hid (VersAt u0 (some ⟨g, 0, none⟩) n R) := by rw [hu0]; exact HV.out.below ((Below.refl _ _).drew)
      have BX0 : BoxR u0 B (.int .i64 0) (.int .i64 0) := by rw [hu0]; exact BX
      have HS0 : Hid (Src u0 S a kk cap z t) := by rw [hu0]; exact HSr.out.drew
      rw [← hu0] at hS ⊢
      clear hu0 BV BX HB HV HSr
      refine wpAnyE_takeD (L := 999) (i := 0) (v := .slice (some ⟨g, 0, none⟩) n c) (some 29) rfl rfl (by kernel_rfl) (by kernel_rfl) (by kernel_rfl) (by kernel_rfl) (fun _ _ _ h => h) (Or.inl ⟨by kernel_rfl, by intro u hSu; go_simp⟩) hS ?_
      try simp only [Act.put, List.setIfInBounds_toArray, List.set_cons_zero, List.set_cons_succ]
      refine wpAnyE_takeD (L := 999) (i := 1) (v := .agg #[.int .i64 x, .int .i64 o]) (some 30) rfl rfl (by kernel_rfl) (by kernel_rfl) (by kernel_rfl) (by kernel_rfl) (fun _ _ _ h => h) (Or.inl ⟨by kernel_rfl, by intro u hSu; obtain ⟨h0, h1⟩ := hSu; go_simp⟩) hS ?_
      try simp only [Act.put, List.setIfInBounds_toArray, List.set_cons_zero, List.set_cons_succ]
      refine wpAnyE_takeD (L := 999) (i := 2) (v := .pointer (some ⟨S, 0, none⟩)) (some 31) rfl rfl (by kernel_rfl) (by kernel_rfl) (by kernel_rfl) (by kernel_rfl) (fun _ _ _ h => h) (Or.inl ⟨by kernel_rfl, by intro u hSu; go_simp⟩) hS ?_
      try simp only [Act.put, List.setIfInBounds_toArray, List.set_cons_zero, List.set_cons_succ]
      refine wpAnyE_takeD (L := 999) (i := 3) (v := .pointer (some ⟨S, 0, none⟩)) (some 32) rfl rfl (by kernel_rfl) (by kernel_rfl) (by kernel_rfl) (by kernel_rfl) (fun _ _ _ h => h) (Or.inl ⟨by kernel_rfl, by intro u hSu; go_simp⟩) hS ?_
      try simp only [Act.put, List.setIfInBounds_toArray, List.set_cons_zero, List.set_cons_succ]
      refine wpAnyE_ready (rs := [4]) (by kernel_rfl) (by simp) ?_
      refine AllReadyE.cons rfl (fun K hK => ?_) AllReadyE.nil
      go_simp
      refine (l1Next_any S a kk cap z t 90 u0 (by omega) (by omega) HS0.out).mono ?_
      rintro e u9 ⟨v9, rfl, -, hn⟩
      have hd := hn.dw
      have HB9 : Hid (Below w.heap.size w u9) := below_dw HB0.out HSw.out hd
      have HV9 : Hid (VersAt u9 (some ⟨g, 0, none⟩) n R) := HV0.out.dw HGS.out hd
      have BX9 : BoxR u9 B (.int .i64 0) (.int .i64 0) := BX0.dw HBS.out hd
      have HS9 : Hid (Src u9 S a kk cap z (t + 1)) := hd.2
      refine hK.out _ _ (hS.dw HVS.out hd) (fun hS9 => ?_)
      try simp only [Act.put, List.setIfInBounds_toArray, List.set_cons_zero, List.set_cons_succ]
      clear hK K hS
      have hS := hS9
      clear hS9
      clear hn hd HB0 HV0 BX0 HS0
      obtain ⟨u0, rfl⟩ : ∃ y, y = u9 := ⟨_, rfl⟩
      have HB0 := HB9
      have HV0 := HV9
      have BX0 := BX9
      have HS0 := HS9
      clear HB9 HV9 BX9 HS9
      obtain ⟨F, hF⟩ : ∃ F : Nat → Int, F = fun i => if i = 0 then v9 else if i = 1 then 9999 else if i = 2 then 10000 else -1 := ⟨_, rfl⟩
      refine wpAnyE_ready (rs := [5]) (by kernel_rfl) (by simp) ?_
      refine AllReadyE.cons rfl (fun K hK => ?_) AllReadyE.nil
      have HB1 : Hid (∀ ob : Obj, Below w.heap.size w (u0.alloc ob)) := fun ob => below_then HB0.out (below_new _ _)
      have HV1 : Hid (∀ ob : Obj, VersAt (u0.alloc ob) (some ⟨g, 0, none⟩) n R) := fun ob => HV0.out.below (below_new _ _)
      have BX1 : ∀ ob : Obj, BoxR (u0.alloc ob) B (.int .i64 0) (.int .i64 0) := fun ob => BX0.below (below_new _ _)
      have HS1 : Hid (∀ ob : Obj, Src (u0.alloc ob) S a kk cap z (t + 1)) := fun ob => HS0.out.below (below_new _ _)
      go_simp
      refine hK.out _ _ (hS.below (below_new _ _)) (fun hS9 => ?_)
      try simp only [Act.put, List.setIfInBounds_toArray, List.set_cons_zero, List.set_cons_succ]
      clear hK K hS
      have hS := hS9
      clear hS9
      obtain ⟨W1, hW1⟩ : ∃ y, y = u0.alloc (.cells #[.int .i64 v9, .int .i64 9999, .int .i64 10000, .int .i64 (-1)] 2) := ⟨_, rfl⟩
      have hcl : ∀ i, i < 4 → W1.cell? ⟨u0.heap.size, 0 + i, none⟩ = some (.int .i64 (F i)) := fun i hi => by
        rw [hW1]
        rcases i with - | - | - | - | i
        · simp [go_sem, hF]
        · simp [go_sem, hF]
        · simp [go_sem, hF]
        · simp [go_sem, hF]
        · omega
      have hbl : u0.heap.size < W1.heap.size := by rw [hW1]; simp
      have hbs : u0.heap.size ≠ S := by have := HS0.out.lt; omega
      have HB2 : Hid (Below w.heap.size w W1) := by rw [hW1]; exact HB1.out _
      have HV2 : Hid (VersAt W1 (some ⟨g, 0, none⟩) n R) := by rw [hW1]; exact HV1.out _
      have BX2 : BoxR W1 B (.int .i64 0) (.int .i64 0) := by rw [hW1]; exact BX1 _
      have HS2 : Hid (Src W1 S a kk cap z (t + 1)) := by rw [hW1]; exact HS1.out _
      have hSs : Box2 W1 V (.int .i64 x) (.int .i64 o) := by rw [hW1]; exact hS
      rw [← hW1]
      clear hS HB1 HV1 BX1 HS1 hW1 BX0
      have hS := hSs
      clear hSs
      generalize u0.heap.size = D at *
      refine wpAnyE_ready (rs := [6]) (by kernel_rfl) (by simp) ?_
      refine AllReadyE.cons rfl (fun K hK => ?_) AllReadyE.nil
      go_simp
      refine (l1Pick_any S a kk cap z (t + 1) D 0 4 4 F W1 (by omega) (by omega) (by omega) hbs hbl hcl HS2.out).mono ?_
      rintro e u1 ⟨i, hi, rfl, hn⟩
      have hd := hn.dw
      have HB3 : Hid (Below w.heap.size w u1) := below_dw HB2.out HSw.out hd
      have HV3 : Hid (VersAt u1 (some ⟨g, 0, none⟩) n R) := HV2.out.dw HGS.out hd
      have BX3 : BoxR u1 B (.int .i64 0) (.int .i64 0) := BX2.dw HBS.out hd
      refine hK.out _ _ (hS.dw HVS.out hd) (fun hS9 => ?_)
      try simp only [Act.put, List.setIfInBounds_toArray, List.set_cons_zero, List.set_cons_succ]
      clear hK K hS
      have hS := hS9
      clear hS9
      clear hn hd HB2 HV2 BX2 HS2 hcl hbl hbs
      generalize F i = y at *
      refine wpAnyE_takeD (L := 999) (i := 7) (v := .slice (some ⟨g, 0, none⟩) n c) (some 2) rfl rfl (by kernel_rfl) (by kernel_rfl) (by kernel_rfl) (by kernel_rfl) (fun _ _ _ h => h) (Or.inl ⟨by kernel_rfl, by intro u hSu; go_simp⟩) hS ?_
      try simp only [Act.put, List.setIfInBounds_toArray, List.set_cons_zero, List.set_cons_succ]
      refine wpAnyE_ready (rs := [8]) (by kernel_rfl) (by simp) ?_
      refine AllReadyE.cons rfl (fun K hK => ?_) AllReadyE.nil
      obtain ⟨q0, q1, qf⟩ := BX3
      go_simp
      refine hK.out _ _ (hS.set2 hne) (fun hS9 => ?_)
      try simp only [Act.put, List.setIfInBounds_toArray, List.set_cons_zero, List.set_cons_succ]
      clear hK K hS
      have hS := hS9
      clear hS9
      refine wpAnyE_takeD (L := 999) (i := 9) (v := .bool false) (some 4) rfl rfl (by kernel_rfl) (by kernel_rfl) (by kernel_rfl) (by kernel_rfl) (fun _ _ _ h => h) (Or.inl ⟨by kernel_rfl, by intro u hSu; go_simp⟩) hS ?_
      try simp only [Act.put, List.setIfInBounds_toArray, List.set_cons_zero, List.set_cons_succ]
      refine wpAnyE_takeD (L := 999) (i := 10) (v := .int .i64 y) (some 5) rfl rfl (by kernel_rfl) (by kernel_rfl) (by kernel_rfl) (by kernel_rfl) (fun _ _ _ h => h) (Or.inl ⟨by kernel_rfl, by intro u hSu; go_simp⟩) hS ?_
      try simp only [Act.put, List.setIfInBounds_toArray, List.set_cons_zero, List.set_cons_succ]
      refine wpAnyE_done (by kernel_rfl) ?_ _
      go_simp
      have HF := with_end (x := x) (o := o) HB3.out HV3.out HBW.out HGB.out q0 q1
      go_wp2_with fail
      exact bodyPost_ret (v := .tuple #[.slice (some ⟨g, 0, none⟩) n c, .agg #[.int .i64 x, .int .i64 o], .bool false, .int .i64 y]) (by simp [results, Try.results12, go_sem, *]) rfl ⟨g, n, c, R, x, o, false, y, rfl, HNC.out.1, HNC.out.2, HF.2, HF.1⟩
  | false =>
    go_wp2_with fail
    refine (l1Chance_any S a kk cap z 1 4 _ (by omega) (by omega) HSr.out).mono ?_
    rintro e W ⟨b, rfl, hn5⟩
    have hd := hn5.dw
    replace BX := BX.dw HBS.out hd
    replace BV := BV.dw HVS.out hd
    replace HB : Hid (Below w.heap.size w W) := below_dw HB.out HSw.out hd
    replace HV : Hid (VersAt W (some ⟨g, 0, none⟩) n R) := HV.out.dw HGS.out hd
    obtain ⟨t, ht, HSr⟩ : ∃ t : Nat, t ≤ 10 ∧ Hid (Src W S a kk cap z t) := ⟨2, by omega, hd.2⟩
    clear hd hn5
    replace BV : Box2 W V (.int .i64 x) (.int .i64 o) := ⟨BV.1, BV.2.1⟩
    have hne := HNE.out
    cases b with
    | true =>
      go_upto_region 6 with fail
      refine wp_region_E 999 (S := fun u => Box2 u V (.int .i64 x) (.int .i64 o)) (by kernel_rfl) BV (fun hS => ?_)
      obtain ⟨u0, hu0⟩ : ∃ y, y = W.drew := ⟨_, rfl⟩
      have HB0 : Hid (Below w.heap.size w u0) := by rw [hu0]; exact HB.out.drew
      have HV0 : Hid (VersAt u0 (some ⟨g, 0, none⟩) n R) := by rw [hu0]; exact HV.out.below ((Below.refl _ _).drew)
      have BX0 : BoxR u0 B (.int .i64 0) (.int .i64 0) := by rw [hu0]; exact BX
      have HS0 : Hid (Src u0 S a kk cap z t) := by rw [hu0]; exact HSr.out.drew
      rw [← hu0] at hS ⊢
      clear hu0 BV BX HB HV HSr
      obtain ⟨F, hF⟩ : ∃ F : Nat → Int, F = fun i => if i = 3 then 5 else 0 := ⟨_, rfl⟩
      refine wpAnyE_takeD (L := 999) (i := 0) (v := .slice (some ⟨g, 0, none⟩) n c) (some 24) rfl rfl (by kernel_rfl) (by kernel_rfl) (by kernel_rfl) (by kernel_rfl) (fun _ _ _ h => h) (Or.inl ⟨by kernel_rfl, by intro u hSu; go_simp⟩) hS ?_
      try simp only [Act.put, List.setIfInBounds_toArray, List.set_cons_zero, List.set_cons_succ]
      refine wpAnyE_takeD (L := 999) (i := 1) (v := .agg #[.int .i64 x, .int .i64 o]) (some 25) rfl rfl (by kernel_rfl) (by kernel_rfl) (by kernel_rfl) (by kernel_rfl) (fun _ _ _ h => h) (Or.inl ⟨by kernel_rfl, by intro u hSu; obtain ⟨h0, h1⟩ := hSu; go_simp⟩) hS ?_
      try simp only [Act.put, List.setIfInBounds_toArray, List.set_cons_zero, List.set_cons_succ]
      refine wpAnyE_takeD (L := 999) (i := 2) (v := .pointer (some ⟨S, 0, none⟩)) (some 26) rfl rfl (by kernel_rfl) (by kernel_rfl) (by kernel_rfl) (by kernel_rfl) (fun _ _ _ h => h) (Or.inl ⟨by kernel_rfl, by intro u hSu; go_simp⟩) hS ?_
      try simp only [Act.put, List.setIfInBounds_toArray, List.set_cons_zero, List.set_cons_succ]
      refine wpAnyE_ready (rs := [3]) (by kernel_rfl) (by simp) ?_
      refine AllReadyE.cons rfl (fun K hK => ?_) AllReadyE.nil
      have HB1 : Hid (∀ ob : Obj, Below w.heap.size w (u0.alloc ob)) := fun ob => below_then HB0.out (below_new _ _)
      have HV1 : Hid (∀ ob : Obj, VersAt (u0.alloc ob) (some ⟨g, 0, none⟩) n R) := fun ob => HV0.out.below (below_new _ _)
      have BX1 : ∀ ob : Obj, BoxR (u0.alloc ob) B (.int .i64 0) (.int .i64 0) := fun ob => BX0.below (below_new _ _)
      have HS1 : Hid (∀ ob : Obj, Src (u0.alloc ob) S a kk cap z t) := fun ob => HS0.out.below (below_new _ _)
      go_simp
      refine hK.out _ _ (hS.below (below_new _ _)) (fun hS9 => ?_)
      try simp only [Act.put, List.setIfInBounds_toArray, List.set_cons_zero, List.set_cons_succ]
      clear hK K hS
      have hS := hS9
      clear hS9
      obtain ⟨W1, hW1⟩ : ∃ y, y = u0.alloc (.cells #[.int .i64 0, .int .i64 0, .int .i64 0, .int .i64 5] 2) := ⟨_, rfl⟩
      have hcl : ∀ i, i < 4 → W1.cell? ⟨u0.heap.size, 0 + i, none⟩ = some (.int .i64 (F i)) := fun i hi => by
        rw [hW1]
        rcases i with - | - | - | - | i
        · simp [go_sem, hF]
        · simp [go_sem, hF]
        · simp [go_sem, hF]
        · simp [go_sem, hF]
        · omega
      have hbl : u0.heap.size < W1.heap.size := by rw [hW1]; simp
      have hbs : u0.heap.size ≠ S := by have := HS0.out.lt; omega
      have HB2 : Hid (Below w.heap.size w W1) := by rw [hW1]; exact HB1.out _
      have HV2 : Hid (VersAt W1 (some ⟨g, 0, none⟩) n R) := by rw [hW1]; exact HV1.out _
      have BX2 : BoxR W1 B (.int .i64 0) (.int .i64 0) := by rw [hW1]; exact BX1 _
      have HS2 : Hid (Src W1 S a kk cap z t) := by rw [hW1]; exact HS1.out _
      have hSs : Box2 W1 V (.int .i64 x) (.int .i64 o) := by rw [hW1]; exact hS
      rw [← hW1]
      clear hS HB1 HV1 BX1 HS1 hW1 BX0
      have hS := hSs
      clear hSs
      generalize u0.heap.size = D at *
      refine wpAnyE_ready (rs := [4]) (by kernel_rfl) (by simp) ?_
      refine AllReadyE.cons rfl (fun K hK => ?_) AllReadyE.nil
      go_simp
      refine (l1Pick_any S a kk cap z t D 0 4 4 F W1 (by omega) (by omega) (by omega) hbs hbl hcl HS2.out).mono ?_
      rintro e u1 ⟨i, hi, rfl, hn⟩
      have hd := hn.dw
      have HB3 : Hid (Below w.heap.size w u1) := below_dw HB2.out HSw.out hd
      have HV3 : Hid (VersAt u1 (some ⟨g, 0, none⟩) n R) := HV2.out.dw HGS.out hd
      have BX3 : BoxR u1 B (.int .i64 0) (.int .i64 0) := BX2.dw HBS.out hd
      refine hK.out _ _ (hS.dw HVS.out hd) (fun hS9 => ?_)
      try simp only [Act.put, List.setIfInBounds_toArray, List.set_cons_zero, List.set_cons_succ]
      clear hK K hS
      have hS := hS9
      clear hS9
      clear hn hd HB2 HV2 BX2 HS2 hcl hbl hbs
      generalize F i = y at *
      refine wpAnyE_takeD (L := 999) (i := 5) (v := .slice (some ⟨g, 0, none⟩) n c) (some 2) rfl rfl (by kernel_rfl) (by kernel_rfl) (by kernel_rfl) (by kernel_rfl) (fun _ _ _ h => h) (Or.inl ⟨by kernel_rfl, by intro u hSu; go_simp⟩) hS ?_
      try simp only [Act.put, List.setIfInBounds_toArray, List.set_cons_zero, List.set_cons_succ]
      refine wpAnyE_ready (rs := [6]) (by kernel_rfl) (by simp) ?_
      refine AllReadyE.cons rfl (fun K hK => ?_) AllReadyE.nil
      obtain ⟨q0, q1, qf⟩ := BX3
      go_simp
      refine hK.out _ _ (hS.set2 hne) (fun hS9 => ?_)
      try simp only [Act.put, List.setIfInBounds_toArray, List.set_cons_zero, List.set_cons_succ]
      clear hK K hS
      have hS := hS9
      clear hS9
      refine wpAnyE_takeD (L := 999) (i := 7) (v := .bool true) (some 4) rfl rfl (by kernel_rfl) (by kernel_rfl) (by kernel_rfl) (by kernel_rfl) (fun _ _ _ h => h) (Or.inl ⟨by kernel_rfl, by intro u hSu; go_simp⟩) hS ?_
      try simp only [Act.put, List.setIfInBounds_toArray, List.set_cons_zero, List.set_cons_succ]
      refine wpAnyE_takeD (L := 999) (i := 8) (v := .int .i64 y) (some 5) rfl rfl (by kernel_rfl) (by kernel_rfl) (by kernel_rfl) (by kernel_rfl) (fun _ _ _ h => h) (Or.inl ⟨by kernel_rfl, by intro u hSu; go_simp⟩) hS ?_
      try simp only [Act.put, List.setIfInBounds_toArray, List.set_cons_zero, List.set_cons_succ]
      refine wpAnyE_done (by kernel_rfl) ?_ _
      go_simp
      have HF := with_end (x := x) (o := o) HB3.out HV3.out HBW.out HGB.out q0 q1
      go_wp2_with fail
      exact bodyPost_ret (v := .tuple #[.slice (some ⟨g, 0, none⟩) n c, .agg #[.int .i64 x, .int .i64 o], .bool true, .int .i64 y]) (by simp [results, Try.results12, go_sem, *]) rfl ⟨g, n, c, R, x, o, true, y, rfl, HNC.out.1, HNC.out.2, HF.2, HF.1⟩
    | false =>
      go_upto_region 7 with fail
      refine wp_region_E 999 (S := fun u => Box2 u V (.int .i64 x) (.int .i64 o)) (by kernel_rfl) BV (fun hS => ?_)
      obtain ⟨u0, hu0⟩ : ∃ y, y = W.drew := ⟨_, rfl⟩
      have HB0 : Hid (Below w.heap.size w u0) := by rw [hu0]; exact HB.out.drew
      have HV0 : Hid (VersAt u0 (some ⟨g, 0, none⟩) n R) := by rw [hu0]; exact HV.out.below ((Below.refl _ _).drew)
      have BX0 : BoxR u0 B (.int .i64 0) (.int .i64 0) := by rw [hu0]; exact BX
      have HS0 : Hid (Src u0 S a kk cap z t) := by rw [hu0]; exact HSr.out.drew
      rw [← hu0] at hS ⊢
      clear hu0 BV BX HB HV HSr
      refine wpAnyE_takeD (L := 999) (i := 0) (v := .slice (some ⟨g, 0, none⟩) n c) (some 29) rfl rfl (by kernel_rfl) (by kernel_rfl) (by kernel_rfl) (by kernel_rfl) (fun _ _ _ h => h) (Or.inl ⟨by kernel_rfl, by intro u hSu; go_simp⟩) hS ?_
      try simp only [Act.put, List.setIfInBounds_toArray, List.set_cons_zero, List.set_cons_succ]
      refine wpAnyE_takeD (L := 999) (i := 1) (v := .agg #[.int .i64 x, .int .i64 o]) (some 30) rfl rfl (by kernel_rfl) (by kernel_rfl) (by kernel_rfl) (by kernel_rfl) (fun _ _ _ h => h) (Or.inl ⟨by kernel_rfl, by intro u hSu; obtain ⟨h0, h1⟩ := hSu; go_simp⟩) hS ?_
      try simp only [Act.put, List.setIfInBounds_toArray, List.set_cons_zero, List.set_cons_succ]
      refine wpAnyE_takeD (L := 999) (i := 2) (v := .pointer (some ⟨S, 0, none⟩)) (some 31) rfl rfl (by kernel_rfl) (by kernel_rfl) (by kernel_rfl) (by kernel_rfl) (fun _ _ _ h => h) (Or.inl ⟨by kernel_rfl, by intro u hSu; go_simp⟩) hS ?_
      try simp only [Act.put, List.setIfInBounds_toArray, List.set_cons_zero, List.set_cons_succ]
      refine wpAnyE_takeD (L := 999) (i := 3) (v := .pointer (some ⟨S, 0, none⟩)) (some 32) rfl rfl (by kernel_rfl) (by kernel_rfl) (by kernel_rfl) (by kernel_rfl) (fun _ _ _ h => h) (Or.inl ⟨by kernel_rfl, by intro u hSu; go_simp⟩) hS ?_
      try simp only [Act.put, List.setIfInBounds_toArray, List.set_cons_zero, List.set_cons_succ]
      refine wpAnyE_ready (rs := [4]) (by kernel_rfl) (by simp) ?_
      refine AllReadyE.cons rfl (fun K hK => ?_) AllReadyE.nil
      go_simp
      refine (l1Next_any S a kk cap z t 90 u0 (by omega) (by omega) HS0.out).mono ?_
      rintro e u9 ⟨v9, rfl, -, hn⟩
      have hd := hn.dw
      have HB9 : Hid (Below w.heap.size w u9) := below_dw HB0.out HSw.out hd
      have HV9 : Hid (VersAt u9 (some ⟨g, 0, none⟩) n R) := HV0.out.dw HGS.out hd
      have BX9 : BoxR u9 B (.int .i64 0) (.int .i64 0) := BX0.dw HBS.out hd
      have HS9 : Hid (Src u9 S a kk cap z (t + 1)) := hd.2
      refine hK.out _ _ (hS.dw HVS.out hd) (fun hS9 => ?_)
      try simp only [Act.put, List.setIfInBounds_toArray, List.set_cons_zero, List.set_cons_succ]
      clear hK K hS
      have hS := hS9
      clear hS9
      clear hn hd HB0 HV0 BX0 HS0
      obtain ⟨u0, rfl⟩ : ∃ y, y = u9 := ⟨_, rfl⟩
      have HB0 := HB9
      have HV0 := HV9
      have BX0 := BX9
      have HS0 := HS9
      clear HB9 HV9 BX9 HS9
      obtain ⟨F, hF⟩ : ∃ F : Nat → Int, F = fun i => if i = 0 then v9 else if i = 1 then 9999 else if i = 2 then 10000 else -1 := ⟨_, rfl⟩
      refine wpAnyE_ready (rs := [5]) (by kernel_rfl) (by simp) ?_
      refine AllReadyE.cons rfl (fun K hK => ?_) AllReadyE.nil
      have HB1 : Hid (∀ ob : Obj, Below w.heap.size w (u0.alloc ob)) := fun ob => below_then HB0.out (below_new _ _)
      have HV1 : Hid (∀ ob : Obj, VersAt (u0.alloc ob) (some ⟨g, 0, none⟩) n R) := fun ob => HV0.out.below (below_new _ _)
      have BX1 : ∀ ob : Obj, BoxR (u0.alloc ob) B (.int .i64 0) (.int .i64 0) := fun ob => BX0.below (below_new _ _)
      have HS1 : Hid (∀ ob : Obj, Src (u0.alloc ob) S a kk cap z (t + 1)) := fun ob => HS0.out.below (below_new _ _)
      go_simp
      refine hK.out _ _ (hS.below (below_new _ _)) (fun hS9 => ?_)
      try simp only [Act.put, List.setIfInBounds_toArray, List.set_cons_zero, List.set_cons_succ]
      clear hK K hS
      have hS := hS9
      clear hS9
      obtain ⟨W1, hW1⟩ : ∃ y, y = u0.alloc (.cells #[.int .i64 v9, .int .i64 9999, .int .i64 10000, .int .i64 (-1)] 2) := ⟨_, rfl⟩
      have hcl : ∀ i, i < 4 → W1.cell? ⟨u0.heap.size, 0 + i, none⟩ = some (.int .i64 (F i)) := fun i hi => by
        rw [hW1]
        rcases i with - | - | - | - | i
        · simp [go_sem, hF]
        · simp [go_sem, hF]
        · simp [go_sem, hF]
        · simp [go_sem, hF]
        · omega
      have hbl : u0.heap.size < W1.heap.size := by rw [hW1]; simp
      have hbs : u0.heap.size ≠ S := by have := HS0.out.lt; omega
      have HB2 : Hid (Below w.heap.size w W1) := by rw [hW1]; exact HB1.out _
      have HV2 : Hid (VersAt W1 (some ⟨g, 0, none⟩) n R) := by rw [hW1]; exact HV1.out _
      have BX2 : BoxR W1 B (.int .i64 0) (.int .i64 0) := by rw [hW1]; exact BX1 _
      have HS2 : Hid (Src W1 S a kk cap z (t + 1)) := by rw [hW1]; exact HS1.out _
      have hSs : Box2 W1 V (.int .i64 x) (.int .i64 o) := by rw [hW1]; exact hS
      rw [← hW1]
      clear hS HB1 HV1 BX1 HS1 hW1 BX0
      have hS := hSs
      clear hSs
      generalize u0.heap.size = D at *
      refine wpAnyE_ready (rs := [6]) (by kernel_rfl) (by simp) ?_
      refine AllReadyE.cons rfl (fun K hK => ?_) AllReadyE.nil
      go_simp
      refine (l1Pick_any S a kk cap z (t + 1) D 0 4 4 F W1 (by omega) (by omega) (by omega) hbs hbl hcl HS2.out).mono ?_
      rintro e u1 ⟨i, hi, rfl, hn⟩
      have hd := hn.dw
      have HB3 : Hid (Below w.heap.size w u1) := below_dw HB2.out HSw.out hd
      have HV3 : Hid (VersAt u1 (some ⟨g, 0, none⟩) n R) := HV2.out.dw HGS.out hd
      have BX3 : BoxR u1 B (.int .i64 0) (.int .i64 0) := BX2.dw HBS.out hd
      refine hK.out _ _ (hS.dw HVS.out hd) (fun hS9 => ?_)
      try simp only [Act.put, List.setIfInBounds_toArray, List.set_cons_zero, List.set_cons_succ]
      clear hK K hS
      have hS := hS9
      clear hS9
      clear hn hd HB2 HV2 BX2 HS2 hcl hbl hbs
      generalize F i = y at *
      refine wpAnyE_takeD (L := 999) (i := 7) (v := .slice (some ⟨g, 0, none⟩) n c) (some 2) rfl rfl (by kernel_rfl) (by kernel_rfl) (by kernel_rfl) (by kernel_rfl) (fun _ _ _ h => h) (Or.inl ⟨by kernel_rfl, by intro u hSu; go_simp⟩) hS ?_
      try simp only [Act.put, List.setIfInBounds_toArray, List.set_cons_zero, List.set_cons_succ]
      refine wpAnyE_ready (rs := [8]) (by kernel_rfl) (by simp) ?_
      refine AllReadyE.cons rfl (fun K hK => ?_) AllReadyE.nil
      obtain ⟨q0, q1, qf⟩ := BX3
      go_simp
      refine hK.out _ _ (hS.set2 hne) (fun hS9 => ?_)
      try simp only [Act.put, List.setIfInBounds_toArray, List.set_cons_zero, List.set_cons_succ]
      clear hK K hS
      have hS := hS9
      clear hS9
      refine wpAnyE_takeD (L := 999) (i := 9) (v := .bool false) (some 4) rfl rfl (by kernel_rfl) (by kernel_rfl) (by kernel_rfl) (by kernel_rfl) (fun _ _ _ h => h) (Or.inl ⟨by kernel_rfl, by intro u hSu; go_simp⟩) hS ?_
      try simp only [Act.put, List.setIfInBounds_toArray, List.set_cons_zero, List.set_cons_succ]
      refine wpAnyE_takeD (L := 999) (i := 10) (v := .int .i64 y) (some 5) rfl rfl (by kernel_rfl) (by kernel_rfl) (by kernel_rfl) (by kernel_rfl) (fun _ _ _ h => h) (Or.inl ⟨by kernel_rfl, by intro u hSu; go_simp⟩) hS ?_
      try simp only [Act.put, List.setIfInBounds_toArray, List.set_cons_zero, List.set_cons_succ]
      refine wpAnyE_done (by kernel_rfl) ?_ _
      go_simp
      have HF := with_end (x := x) (o := o) HB3.out HV3.out HBW.out HGB.out q0 q1
      go_wp2_with fail
      exact bodyPost_ret (v := .tuple #[.slice (some ⟨g, 0, none⟩) n c, .agg #[.int .i64 x, .int .i64 o], .bool false, .int .i64 y]) (by simp [results, Try.results12, go_sem, *]) rfl ⟨g, n, c, R, x, o, false, y, rfl, HNC.out.1, HNC.out.2, HF.2, HF.1⟩
end Go.Proofs.Ytiabblmjgfkijaa
