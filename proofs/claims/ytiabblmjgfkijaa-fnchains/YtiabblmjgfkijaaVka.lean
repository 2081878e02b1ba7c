/- RollChain, and the model's CommitChain and PushVersion, at any capacity. -/
import Derived.Test.YtiabblmjgfkijaaVsd
import Derived.Test.YtiabblmjgfkijaaVu
namespace Go.Proofs.Ytiabblmjgfkijaa
open Go.RowKit Go.Deep
set_option linter.unusedVariables false
set_option maxRecDepth 20000

set_option maxHeartbeats 2000000 in
theorem implRoC_any (n : Nat) (R : Nat → Vr) (a : Option Addr) (cc : Nat) (hcc : n ≤ cc) (x : Int) (w : World) (hn : n ≤ 9223372036854775807) (h : VersAt w a n R) :
    Calls Try.prog 18 #[.slice a n cc, .int .i64 x] w (CRes (roC n R x) (roN n R x) (fun i => R (i + 1)) w) := by
  have HA : Hid (VersAt w a n R) := h
  have HV : Hid ((roC n R x = if chF n R = 0 then (if inB x 1 999 = true then (if fob n R x = true then 0 else 4) else 3) else chF n R) ∧ (roN n R x = if roC n R x = 0 then n - 1 else 0)) := ⟨rfl, rfl⟩
  clear h
  generalize roC n R x = C at *
  generalize roN n R x = M at *
  go_enter Try.func18, Try.ntmps18
  go_wp2_with fail
  refine (implChF_any n R a cc _ hn (HA.out.below (below_new _ _))).mono ?_
  rintro e w1 ⟨rfl, hb1⟩
  have BX := (BoxR.new w (.int .i64 0) (.slice none 0 0) 28).below hb1
  have HB1 : Hid (Below w.heap.size w w1) := below_then (below_new _ _) hb1
  have hs1 : w.heap.size < w1.heap.size := by have := hb1.size; simp at this; omega
  clear hb1
  by_cases hc : chF n R = 0
  · rw [hc]
    by_cases hx : inB x 1 999 = true
    · have HA1 : Hid (VersAt w1 a n R) := HA.out.below HB1.out
      have hn12 := (chF_good hc).1
      by_cases hf : fob n R x = true
      · have ⟨hp, ht, ha0⟩ : 0 < n ∧ (R 0).t = x ∧ (R 0).a = 0 := by simpa [fob] using hf
        have hw : wrt n R = x := (if_pos ⟨hp, ha0⟩).trans ht
        have hC : C = 0 := by rw [HV.out.1, if_pos hc, if_pos hx, if_pos hf]
        have hM : M = n - 1 := by rw [HV.out.2, if_pos hC]
        subst hC hM
        obtain ⟨b, off, rfl, hl, -⟩ := HA1.out.first hp
        clear HV ht ha0
        have hp' : (1 : Int) ≤ (n : Int) := by omega
        have hxx : (x != x) = false := by simp
        have hcp : (1 : Int) ≤ (cc : Int) := by omega
        by_cases h1 : cc = 1
        · obtain rfl : n = 1 := by omega
          subst h1
          go_wp2_with fail
          refine (isTxn_any _ _).mono ?_
          rintro e wt ⟨rfl, hwt⟩
          have hwt' := hwt.symm
          clear hwt
          subst hwt'
          rw [hx]
          go_wp2_with fail
          refine (firstIsOpenBy_any _ R _ _ x _ HA1.out).mono ?_
          rintro e w2 ⟨rfl, hb2⟩
          rw [hf]
          have HB2 : Hid (Below w.heap.size w w2) := below_then HB1.out hb2
          have BX2 := BX.below hb2
          have hs2 : w.heap.size < w2.heap.size := Nat.lt_of_lt_of_le hs1 hb2.size
          clear hb2
          go_wp2_with fail
          have hjo : jv (fun _ => 0) (fun _ i => R (i + 1)) 1 = vL (fun i => R (i + 1)) 0 := by simp [jv]
          have hjp : ∀ i, i < 1 → (w2.alloc (.cells #[.slice (some ⟨b, off, none⟩) 0 0] 24)).cell? ⟨w2.heap.size, 0 + i, none⟩ = some (.slice (some ⟨b, off, none⟩) 0 0) ∧ VersAt (w2.alloc (.cells #[.slice (some ⟨b, off, none⟩) 0 0] 24)) (some ⟨b, off, none⟩) 0 (fun i => R (i + 1)) := fun i hi => by
            obtain rfl : i = 0 := by omega
            exact ⟨by simp [go_sem], VersAt.below (.inl rfl) (below_new _ _)⟩
          have hj := joined_any 1 (fun _ => some ⟨b, off, none⟩) (fun _ => 0) (fun _ => 0) (fun _ i => R (i + 1)) w2.heap.size 0 1 _ (fun i hi => by omega) (by simp) hjp (by omega)
          rw [hjo, vL_len] at hj
          refine hj.mono ?_
          rintro e w3 ⟨ra, rc, rfl, hb3, ho3⟩
          replace ho3 := ho3.congr (S := fun i => R (i + 1)) (fun i hi => vL_getD hi)
          have hs3 : w.heap.size < (w2.alloc (.cells #[.slice (some ⟨b, off, none⟩) 0 0] 24)).heap.size := by simp; omega
          have hb4 := below_then (below_new _ _) hb3
          obtain ⟨q0, q1, qf⟩ := BX2.below hb4
          have HE : Hid (∀ u0 u1 : Value, _) := cres_end (below_then HB2.out hb4) hs3 ho3
          clear hb3 ho3 hb4 hj hjp hjo hs3
          go_wp2_with fail
          refine bodyPost_ret (v := .agg #[.int .i64 0, .slice ra 0 rc]) (by simp [results, Try.results18, go_sem, *]) rfl ⟨ra, rc, rfl, (HE.out _ _).1, (HE.out _ _).2⟩
        · have h2 : ¬ ((1 : Int) = (cc : Int)) := by omega
          have h3 : ¬ ((cc : Int) = 1) := by omega
          have h5 : (1 : Int) < (cc : Int) := by omega
          go_wp2_with fail
          refine (isTxn_any _ _).mono ?_
          rintro e wt ⟨rfl, hwt⟩
          have hwt' := hwt.symm
          clear hwt
          subst hwt'
          rw [hx]
          go_wp2_with fail
          refine (firstIsOpenBy_any _ R _ _ x _ HA1.out).mono ?_
          rintro e w2 ⟨rfl, hb2⟩
          rw [hf]
          have HB2 : Hid (Below w.heap.size w w2) := below_then HB1.out hb2
          have BX2 := BX.below hb2
          have hs2 : w.heap.size < w2.heap.size := Nat.lt_of_lt_of_le hs1 hb2.size
          clear hb2
          go_wp2_with fail
          have hjo : jv (fun _ => (n - 1)) (fun _ i => R (i + 1)) 1 = vL (fun i => R (i + 1)) (n - 1) := by simp [jv]
          have hjp : ∀ i, i < 1 → (w2.alloc (.cells #[.slice (some ⟨b, off + 4, none⟩) (n - 1) (cc - 1)] 24)).cell? ⟨w2.heap.size, 0 + i, none⟩ = some (.slice (some ⟨b, off + 4, none⟩) (n - 1) (cc - 1)) ∧ VersAt (w2.alloc (.cells #[.slice (some ⟨b, off + 4, none⟩) (n - 1) (cc - 1)] 24)) (some ⟨b, off + 4, none⟩) (n - 1) (fun i => R (i + 1)) := fun i hi => by
            obtain rfl : i = 0 := by omega
            exact ⟨by simp [go_sem], VersAt.below (HA.out.below HB2.out).rest (below_new _ _)⟩
          have hj := joined_any 1 (fun _ => some ⟨b, off + 4, none⟩) (fun _ => (n - 1)) (fun _ => (cc - 1)) (fun _ i => R (i + 1)) w2.heap.size 0 1 _ (fun i hi => by omega) (by simp) hjp (by omega)
          rw [hjo, vL_len] at hj
          refine hj.mono ?_
          rintro e w3 ⟨ra, rc, rfl, hb3, ho3⟩
          replace ho3 := ho3.congr (S := fun i => R (i + 1)) (fun i hi => vL_getD hi)
          have hs3 : w.heap.size < (w2.alloc (.cells #[.slice (some ⟨b, off + 4, none⟩) (n - 1) (cc - 1)] 24)).heap.size := by simp; omega
          have hb4 := below_then (below_new _ _) hb3
          obtain ⟨q0, q1, qf⟩ := BX2.below hb4
          have HE : Hid (∀ u0 u1 : Value, _) := cres_end (below_then HB2.out hb4) hs3 ho3
          clear hb3 ho3 hb4 hj hjp hjo hs3
          go_wp2_with fail
          refine bodyPost_ret (v := .agg #[.int .i64 0, .slice ra (n - 1) rc]) (by simp [results, Try.results18, go_sem, *]) rfl ⟨ra, rc, rfl, (HE.out _ _).1, (HE.out _ _).2⟩
      · have hf' : fob n R x = false := by simpa using hf
        have hC : C = 4 := by rw [HV.out.1, if_pos hc, if_pos hx, if_neg hf]
        have hM : M = 0 := by rw [HV.out.2, if_neg (by omega)]
        subst hC hM
        clear HV
        have hw : wrt n R ≠ x := by
          intro e
          unfold wrt at e
          split at e
          · rename_i h9
            exact hf (by simp [fob, h9.1, h9.2, e])
          · rw [inB_iff] at hx; omega
        have hwx : (wrt n R != x) = true := by simp [hw]
        go_wp2_with fail
        refine (isTxn_any _ _).mono ?_
        rintro e wt ⟨rfl, hwt⟩
        have hwt' := hwt.symm
        clear hwt
        subst hwt'
        rw [hx]
        go_wp2_with fail
        refine (firstIsOpenBy_any _ R _ _ x _ HA1.out).mono ?_
        rintro e w2 ⟨rfl, hb2⟩
        rw [hf']
        have HB2 : Hid (Below w.heap.size w w2) := below_then HB1.out hb2
        have BX2 := BX.below hb2
        have hs2 : w.heap.size < w2.heap.size := Nat.lt_of_lt_of_le hs1 hb2.size
        clear hb2
        obtain ⟨q0, q1, qf⟩ := BX2
        have HE : Hid (∀ u0 u1 : Value, _) := cres_end (m := 0) (a := none) (S := fun i => R (i + 1)) HB2.out (Nat.lt_succ_self _) own4_none
        go_wp2_with fail
        refine bodyPost_ret (v := .agg #[.int .i64 4, .slice none 0 0]) (by simp [results, Try.results18, go_sem, *]) rfl ⟨none, 0, rfl, (HE.out _ _).1, (HE.out _ _).2⟩
    · have hx' : inB x 1 999 = false := by simpa using hx
      have hC : C = 3 := by rw [HV.out.1, if_pos hc, if_neg hx]
      have hM : M = 0 := by rw [HV.out.2, if_neg (by omega)]
      subst hC hM
      clear HV
      go_wp2_with fail
      refine (isTxn_any _ _).mono ?_
      rintro e wt ⟨rfl, hwt⟩
      have hwt' := hwt.symm
      clear hwt
      subst hwt'
      rw [hx']
      obtain ⟨q0, q1, qf⟩ := BX
      have HE : Hid (∀ u0 u1 : Value, _) := cres_end (m := 0) (a := none) (S := fun i => R (i + 1)) HB1.out (Nat.lt_succ_self _) own4_none
      go_wp2_with fail
      refine bodyPost_ret (v := .agg #[.int .i64 3, .slice none 0 0]) (by simp [results, Try.results18, go_sem, *]) rfl ⟨none, 0, rfl, (HE.out _ _).1, (HE.out _ _).2⟩
  · have hC : C = chF n R := by rw [HV.out.1, if_neg hc]
    have hM : M = 0 := by rw [HV.out.2, if_neg (by omega)]
    subst hM
    rw [← hC]
    rw [← hC] at hc
    clear HV hC
    have hc1 : (C != 0) = true := by simp [hc]
    obtain ⟨q0, q1, qf⟩ := BX
    have HE : Hid (∀ u0 u1 : Value, _) := cres_end (m := 0) (a := none) (S := fun i => R (i + 1)) HB1.out (Nat.lt_succ_self _) own4_none
    go_wp2_with fail
    refine bodyPost_ret (v := .agg #[.int .i64 C, .slice none 0 0]) (by simp [results, Try.results18, go_sem, *]) rfl ⟨none, 0, rfl, (HE.out _ _).1, (HE.out _ _).2⟩
set_option maxHeartbeats 2000000 in
theorem specCoC_any (n : Nat) (R : Nat → Vr) (a : Option Addr) (cc : Nat) (hcc : n ≤ cc) (x y : Int) (w : World) (hn : n ≤ 9223372036854775807) (h : VersAt w a n R) :
    Calls Try.prog 17 #[.slice a n cc, .int .i64 x, .int .i64 y] w (CRes (coC n R x y) (coN n R x y) (coS R y) w) := by
  have HA : Hid (VersAt w a n R) := h
  have HV : Hid ((coC n R x y = if chF n R = 0 then (if (inB x 1 999 && inB y 1 1000000) = true then (if fob n R x = true then (if coG n R y = true then 1 else 0) else 4) else 3) else chF n R) ∧ (coN n R x y = if coC n R x y = 0 then n else 0)) := ⟨rfl, rfl⟩
  clear h
  generalize coC n R x y = C at *
  generalize coN n R x y = M at *
  go_enter Try.func17, Try.ntmps17
  go_wp2_with fail
  refine (specChF_any n R a cc _ hn (HA.out.below (below_new _ _))).mono ?_
  rintro e w1 ⟨rfl, hb1⟩
  have BX := (BoxR.new w (.int .i64 0) (.slice none 0 0) 28).below hb1
  have HB1 : Hid (Below w.heap.size w w1) := below_then (below_new _ _) hb1
  have hs1 : w.heap.size < w1.heap.size := by have := hb1.size; simp at this; omega
  clear hb1
  have HEB : Hid (∀ u0 u1 : Value, _) := cres_end (m := 0) (a := none) (S := coS R y) HB1.out (Nat.lt_succ_self _) own4_none
  by_cases hc : chF n R = 0
  · rw [hc]
    have HA1 : Hid (VersAt w1 a n R) := HA.out.below HB1.out
    have hn12 := (chF_good hc).1
    by_cases hx : inB x 1 999 = true
    · by_cases hy : inB y 1 1000000 = true
      · have hxy : (inB x 1 999 && inB y 1 1000000) = true := by simp [hx, hy]
        go_wp2_with fail
        refine (l5Txn_any _ _).mono ?_
        rintro e wt ⟨rfl, hwt⟩
        have hwt' := hwt.symm
        clear hwt
        subst hwt'
        rw [hx]
        go_wp2_with fail
        refine (l5At_any _ _).mono ?_
        rintro e wt ⟨rfl, hwt⟩
        have hwt' := hwt.symm
        clear hwt
        subst hwt'
        rw [hy]
        go_wp2_with fail
        refine (l5Writer_any _ R _ _ _ HA1.out).mono ?_
        rintro e wt ⟨rfl, hwt⟩
        have hwt' := hwt.symm
        clear hwt
        subst hwt'
        by_cases hf : fob n R x = true
        · have ⟨hp, ht, ha0⟩ : 0 < n ∧ (R 0).t = x ∧ (R 0).a = 0 := by simpa [fob] using hf
          have hw : wrt n R = x := (if_pos ⟨hp, ha0⟩).trans ht
          rw [hw]
          have hxx : (x != x) = false := by simp
          by_cases hq : coG n R y = true
          · have hC : C = 1 := by rw [HV.out.1, if_pos hc, if_pos hxy, if_pos hf, if_pos hq]
            have hM : M = 0 := by rw [HV.out.2, if_neg (by omega)]
            subst hC hM
            have ⟨h1, h2⟩ : 1 < n ∧ y ≤ (R 1).a := by simpa [coG] using hq
            obtain ⟨b, off, rfl, hl, hcc⟩ : ∃ b off, a = some ⟨b, off, none⟩ ∧ b < w1.heap.size ∧ C4 w1 b (off + 4) (R 1) := by
              rcases HA1.out with h | ⟨b, off, ha, hl, hc⟩
              · omega
              · exact ⟨b, off, ha, hl, by have := hc 1 h1; rwa [Nat.one_mul] at this⟩
            obtain ⟨x0, x1, x2, x3⟩ := hcc
            have h1' : (1 : Int) < (n : Int) := by omega
            obtain ⟨q0, q1, qf⟩ := BX
            clear HV HA HA1 hf hq hw ht ha0
            generalize R 1 = r at *
            obtain ⟨rt, ra, rg, rv⟩ := r
            simp only at x0 x1 x2 x3 h2
            go_wp2_with fail
            refine bodyPost_ret (v := .agg #[.int .i64 1, .slice none 0 0]) (by simp [results, Try.results17, go_sem, *]) rfl ⟨none, 0, rfl, (HEB.out _ _).1, (HEB.out _ _).2⟩
          · have hq' : coG n R y = false := by simpa using hq
            have hC : C = 0 := by rw [HV.out.1, if_pos hc, if_pos hxy, if_pos hf, if_neg hq]
            have hM : n = M := by rw [HV.out.2, if_pos hC]
            subst hC hM
            have hp' : (0 : Int) < (n : Int) := by omega
            by_cases h1 : 1 < n
            · have h2 : ¬ y ≤ (R 1).a := by
                intro h9
                exact hq (by simp [coG]; exact ⟨h1, h9⟩)
              obtain ⟨b, off, rfl, hl, hcc⟩ : ∃ b off, a = some ⟨b, off, none⟩ ∧ b < w1.heap.size ∧ C4 w1 b (off + 4) (R 1) := by
                rcases HA1.out with h | ⟨b, off, ha, hl, hc⟩
                · omega
                · exact ⟨b, off, ha, hl, by have := hc 1 h1; rwa [Nat.one_mul] at this⟩
              obtain ⟨x0, x1, x2, x3⟩ := hcc
              have h1' : (1 : Int) < (n : Int) := by omega
              have h2' : decide (y ≤ (R 1).a) = false := by simp; omega
              clear x0 x2 x3
              go_wp2_with fail
              refine (l5Copy_any n R _ _ _ (by omega) HA1.out).mono ?_
              rintro e w3 ⟨ra, rc, rfl, hb3, ho3⟩
              obtain ⟨q0, q1, qf⟩ := BX.below hb3
              obtain ⟨ob, oo, rfl, ho1, ho2, _, hrow⟩ := own4_some ho3 hp
              obtain ⟨y0, y1, y2, y3⟩ := hrow.1 0 hp
              rw [Nat.zero_mul, Nat.add_zero] at y0 y1 y2 y3
              have yf := hrow.2
              have hne : ¬ w.heap.size = ob := by omega
              have hne2 : ¬ ob = w.heap.size := by omega
              have hB3 := below_then HB1.out hb3
              have ho4 : Own4 (w3.setCell ⟨ob, oo + 1, none⟩ (.int .i64 y)) w1.heap.size (w3.setCell ⟨ob, oo + 1, none⟩ (.int .i64 y)).heap.size (some ⟨ob, oo, none⟩) n (coS R y) := ⟨Nat.le_refl _, .inr ⟨ob, oo, rfl, ho1, by simpa [World.setCell] using ho2, row4_at hp hrow⟩⟩
              have HE : Hid (∀ u0 u1 : Value, _) := cres_end (hB3.setCell (p := ⟨ob, oo + 1, none⟩) (by show w.heap.size ≤ ob; omega) _) hs1 ho4
              clear hb3 ho3 hrow ho4 hB3 HEB HV HA HA1 hf hw ht ha0
              generalize R 0 = r0 at *
              go_wp2_with fail
              refine bodyPost_ret (v := .agg #[.int .i64 0, .slice (some ⟨ob, oo, none⟩) n rc]) (by simp [results, Try.results17, go_sem, *]) rfl ⟨_, rc, rfl, (HE.out _ _).1, (HE.out _ _).2⟩
            · have hp9 : 0 < n := hp
              have h1' : ¬ ((1 : Int) < (n : Int)) := by omega
              go_wp2_with fail
              refine (l5Copy_any n R _ _ _ (by omega) HA1.out).mono ?_
              rintro e w3 ⟨ra, rc, rfl, hb3, ho3⟩
              obtain ⟨q0, q1, qf⟩ := BX.below hb3
              obtain ⟨ob, oo, rfl, ho1, ho2, _, hrow⟩ := own4_some ho3 hp
              obtain ⟨y0, y1, y2, y3⟩ := hrow.1 0 hp
              rw [Nat.zero_mul, Nat.add_zero] at y0 y1 y2 y3
              have yf := hrow.2
              have hne : ¬ w.heap.size = ob := by omega
              have hne2 : ¬ ob = w.heap.size := by omega
              have hB3 := below_then HB1.out hb3
              have ho4 : Own4 (w3.setCell ⟨ob, oo + 1, none⟩ (.int .i64 y)) w1.heap.size (w3.setCell ⟨ob, oo + 1, none⟩ (.int .i64 y)).heap.size (some ⟨ob, oo, none⟩) n (coS R y) := ⟨Nat.le_refl _, .inr ⟨ob, oo, rfl, ho1, by simpa [World.setCell] using ho2, row4_at hp hrow⟩⟩
              have HE : Hid (∀ u0 u1 : Value, _) := cres_end (hB3.setCell (p := ⟨ob, oo + 1, none⟩) (by show w.heap.size ≤ ob; omega) _) hs1 ho4
              clear hb3 ho3 hrow ho4 hB3 HEB HV HA HA1 hf hw ht ha0
              generalize R 0 = r0 at *
              go_wp2_with fail
              refine bodyPost_ret (v := .agg #[.int .i64 0, .slice (some ⟨ob, oo, none⟩) n rc]) (by simp [results, Try.results17, go_sem, *]) rfl ⟨_, rc, rfl, (HE.out _ _).1, (HE.out _ _).2⟩
        · have hC : C = 4 := by rw [HV.out.1, if_pos hc, if_pos hxy, if_neg hf]
          have hM : M = 0 := by rw [HV.out.2, if_neg (by omega)]
          subst hC hM
          have hw : wrt n R ≠ x := by
            intro e
            unfold wrt at e
            split at e
            · rename_i h9
              exact hf (by simp [fob, h9.1, h9.2, e])
            · rw [inB_iff] at hx; omega
          clear HV
          generalize wrt n R = z at *
          have hwx : (z != x) = true := by simp [hw]
          obtain ⟨q0, q1, qf⟩ := BX
          go_wp2_with fail
          refine bodyPost_ret (v := .agg #[.int .i64 4, .slice none 0 0]) (by simp [results, Try.results17, go_sem, *]) rfl ⟨none, 0, rfl, (HEB.out _ _).1, (HEB.out _ _).2⟩
      · have hy' : inB y 1 1000000 = false := by simpa using hy
        have hC : C = 3 := by rw [HV.out.1, if_pos hc, if_neg (by simp [hy'])]
        have hM : M = 0 := by rw [HV.out.2, if_neg (by omega)]
        subst hC hM
        obtain ⟨q0, q1, qf⟩ := BX
        go_wp2_with fail
        refine (l5Txn_any _ _).mono ?_
        rintro e wt ⟨rfl, hwt⟩
        have hwt' := hwt.symm
        clear hwt
        subst hwt'
        rw [hx]
        go_wp2_with fail
        refine (l5At_any _ _).mono ?_
        rintro e wt ⟨rfl, hwt⟩
        have hwt' := hwt.symm
        clear hwt
        subst hwt'
        rw [hy']
        go_wp2_with fail
        refine bodyPost_ret (v := .agg #[.int .i64 3, .slice none 0 0]) (by simp [results, Try.results17, go_sem, *]) rfl ⟨none, 0, rfl, (HEB.out _ _).1, (HEB.out _ _).2⟩
    · have hx' : inB x 1 999 = false := by simpa using hx
      have hC : C = 3 := by rw [HV.out.1, if_pos hc, if_neg (by simp [hx'])]
      have hM : M = 0 := by rw [HV.out.2, if_neg (by omega)]
      subst hC hM
      obtain ⟨q0, q1, qf⟩ := BX
      go_wp2_with fail
      refine (l5Txn_any _ _).mono ?_
      rintro e wt ⟨rfl, hwt⟩
      have hwt' := hwt.symm
      clear hwt
      subst hwt'
      rw [hx']
      go_wp2_with fail
      refine bodyPost_ret (v := .agg #[.int .i64 3, .slice none 0 0]) (by simp [results, Try.results17, go_sem, *]) rfl ⟨none, 0, rfl, (HEB.out _ _).1, (HEB.out _ _).2⟩
  · have hC : C = chF n R := by rw [HV.out.1, if_neg hc]
    have hM : M = 0 := by rw [HV.out.2, if_neg (by omega)]
    subst hM
    rw [← hC]
    rw [← hC] at hc
    clear HV hC
    have hc1 : (C != 0) = true := by simp [hc]
    obtain ⟨q0, q1, qf⟩ := BX
    go_wp2_with fail
    refine bodyPost_ret (v := .agg #[.int .i64 C, .slice none 0 0]) (by simp [results, Try.results17, go_sem, *]) rfl ⟨none, 0, rfl, (HEB.out _ _).1, (HEB.out _ _).2⟩
set_option maxHeartbeats 4000000 in
theorem specPvC_any (n : Nat) (R : Nat → Vr) (a : Option Addr) (cc : Nat) (hcc : n ≤ cc) (x o : Int) (g : Bool) (v : Int) (w : World) (hn : n ≤ 9223372036854775807) (h : VersAt w a n R) :
    Calls Try.prog 14 #[.slice a n cc, .agg #[.int .i64 x, .int .i64 o], .bool g, .int .i64 v] w (CRes (pvC n R x o g v) (pvN n R x o g v) (pvS n R o g v) w) := by
  have HA : Hid (VersAt w a n R) := h
  have HV : Hid ((pvC n R x o g v = if avC n R x o = 0 then (if inB v 0 9999 = true then (if (g && v != 0) = true then 1 else (if mwC n R x o = 0 then (if fop n R = true then 0 else (if n = 12 then 2 else 0)) else mwC n R x o)) else 3) else avC n R x o) ∧ (pvN n R x o g v = if pvC n R x o g v = 0 then (if fop n R = true then n else n + 1) else 0) ∧ pvS n R o g v = if fop n R = true then pxA R ⟨o, 0, g, v⟩ else pxC R ⟨o, 0, g, v⟩) := ⟨rfl, rfl, rfl⟩
  clear h
  generalize pvC n R x o g v = C at *
  generalize pvN n R x o g v = M at *
  generalize pvS n R o g v = S at *
  have hbn : ∀ o1 o2, Below w.heap.size w ((w.alloc o1).alloc o2) := fun o1 o2 => (below_new w o1).alloc (by simp) _
  go_enter Try.func14, Try.ntmps14
  go_wp2_with fail
  refine (l5Asked_any n R a cc x o _ hn (HA.out.below (hbn _ _))).mono ?_
  rintro e w1 ⟨rfl, hb1⟩
  have BV : Box2 w1 w.heap.size (.int .i64 x) (.int .i64 o) := ((Box2.new w (.int .i64 x) (.int .i64 o) 32).alloc _).below hb1
  have BX : BoxR w1 (w.alloc (.cells #[.int .i64 x, .int .i64 o] 32)).heap.size (.int .i64 0) (.slice none 0 0) := (BoxR.new (w.alloc (.cells #[.int .i64 x, .int .i64 o] 32)) (.int .i64 0) (.slice none 0 0) 28).below hb1
  rw [World.size_alloc] at BX
  have HB1 : Hid (Below w.heap.size w w1) := below_then (hbn _ _) hb1
  have hs1 : w.heap.size + 1 < w1.heap.size := by have := hb1.size; simp at this; omega
  clear hb1 hbn
  obtain ⟨t0, t1⟩ := BV
  have BV : Box2 w1 w.heap.size (.int .i64 x) (.int .i64 o) := ⟨t0, t1⟩
  by_cases hc : avC n R x o = 0
  · rw [hc]
    have HA1 : Hid (VersAt w1 a n R) := HA.out.below HB1.out
    by_cases hv : inB v 0 9999 = true
    · by_cases hg : (g && v != 0) = true
      · have hg2 : g = true ∧ ¬ v = 0 := by simpa using hg
        obtain ⟨rfl, hv0⟩ := hg2
        have hv1 : (v != 0) = true := by simp [hv0]
        have hC : C = 1 := by rw [HV.out.1, if_pos hc, if_pos hv, if_pos hg]
        have hM : M = 0 := by rw [HV.out.2.1, if_neg (by omega)]
        subst hC hM
        clear HV
        go_wp2_with fail
        refine (l1Value_any _ _).mono ?_
        rintro e wt ⟨rfl, hwt⟩
        have hwt' := hwt.symm
        clear hwt
        subst hwt'
        rw [hv]
        obtain ⟨q0, q1, qf⟩ := BX
        have HE : Hid (∀ u0 u1 : Value, _) := cres_end1 (m := 0) (a := none) (S := S) HB1.out (Nat.lt_succ_self _) own4_none
        go_wp2_with fail
        refine bodyPost_ret (v := .agg #[.int .i64 1, .slice none 0 0]) (by simp [results, Try.results14, go_sem, *]) rfl ⟨none, 0, rfl, (HE.out _ _).1, (HE.out _ _).2⟩
      · have hg' : (g && v != 0) = false := by simpa using hg
        have HM : Hid ((C = (if mwC n R x o = 0 then (if fop n R = true then 0 else (if n = 12 then 2 else 0)) else mwC n R x o)) ∧ (M = if C = 0 then (if fop n R = true then n else n + 1) else 0) ∧ S = if fop n R = true then pxA R ⟨o, 0, g, v⟩ else pxC R ⟨o, 0, g, v⟩) := ⟨by rw [HV.out.1, if_pos hc, if_pos hv, if_neg hg], HV.out.2.1, HV.out.2.2⟩
        have hgv : g = false ∨ (g = true ∧ v = 0) := by cases g <;> simp_all
        clear HV hg hg'
        rcases hgv with rfl | ⟨rfl, rfl⟩
        · have hq9 : True := trivial
          go_wp2_with fail
          refine (l1Value_any _ _).mono ?_
          rintro e wt ⟨rfl, hwt⟩
          have hwt' := hwt.symm
          clear hwt
          subst hwt'
          rw [hv]
          go_wp2_with fail
          refine (specMw_any n R a cc x o _ hn HA1.out).mono ?_
          rintro e w2 ⟨rfl, hb2⟩
          have BX2 := BX.below hb2
          obtain ⟨p0, p1⟩ := BV.below hb2
          have HB2 : Hid (Below w.heap.size w w2) := below_then HB1.out hb2
          have HA2 : Hid (VersAt w2 a n R) := HA1.out.below hb2
          have hs2 : w.heap.size + 1 < w2.heap.size := Nat.lt_of_lt_of_le hs1 hb2.size
          clear hb2 BX BV t0 t1 HA HA1
          obtain ⟨hCm, hMm, hSm⟩ := HM.out
          clear HM
          by_cases hm : mwC n R x o = 0
          · obtain ⟨ho, hn12, hA, hB⟩ := mw_good hc hm
            rw [if_pos hm] at hCm
            rw [hm]
            cases hf : fop n R
            · have hw := hB hf
              rw [hf, if_neg (by simp)] at hCm
              rw [hf, if_neg (by simp)] at hSm
              by_cases h12 : n = 12
              · rw [if_pos h12] at hCm
                rw [if_neg (by omega)] at hMm
                subst hCm hMm
                have H12 : Hid (n = 12) := h12
                clear hA hB hSm hc hm h12
                go_wp2_with fail
                refine (l5Push_many n R a cc o false v w2 H12.out hw HA2.out).mono ?_
                rintro e w3 ⟨rfl, hb3⟩
                have BX3 := BX2.below hb3
                have HB3 : Hid (Below w.heap.size w w3) := below_then HB2.out hb3
                clear hb3 BX2 hn12
                obtain ⟨q0, q1, qf⟩ := BX3
                have HE : Hid (∀ u0 u1 : Value, _) := cres_end1 (m := 0) (a := none) (S := S) HB3.out (Nat.lt_succ_self _) own4_none
                go_wp2_with fail
                refine bodyPost_ret (v := .agg #[.int .i64 2, .slice none 0 0]) (by simp [results, Try.results14, go_sem, *]) rfl ⟨none, 0, rfl, (HE.out _ _).1, (HE.out _ _).2⟩
              · rw [if_neg h12] at hCm
                rw [if_pos hCm, hf, if_neg (by simp)] at hMm
                subst hCm hMm hSm
                clear hA hB hc hm
                go_wp2_with fail
                refine (l5Push_new n R a cc o false v w2 (by omega) hw HA2.out).mono ?_
                rintro e w3 ⟨ra, rc, rfl, hb3, ho3⟩
                obtain ⟨q0, q1, qf⟩ := BX2.below hb3
                have HE : Hid (∀ u0 u1 : Value, _) := cres_end1 (below_then HB2.out hb3) (by omega) ho3
                clear hb3 ho3
                go_wp2_with fail
                refine bodyPost_ret (v := .agg #[.int .i64 0, .slice ra (n + 1) rc]) (by simp [results, Try.results14, go_sem, *]) rfl ⟨ra, rc, rfl, (HE.out _ _).1, (HE.out _ _).2⟩
            · obtain ⟨hp, hw⟩ := hA hf
              rw [hf, if_pos rfl] at hCm
              rw [hf, if_pos rfl] at hSm
              rw [if_pos hCm, hf, if_pos rfl] at hMm
              have hMm2 := hMm.symm
              clear hMm
              subst hCm hMm2 hSm
              clear hA hB hc hm
              go_wp2_with fail
              refine (l5Push_own n R a cc o false v w2 hn12 hp hw HA2.out).mono ?_
              rintro e w3 ⟨ra, rc, rfl, hb3, ho3⟩
              obtain ⟨q0, q1, qf⟩ := BX2.below hb3
              have HE : Hid (∀ u0 u1 : Value, _) := cres_end1 (below_then HB2.out hb3) (by omega) ho3
              clear hb3 ho3
              go_wp2_with fail
              refine bodyPost_ret (v := .agg #[.int .i64 0, .slice ra n rc]) (by simp [results, Try.results14, go_sem, *]) rfl ⟨ra, rc, rfl, (HE.out _ _).1, (HE.out _ _).2⟩
          · rw [if_neg hm] at hCm
            rw [if_neg (by omega)] at hMm
            subst hMm
            rw [← hCm]
            rw [← hCm] at hm
            clear hCm hSm
            have hc1 : (C != 0) = true := by simp [hm]
            obtain ⟨q0, q1, qf⟩ := BX2
            have HE : Hid (∀ u0 u1 : Value, _) := cres_end1 (m := 0) (a := none) (S := S) HB2.out (Nat.lt_succ_self _) own4_none
            go_wp2_with fail
            refine bodyPost_ret (v := .agg #[.int .i64 C, .slice none 0 0]) (by simp [results, Try.results14, go_sem, *]) rfl ⟨none, 0, rfl, (HE.out _ _).1, (HE.out _ _).2⟩
        · have hq9 : True := trivial
          go_wp2_with fail
          refine (l1Value_any _ _).mono ?_
          rintro e wt ⟨rfl, hwt⟩
          have hwt' := hwt.symm
          clear hwt
          subst hwt'
          rw [hv]
          go_wp2_with fail
          refine (specMw_any n R a cc x o _ hn HA1.out).mono ?_
          rintro e w2 ⟨rfl, hb2⟩
          have BX2 := BX.below hb2
          obtain ⟨p0, p1⟩ := BV.below hb2
          have HB2 : Hid (Below w.heap.size w w2) := below_then HB1.out hb2
          have HA2 : Hid (VersAt w2 a n R) := HA1.out.below hb2
          have hs2 : w.heap.size + 1 < w2.heap.size := Nat.lt_of_lt_of_le hs1 hb2.size
          clear hb2 BX BV t0 t1 HA HA1
          obtain ⟨hCm, hMm, hSm⟩ := HM.out
          clear HM
          by_cases hm : mwC n R x o = 0
          · obtain ⟨ho, hn12, hA, hB⟩ := mw_good hc hm
            rw [if_pos hm] at hCm
            rw [hm]
            cases hf : fop n R
            · have hw := hB hf
              rw [hf, if_neg (by simp)] at hCm
              rw [hf, if_neg (by simp)] at hSm
              by_cases h12 : n = 12
              · rw [if_pos h12] at hCm
                rw [if_neg (by omega)] at hMm
                subst hCm hMm
                have H12 : Hid (n = 12) := h12
                clear hA hB hSm hc hm h12
                go_wp2_with fail
                refine (l5Push_many n R a cc o true 0 w2 H12.out hw HA2.out).mono ?_
                rintro e w3 ⟨rfl, hb3⟩
                have BX3 := BX2.below hb3
                have HB3 : Hid (Below w.heap.size w w3) := below_then HB2.out hb3
                clear hb3 BX2 hn12
                obtain ⟨q0, q1, qf⟩ := BX3
                have HE : Hid (∀ u0 u1 : Value, _) := cres_end1 (m := 0) (a := none) (S := S) HB3.out (Nat.lt_succ_self _) own4_none
                go_wp2_with fail
                refine bodyPost_ret (v := .agg #[.int .i64 2, .slice none 0 0]) (by simp [results, Try.results14, go_sem, *]) rfl ⟨none, 0, rfl, (HE.out _ _).1, (HE.out _ _).2⟩
              · rw [if_neg h12] at hCm
                rw [if_pos hCm, hf, if_neg (by simp)] at hMm
                subst hCm hMm hSm
                clear hA hB hc hm
                go_wp2_with fail
                refine (l5Push_new n R a cc o true 0 w2 (by omega) hw HA2.out).mono ?_
                rintro e w3 ⟨ra, rc, rfl, hb3, ho3⟩
                obtain ⟨q0, q1, qf⟩ := BX2.below hb3
                have HE : Hid (∀ u0 u1 : Value, _) := cres_end1 (below_then HB2.out hb3) (by omega) ho3
                clear hb3 ho3
                go_wp2_with fail
                refine bodyPost_ret (v := .agg #[.int .i64 0, .slice ra (n + 1) rc]) (by simp [results, Try.results14, go_sem, *]) rfl ⟨ra, rc, rfl, (HE.out _ _).1, (HE.out _ _).2⟩
            · obtain ⟨hp, hw⟩ := hA hf
              rw [hf, if_pos rfl] at hCm
              rw [hf, if_pos rfl] at hSm
              rw [if_pos hCm, hf, if_pos rfl] at hMm
              have hMm2 := hMm.symm
              clear hMm
              subst hCm hMm2 hSm
              clear hA hB hc hm
              go_wp2_with fail
              refine (l5Push_own n R a cc o true 0 w2 hn12 hp hw HA2.out).mono ?_
              rintro e w3 ⟨ra, rc, rfl, hb3, ho3⟩
              obtain ⟨q0, q1, qf⟩ := BX2.below hb3
              have HE : Hid (∀ u0 u1 : Value, _) := cres_end1 (below_then HB2.out hb3) (by omega) ho3
              clear hb3 ho3
              go_wp2_with fail
              refine bodyPost_ret (v := .agg #[.int .i64 0, .slice ra n rc]) (by simp [results, Try.results14, go_sem, *]) rfl ⟨ra, rc, rfl, (HE.out _ _).1, (HE.out _ _).2⟩
          · rw [if_neg hm] at hCm
            rw [if_neg (by omega)] at hMm
            subst hMm
            rw [← hCm]
            rw [← hCm] at hm
            clear hCm hSm
            have hc1 : (C != 0) = true := by simp [hm]
            obtain ⟨q0, q1, qf⟩ := BX2
            have HE : Hid (∀ u0 u1 : Value, _) := cres_end1 (m := 0) (a := none) (S := S) HB2.out (Nat.lt_succ_self _) own4_none
            go_wp2_with fail
            refine bodyPost_ret (v := .agg #[.int .i64 C, .slice none 0 0]) (by simp [results, Try.results14, go_sem, *]) rfl ⟨none, 0, rfl, (HE.out _ _).1, (HE.out _ _).2⟩
    · have hv' : inB v 0 9999 = false := by simpa using hv
      have hC : C = 3 := by rw [HV.out.1, if_pos hc, if_neg hv]
      have hM : M = 0 := by rw [HV.out.2.1, if_neg (by omega)]
      subst hC hM
      clear HV
      go_wp2_with fail
      refine (l1Value_any _ _).mono ?_
      rintro e wt ⟨rfl, hwt⟩
      have hwt' := hwt.symm
      clear hwt
      subst hwt'
      rw [hv']
      obtain ⟨q0, q1, qf⟩ := BX
      have HE : Hid (∀ u0 u1 : Value, _) := cres_end1 (m := 0) (a := none) (S := S) HB1.out (Nat.lt_succ_self _) own4_none
      go_wp2_with fail
      refine bodyPost_ret (v := .agg #[.int .i64 3, .slice none 0 0]) (by simp [results, Try.results14, go_sem, *]) rfl ⟨none, 0, rfl, (HE.out _ _).1, (HE.out _ _).2⟩
  · have hC : C = avC n R x o := by rw [HV.out.1, if_neg hc]
    have hM : M = 0 := by rw [HV.out.2.1, if_neg (by omega)]
    subst hM
    rw [← hC]
    rw [← hC] at hc
    clear HV hC
    have hc1 : (C != 0) = true := by simp [hc]
    obtain ⟨q0, q1, qf⟩ := BX
    have HE : Hid (∀ u0 u1 : Value, _) := cres_end1 (m := 0) (a := none) (S := S) HB1.out (Nat.lt_succ_self _) own4_none
    go_wp2_with fail
    refine bodyPost_ret (v := .agg #[.int .i64 C, .slice none 0 0]) (by simp [results, Try.results14, go_sem, *]) rfl ⟨none, 0, rfl, (HE.out _ _).1, (HE.out _ _).2⟩
end Go.Proofs.Ytiabblmjgfkijaa
