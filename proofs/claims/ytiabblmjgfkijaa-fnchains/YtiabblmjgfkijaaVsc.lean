/- PurgeChain at any capacity. -/
import Derived.Test.YtiabblmjgfkijaaVs
namespace Go.Proofs.Ytiabblmjgfkijaa
open Go.RowKit Go.Deep
set_option linter.unusedVariables false
set_option maxRecDepth 20000

set_option maxHeartbeats 4000000 in
theorem specPuC_any (n : Nat) (R : Nat → Vr) (b off cc : Nat) (hcc : n ≤ cc) (f : Int) (w : World) (hn : n ≤ 9223372036854775807) (h : VersAt w (some ⟨b, off, none⟩) n R) :
    Calls Try.prog 8 #[.slice (some ⟨b, off, none⟩) n cc, .int .i64 f] w (CRes (puC n R f) (puM n R f) R w) := by
  have HA : Hid (VersAt w (some ⟨b, off, none⟩) n R) := h
  have HV : Hid ((puC n R f = if chF n R = 0 then (if inB f 0 1000000 = true then 0 else 3) else chF n R) ∧ (puM n R f = if puC n R f = 0 then puN n R f else 0)) := ⟨rfl, rfl⟩
  clear h
  generalize puC n R f = C at *
  generalize puM n R f = M at *
  go_enter Try.func8, Try.ntmps8
  go_wp2_with fail
  refine (specChF_any n R _ cc _ hn (HA.out.below (below_new _ _))).mono ?_
  rintro e w1 ⟨rfl, hb1⟩
  have BX := (BoxR.new w (.int .i64 0) (.slice none 0 0) 28).below hb1
  have HB1 : Hid (Below w.heap.size w w1) := below_then (below_new _ _) hb1
  have hs1 : w.heap.size < w1.heap.size := by have := hb1.size; simp at this; omega
  clear hb1
  have HEB : Hid (∀ u0 u1 : Value, _) := cres_end (m := 0) (a := none) (S := R) HB1.out (Nat.lt_succ_self _) own4_none
  by_cases hc : chF n R = 0
  · rw [hc]
    have HA1 : Hid (VersAt w1 (some ⟨b, off, none⟩) n R) := HA.out.below HB1.out
    have hn12 := (chF_good hc).1
    by_cases hf : inB f 0 1000000 = true
    · have hC : C = 0 := by rw [HV.out.1, if_pos hc, if_pos hf]
      have hM : M = puN n R f := by rw [HV.out.2, if_pos hC]
      subst hC
      go_wp2_with fail
      refine (l1In_any _ _ _ _).mono ?_
      rintro e wt ⟨rfl, hwt⟩
      have hwt' := hwt.symm
      clear hwt
      subst hwt'
      rw [hf]
      go_wp2_with fail
      refine (l5Purge_any n R _ _ f w1 hc HA1.out).mono ?_
      rintro e w3 ⟨ra, rc, rfl, hb3, ho3⟩
      rw [← hM] at *
      obtain ⟨q0, q1, qf⟩ := BX.below hb3
      have HE : Hid (∀ u0 u1 : Value, _) := cres_end (below_then HB1.out hb3) hs1 ho3
      clear hb3 ho3 HV hM
      go_wp2_with fail
      refine bodyPost_ret (v := .agg #[.int .i64 0, .slice ra M rc]) (by simp [results, Try.results8, go_sem, *]) rfl ⟨ra, rc, rfl, (HE.out _ _).1, (HE.out _ _).2⟩
    · have hf' : inB f 0 1000000 = false := by simpa using hf
      have hC : C = 3 := by rw [HV.out.1, if_pos hc, if_neg hf]
      have hM : M = 0 := by rw [HV.out.2, if_neg (by omega)]
      subst hC hM
      go_wp2_with fail
      refine (l1In_any _ _ _ _).mono ?_
      rintro e wt ⟨rfl, hwt⟩
      have hwt' := hwt.symm
      clear hwt
      subst hwt'
      rw [hf']
      obtain ⟨q0, q1, qf⟩ := BX
      go_wp2_with fail
      refine bodyPost_ret (v := .agg #[.int .i64 3, .slice none 0 0]) (by simp [results, Try.results8, go_sem, *]) rfl ⟨none, 0, rfl, (HEB.out _ _).1, (HEB.out _ _).2⟩
  · have hC : C = chF n R := by rw [HV.out.1, if_neg hc]
    have hM : M = 0 := by rw [HV.out.2, if_neg (by omega)]
    subst hM
    rw [← hC]
    rw [← hC] at hc
    clear HV hC
    have hc1 : (C != 0) = true := by simp [hc]
    obtain ⟨q0, q1, qf⟩ := BX
    go_wp2_with fail
    refine bodyPost_ret (v := .agg #[.int .i64 C, .slice none 0 0]) (by simp [results, Try.results8, go_sem, *]) rfl ⟨none, 0, rfl, (HEB.out _ _).1, (HEB.out _ _).2⟩
set_option maxHeartbeats 4000000 in
theorem implPuC_any (n : Nat) (R : Nat → Vr) (b off cc : Nat) (hcc : n ≤ cc) (f : Int) (w : World) (hn : n ≤ 9223372036854775807) (h : VersAt w (some ⟨b, off, none⟩) n R) :
    Calls Try.prog 7 #[.slice (some ⟨b, off, none⟩) n cc, .int .i64 f] w (CRes (puC n R f) (puM n R f) R w) := by
  have HA : Hid (VersAt w (some ⟨b, off, none⟩) n R) := h
  have HV : Hid ((puC n R f = if chF n R = 0 then (if inB f 0 1000000 = true then 0 else 3) else chF n R) ∧ (puM n R f = if puC n R f = 0 then puN n R f else 0)) := ⟨rfl, rfl⟩
  clear h
  generalize puC n R f = C at *
  generalize puM n R f = M at *
  go_enter Try.func7, Try.ntmps7
  go_wp2_with fail
  refine (implChF_any n R _ cc _ hn (HA.out.below (below_new _ _))).mono ?_
  rintro e w1 ⟨rfl, hb1⟩
  have BX := (BoxR.new w (.int .i64 0) (.slice none 0 0) 28).below hb1
  have HB1 : Hid (Below w.heap.size w w1) := below_then (below_new _ _) hb1
  have hs1 : w.heap.size < w1.heap.size := by have := hb1.size; simp at this; omega
  clear hb1
  have HEB : Hid (∀ u0 u1 : Value, _) := cres_end (m := 0) (a := none) (S := R) HB1.out (Nat.lt_succ_self _) own4_none
  by_cases hc : chF n R = 0
  · rw [hc]
    have HA1 : Hid (VersAt w1 (some ⟨b, off, none⟩) n R) := HA.out.below HB1.out
    have hn12 := (chF_good hc).1
    by_cases hf : inB f 0 1000000 = true
    · have hC : C = 0 := by rw [HV.out.1, if_pos hc, if_pos hf]
      have hM : M = puN n R f := by rw [HV.out.2, if_pos hC]
      subst hC
      go_wp2_with fail
      refine (isAt_any _ _).mono ?_
      rintro e wt ⟨rfl, hwt⟩
      have hwt' := hwt.symm
      clear hwt
      subst hwt'
      rw [hf]
      go_wp2_with fail
      refine (placeSeen_any n R _ cc f 0 _ hn12 (HA1.out.below (below_new _ _))).mono ?_
      rintro e w2 ⟨rfl, hb2⟩
      have BV2 := (Box2.new w1 (.int .i64 f) (.int .i64 0) 32).below hb2
      have hb2' := below_then (below_new _ _) hb2
      have HXW : Hid (∀ wz, Below w2.heap.size w2 wz → BoxR wz w.heap.size (.int .i64 0) (.slice none 0 0) ∧ Below w.heap.size w wz ∧ VersAt wz (some ⟨b, off, none⟩) n R ∧ w.heap.size < wz.heap.size) := fun wz hz => by
        have h9 := below_then hb2' hz
        exact ⟨BX.below h9, below_then HB1.out h9, HA1.out.below h9, Nat.lt_of_lt_of_le hs1 h9.size⟩
      have HA2 : Hid (VersAt w2 (some ⟨b, off, none⟩) n R) := HA1.out.below hb2'
      clear hb2 hb2' HEB BX HA HA1 HV
      generalize w1.heap.size = B at *
      obtain ⟨v0, v1⟩ := BV2
      by_cases hp : pS n R f 0 < n
      · obtain ⟨b', off', e9, hl, x0, x1, x2, x3⟩ := HA2.out.nth hp
        simp only [Option.some.injEq, Addr.mk.injEq] at e9
        obtain ⟨rfl, rfl, -⟩ := e9
        have hk0 := kd_told hp
        have hpu : puN n R f = if (R (pS n R f 0)).g = false then pS n R f 0 + 1 else pS n R f 0 := by
          unfold puN
          by_cases h9 : (R (pS n R f 0)).g = false
          · rw [if_pos (told_iff.2 ⟨hp, h9⟩), if_pos h9]
          · rw [if_neg (fun h8 => h9 (told_iff.1 h8).2), if_neg h9]
        clear HA2 hc
        generalize pS n R f 0 = p at *
        generalize R p = r at *
        have hp1 : (p : Int) < (n : Int) := by omega
        have hp3 : (0 : Int) ≤ (p : Int) := by omega
        cases hg : r.g
        · have hk : kd r f 0 = 2 := by rw [hk0]; simp [hg]
          have hM2 : p + 1 = M := by rw [hM, hpu, hg]; rfl
          subst hM2
          clear hM hpu hk0 hg
          go_wp2_with fail
          have hb0 : Below w2.heap.size w2 w2.drew := (Below.refl _ _).drew
          go_region_held3 (fun w' => Below w2.heap.size w2 w' ∧ w'.cell? ⟨b, off + p * 4, none⟩ = some (.int .i64 r.t) ∧ w'.cell? ⟨b, off + p * 4 + 1, none⟩ = some (.int .i64 r.a) ∧ w'.cell? ⟨b, off + p * 4 + 2, none⟩ = some (.bool r.g) ∧ w'.cell? ⟨b, off + p * 4 + 3, none⟩ = some (.int .i64 r.v) ∧ w'.cell? ⟨B, 0, none⟩ = some (.int .i64 f) ∧ w'.cell? ⟨B, 1, none⟩ = some (.int .i64 0)) (go_keep)
            (first | (go_at_call 25; refine (kindIn_any r f 0 _).mono ?_; rintro e wq ⟨rfl, hbq⟩; rw [hk]; have hU := below_then (w := w2) (by simp [*]) hbq; have hU0 := cell_below (B := b) (o := off + p * 4) (v := .int .i64 r.t) (by simp [*]) hbq; have hU1 := cell_below (B := b) (o := off + p * 4 + 1) (v := .int .i64 r.a) (by simp [*]) hbq; have hU2 := cell_below (B := b) (o := off + p * 4 + 2) (v := .bool r.g) (by simp [*]) hbq; have hU3 := cell_below (B := b) (o := off + p * 4 + 3) (v := .int .i64 r.v) (by simp [*]) hbq; have hU4 := cell_below (B := B) (o := 0) (v := .int .i64 f) (by simp [*]) hbq; have hU5 := cell_below (B := B) (o := 1) (v := .int .i64 0) (by simp [*]) hbq))
          obtain ⟨BX3, HB3, HV0, hs3⟩ := HXW.out wq (by assumption)
          have HV3 := HV0.some_less (m := (p + 1)) (by omega)
          have hm1 : (0 : Int) ≤ (p : Int) + 1 := by omega
          have hm2 : (p : Int) + 1 ≤ (n : Int) := by omega
          have hm3 : (p : Int) ≤ (n : Int) := by omega
          have hm4 : (p : Int) + 1 ≤ (cc : Int) := by omega
          have hm5 : (p : Int) ≤ (cc : Int) := by omega
          go_wp2_with fail
          have hjo : jv (fun _ => (p + 1)) (fun _ => R) 1 = vL R (p + 1) := by simp [jv]
          have hjp : ∀ i, i < 1 → (wq.alloc (.cells #[.slice (some ⟨b, off, none⟩) (p + 1) cc] 24)).cell? ⟨wq.heap.size, 0 + i, none⟩ = some (.slice (some ⟨b, off, none⟩) (p + 1) cc) ∧ VersAt (wq.alloc (.cells #[.slice (some ⟨b, off, none⟩) (p + 1) cc] 24)) (some ⟨b, off, none⟩) (p + 1) R := fun i hi => by
            obtain rfl : i = 0 := by omega
            exact ⟨by simp [go_sem], VersAt.below HV3 (below_new _ _)⟩
          have hj := joined_any 1 (fun _ => some ⟨b, off, none⟩) (fun _ => (p + 1)) (fun _ => cc) (fun _ => R) wq.heap.size 0 1 _ (fun i hi => by show (p + 1) ≤ 100; omega) (by simp) hjp (by omega)
          rw [hjo, vL_len] at hj
          refine hj.mono ?_
          rintro e w5 ⟨ra, rcc, rfl, hb5, ho5⟩
          replace ho5 := ho5.congr (S := R) (fun i hi => vL_getD hi)
          have hs5 : w.heap.size < (wq.alloc (.cells #[.slice (some ⟨b, off, none⟩) (p + 1) cc] 24)).heap.size := by rw [World.size_alloc]; omega
          have hb6 := below_then (below_new _ _) hb5
          obtain ⟨q0, q1, qf⟩ := BX3.below hb6
          have HE : Hid (∀ u0 u1 : Value, _) := cres_end (below_then HB3 hb6) hs5 ho5
          clear hb5 ho5 hb6 hj hjp hjo hs5
          go_wp2_with fail
          refine bodyPost_ret (v := .agg #[.int .i64 0, .slice ra (p + 1) rcc]) (by simp [results, Try.results7, go_sem, *]) rfl ⟨ra, rcc, rfl, (HE.out _ _).1, (HE.out _ _).2⟩
        · have hk : kd r f 0 = 1 := by rw [hk0]; simp [hg]
          have hM2 : p = M := by rw [hM, hpu, hg]; rfl
          subst hM2
          clear hM hpu hk0 hg
          go_wp2_with fail
          have hb0 : Below w2.heap.size w2 w2.drew := (Below.refl _ _).drew
          go_region_held3 (fun w' => Below w2.heap.size w2 w' ∧ w'.cell? ⟨b, off + p * 4, none⟩ = some (.int .i64 r.t) ∧ w'.cell? ⟨b, off + p * 4 + 1, none⟩ = some (.int .i64 r.a) ∧ w'.cell? ⟨b, off + p * 4 + 2, none⟩ = some (.bool r.g) ∧ w'.cell? ⟨b, off + p * 4 + 3, none⟩ = some (.int .i64 r.v) ∧ w'.cell? ⟨B, 0, none⟩ = some (.int .i64 f) ∧ w'.cell? ⟨B, 1, none⟩ = some (.int .i64 0)) (go_keep)
            (first | (go_at_call 25; refine (kindIn_any r f 0 _).mono ?_; rintro e wq ⟨rfl, hbq⟩; rw [hk]; have hU := below_then (w := w2) (by simp [*]) hbq; have hU0 := cell_below (B := b) (o := off + p * 4) (v := .int .i64 r.t) (by simp [*]) hbq; have hU1 := cell_below (B := b) (o := off + p * 4 + 1) (v := .int .i64 r.a) (by simp [*]) hbq; have hU2 := cell_below (B := b) (o := off + p * 4 + 2) (v := .bool r.g) (by simp [*]) hbq; have hU3 := cell_below (B := b) (o := off + p * 4 + 3) (v := .int .i64 r.v) (by simp [*]) hbq; have hU4 := cell_below (B := B) (o := 0) (v := .int .i64 f) (by simp [*]) hbq; have hU5 := cell_below (B := B) (o := 1) (v := .int .i64 0) (by simp [*]) hbq))
          obtain ⟨BX3, HB3, HV0, hs3⟩ := HXW.out wq (by assumption)
          have HV3 := HV0.some_less (m := p) (by omega)
          have hm1 : (0 : Int) ≤ (p : Int) + 1 := by omega
          have hm2 : (p : Int) + 1 ≤ (n : Int) := by omega
          have hm3 : (p : Int) ≤ (n : Int) := by omega
          have hm4 : (p : Int) + 1 ≤ (cc : Int) := by omega
          have hm5 : (p : Int) ≤ (cc : Int) := by omega
          go_wp2_with fail
          have hjo : jv (fun _ => p) (fun _ => R) 1 = vL R p := by simp [jv]
          have hjp : ∀ i, i < 1 → (wq.alloc (.cells #[.slice (some ⟨b, off, none⟩) p cc] 24)).cell? ⟨wq.heap.size, 0 + i, none⟩ = some (.slice (some ⟨b, off, none⟩) p cc) ∧ VersAt (wq.alloc (.cells #[.slice (some ⟨b, off, none⟩) p cc] 24)) (some ⟨b, off, none⟩) p R := fun i hi => by
            obtain rfl : i = 0 := by omega
            exact ⟨by simp [go_sem], VersAt.below HV3 (below_new _ _)⟩
          have hj := joined_any 1 (fun _ => some ⟨b, off, none⟩) (fun _ => p) (fun _ => cc) (fun _ => R) wq.heap.size 0 1 _ (fun i hi => by show p ≤ 100; omega) (by simp) hjp (by omega)
          rw [hjo, vL_len] at hj
          refine hj.mono ?_
          rintro e w5 ⟨ra, rcc, rfl, hb5, ho5⟩
          replace ho5 := ho5.congr (S := R) (fun i hi => vL_getD hi)
          have hs5 : w.heap.size < (wq.alloc (.cells #[.slice (some ⟨b, off, none⟩) p cc] 24)).heap.size := by rw [World.size_alloc]; omega
          have hb6 := below_then (below_new _ _) hb5
          obtain ⟨q0, q1, qf⟩ := BX3.below hb6
          have HE : Hid (∀ u0 u1 : Value, _) := cres_end (below_then HB3 hb6) hs5 ho5
          clear hb5 ho5 hb6 hj hjp hjo hs5
          go_wp2_with fail
          refine bodyPost_ret (v := .agg #[.int .i64 0, .slice ra p rcc]) (by simp [results, Try.results7, go_sem, *]) rfl ⟨ra, rcc, rfl, (HE.out _ _).1, (HE.out _ _).2⟩
      · have hpn : pS n R f 0 = n := by have := pS_le n R f 0; omega
        have hM2 : n = M := by
          rw [hM]
          unfold puN
          rw [if_neg (fun h9 => hp (told_iff.1 h9).1), hpn]
        subst hM2
        rw [hpn]
        clear hM hp hpn hc HA2
        go_wp2_with fail
        refine wp_region_any (by kernel_rfl) ?_
        change wpAny _ _ _ _ _ _ _ (World.drew _)
        refine wpAny_take (i := 0) (v := .int .i64 (n : Int)) rfl (by kernel_rfl) (by kernel_rfl) (by kernel_rfl) (fun _ _ _ h => h) (Or.inl ⟨by kernel_rfl, by intro w; go_simp⟩) ?_
        refine wpAny_take (i := 1) (v := .slice (some ⟨b, off, none⟩) n cc) rfl (by kernel_rfl) (by kernel_rfl) (by kernel_rfl) (fun _ _ _ h => h) (Or.inl ⟨by kernel_rfl, by intro w; go_simp⟩) ?_
        refine wpAny_take (i := 2) (v := .int .i64 (n : Int)) rfl (by kernel_rfl) (by kernel_rfl) (by kernel_rfl) (fun _ _ _ h => h) (Or.inl ⟨by kernel_rfl, by intro w; go_simp⟩) ?_
        refine wpAny_take (i := 3) (v := .bool false) rfl (by kernel_rfl) (by kernel_rfl) (by kernel_rfl) (fun _ _ _ h => h) (Or.inl ⟨by kernel_rfl, by intro w; go_simp⟩) ?_
        refine wpAny_take (i := 4) (v := .bool false) rfl (by kernel_rfl) (by kernel_rfl) (by kernel_rfl) (fun _ _ _ h => h) (Or.inl ⟨by kernel_rfl, by intro w; go_simp⟩) ?_
        refine any_skip 5 (some 28) (by kernel_rfl) (by kernel_rfl) (by kernel_rfl) (by kernel_rfl) (by kernel_rfl) (fun _ _ _ h => h) ?_
        refine any_skip 6 (some 29) (by kernel_rfl) (by kernel_rfl) (by kernel_rfl) (by kernel_rfl) (by kernel_rfl) (fun _ _ _ h => h) ?_
        refine any_skip 7 (some 30) (by kernel_rfl) (by kernel_rfl) (by kernel_rfl) (by kernel_rfl) (by kernel_rfl) (fun _ _ _ h => h) ?_
        refine any_skip 8 (some 31) (by kernel_rfl) (by kernel_rfl) (by kernel_rfl) (by kernel_rfl) (by kernel_rfl) (fun _ _ _ h => h) ?_
        refine any_skip 9 (some 32) (by kernel_rfl) (by kernel_rfl) (by kernel_rfl) (by kernel_rfl) (by kernel_rfl) (fun _ _ _ h => h) ?_
        refine any_skip 10 (some 33) (by kernel_rfl) (by kernel_rfl) (by kernel_rfl) (by kernel_rfl) (by kernel_rfl) (fun _ _ _ h => h) ?_
        refine any_skip 11 (some 34) (by kernel_rfl) (by kernel_rfl) (by kernel_rfl) (by kernel_rfl) (by kernel_rfl) (fun _ _ _ h => h) ?_
        refine wpAny_take (i := 12) (v := .bool false) rfl (by kernel_rfl) (by kernel_rfl) (by kernel_rfl) (fun _ _ _ h => h) (Or.inl ⟨by kernel_rfl, by intro w; go_simp⟩) ?_
        refine wpAny_done (by kernel_rfl) ?_ _
        go_simp
        obtain ⟨BX3, HB3, HV3, hs3⟩ := HXW.out w2.drew ((Below.refl _ _).drew)
        have hm3 : (0 : Int) ≤ (n : Int) := by omega
        have hm4 : (n : Int) ≤ (cc : Int) := by omega
        go_wp2_with fail
        have hjo : jv (fun _ => n) (fun _ => R) 1 = vL R n := by simp [jv]
        have hjp : ∀ i, i < 1 → (w2.drew.alloc (.cells #[.slice (some ⟨b, off, none⟩) n cc] 24)).cell? ⟨w2.drew.heap.size, 0 + i, none⟩ = some (.slice (some ⟨b, off, none⟩) n cc) ∧ VersAt (w2.drew.alloc (.cells #[.slice (some ⟨b, off, none⟩) n cc] 24)) (some ⟨b, off, none⟩) n R := fun i hi => by
          obtain rfl : i = 0 := by omega
          exact ⟨by simp [go_sem], VersAt.below HV3 (below_new _ _)⟩
        have hj := joined_any 1 (fun _ => some ⟨b, off, none⟩) (fun _ => n) (fun _ => cc) (fun _ => R) w2.drew.heap.size 0 1 _ (fun i hi => by show n ≤ 100; omega) (by simp) hjp (by omega)
        rw [hjo, vL_len] at hj
        refine hj.mono ?_
        rintro e w5 ⟨ra, rcc, rfl, hb5, ho5⟩
        replace ho5 := ho5.congr (S := R) (fun i hi => vL_getD hi)
        have hs5 : w.heap.size < (w2.drew.alloc (.cells #[.slice (some ⟨b, off, none⟩) n cc] 24)).heap.size := by rw [World.size_alloc]; omega
        have hb6 := below_then (below_new _ _) hb5
        obtain ⟨q0, q1, qf⟩ := BX3.below hb6
        have HE : Hid (∀ u0 u1 : Value, _) := cres_end (below_then HB3 hb6) hs5 ho5
        clear hb5 ho5 hb6 hj hjp hjo hs5
        go_wp2_with fail
        refine bodyPost_ret (v := .agg #[.int .i64 0, .slice ra n rcc]) (by simp [results, Try.results7, go_sem, *]) rfl ⟨ra, rcc, rfl, (HE.out _ _).1, (HE.out _ _).2⟩
    · have hf' : inB f 0 1000000 = false := by simpa using hf
      have hC : C = 3 := by rw [HV.out.1, if_pos hc, if_neg hf]
      have hM : M = 0 := by rw [HV.out.2, if_neg (by omega)]
      subst hC hM
      go_wp2_with fail
      refine (isAt_any _ _).mono ?_
      rintro e wt ⟨rfl, hwt⟩
      have hwt' := hwt.symm
      clear hwt
      subst hwt'
      rw [hf']
      obtain ⟨q0, q1, qf⟩ := BX
      go_wp2_with fail
      refine bodyPost_ret (v := .agg #[.int .i64 3, .slice none 0 0]) (by simp [results, Try.results7, go_sem, *]) rfl ⟨none, 0, rfl, (HEB.out _ _).1, (HEB.out _ _).2⟩
  · have hC : C = chF n R := by rw [HV.out.1, if_neg hc]
    have hM : M = 0 := by rw [HV.out.2, if_neg (by omega)]
    subst hM
    rw [← hC]
    rw [← hC] at hc
    clear HV hC
    have hc1 : (C != 0) = true := by simp [hc]
    obtain ⟨q0, q1, qf⟩ := BX
    go_wp2_with fail
    refine bodyPost_ret (v := .agg #[.int .i64 C, .slice none 0 0]) (by simp [results, Try.results7, go_sem, *]) rfl ⟨none, 0, rfl, (HEB.out _ _).1, (HEB.out _ _).2⟩
end Go.Proofs.Ytiabblmjgfkijaa
