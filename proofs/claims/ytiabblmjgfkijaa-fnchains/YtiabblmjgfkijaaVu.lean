/- spec.PushVersion. -/
import Derived.Test.YtiabblmjgfkijaaVt
import Derived.Test.YtiabblmjgfkijaaVn
import Derived.Deep.DeepCutAuto
namespace Go.Proofs.Ytiabblmjgfkijaa
open Go.RowKit Go.Deep
set_option linter.unusedVariables false
set_option maxRecDepth 20000

/-- What a push answers: its code, how many versions, which. -/
def pvC (n : Nat) (R : Nat → Vr) (x o : Int) (g : Bool) (v : Int) : Int :=
  if avC n R x o = 0 then (if inB v 0 9999 = true then (if (g && v != 0) = true then 1 else (if mwC n R x o = 0 then (if fop n R = true then 0 else (if n = 12 then 2 else 0)) else mwC n R x o)) else 3) else avC n R x o
def pvN (n : Nat) (R : Nat → Vr) (x o : Int) (g : Bool) (v : Int) : Nat := if pvC n R x o g v = 0 then (if fop n R = true then n else n + 1) else 0
def pvS (n : Nat) (R : Nat → Vr) (o : Int) (g : Bool) (v : Int) : Nat → Vr := if fop n R = true then pxA R ⟨o, 0, g, v⟩ else pxC R ⟨o, 0, g, v⟩
theorem mw_good {n : Nat} {R : Nat → Vr} {x o : Int} (ha : avC n R x o = 0) (h : mwC n R x o = 0) : o ≠ 0 ∧ n ≤ 12 ∧ (fop n R = true → 0 < n ∧ wrt n R = o) ∧ (fop n R = false → wrt n R ≠ o) := by
  have ho : o ≠ 0 := by
    intro e
    unfold mwC at h
    rw [if_pos ha, if_pos e] at h
    omega
  have hm : mayB n R x o = true := by
    unfold mwC at h
    rw [if_pos ha, if_neg ho] at h
    by_cases h9 : mayB n R x o = true
    · exact h9
    · rw [if_neg h9] at h; omega
  refine ⟨ho, avC_good ha, fun hf => ?_, fun hf => ?_⟩
  · have ⟨h1, h2⟩ : 0 < n ∧ (R 0).a = 0 := by simpa [fop] using hf
    refine ⟨h1, ?_⟩
    have h3 : ¬ n = 0 := by omega
    have : (R 0).t = o := by simpa [mayB, h2, h3] using hm
    exact (if_pos ⟨h1, h2⟩).trans this
  · rw [wrt_shut hf]; exact fun e => ho e.symm
theorem cres_end1 {w w3 : World} {lo m : Nat} {a : Option Addr} {S : Nat → Vr} (hb : Below w.heap.size w w3) (hl : w.heap.size + 1 < lo) (ho : Own4 w3 lo w3.heap.size a m S) (u0 u1 : Value) :
    Below w.heap.size w ((w3.setCell ⟨w.heap.size + 1, 0, none⟩ u0).setCell ⟨w.heap.size + 1, 1, none⟩ u1) ∧
      Own4 ((w3.setCell ⟨w.heap.size + 1, 0, none⟩ u0).setCell ⟨w.heap.size + 1, 1, none⟩ u1) w.heap.size ((w3.setCell ⟨w.heap.size + 1, 0, none⟩ u0).setCell ⟨w.heap.size + 1, 1, none⟩ u1).heap.size a m S := by
  refine ⟨(hb.setCell (p := ⟨w.heap.size + 1, 0, none⟩) (Nat.le_succ _) _).setCell (p := ⟨w.heap.size + 1, 1, none⟩) (Nat.le_succ _) _, ?_⟩
  have hw : Writes (w.heap.size + 1) (w.heap.size + 2) w3 ((w3.setCell ⟨w.heap.size + 1, 0, none⟩ u0).setCell ⟨w.heap.size + 1, 1, none⟩ u1) :=
    ((Writes.refl _ _ _).setCell (p := ⟨w.heap.size + 1, 0, none⟩) (Nat.le_refl _) (Nat.lt_succ_self _) _).setCell (p := ⟨w.heap.size + 1, 1, none⟩) (Nat.le_refl _) (Nat.lt_succ_self _) _
  exact (ho.writes hw (.inr (by omega))).wide (by omega) hw.size (Nat.le_refl _)
set_option maxHeartbeats 4000000 in
theorem specPv_any (n : Nat) (R : Nat → Vr) (a : Option Addr) (x o : Int) (g : Bool) (v : Int) (w : World) (hn : n ≤ 9223372036854775807) (h : VersAt w a n R) :
    Calls Try.prog 14 #[.slice a n n, .agg #[.int .i64 x, .int .i64 o], .bool g, .int .i64 v] w (CRes (pvC n R x o g v) (pvN n R x o g v) (pvS n R o g v) w) := by
  have HA : Hid (VersAt w a n R) := h
  have HV : Hid ((pvC n R x o g v = if avC n R x o = 0 then (if inB v 0 9999 = true then (if (g && v != 0) = true then 1 else (if mwC n R x o = 0 then (if fop n R = true then 0 else (if n = 12 then 2 else 0)) else mwC n R x o)) else 3) else avC n R x o) ∧ (pvN n R x o g v = if pvC n R x o g v = 0 then (if fop n R = true then n else n + 1) else 0) ∧ pvS n R o g v = if fop n R = true then pxA R ⟨o, 0, g, v⟩ else pxC R ⟨o, 0, g, v⟩) := ⟨rfl, rfl, rfl⟩
  clear h
  generalize pvC n R x o g v = C at *
  generalize pvN n R x o g v = M at *
  generalize pvS n R o g v = S at *
  have hbn : ∀ o1 o2, Below w.heap.size w ((w.alloc o1).alloc o2) := fun o1 o2 => (below_new w o1).alloc (by simp) _
  go_enter Try.func14, Try.ntmps14
  go_wp2_with fail
  refine (l5Asked_any n R a n x o _ hn (HA.out.below (hbn _ _))).mono ?_
  rintro e w1 ⟨rfl, hb1⟩
  have BV : Box2 w1 w.heap.size (.int .i64 x) (.int .i64 o) := ((Box2.new w (.int .i64 x) (.int .i64 o) 32).alloc _).below hb1
  have BX : BoxR w1 (w.alloc (.cells #[.int .i64 x, .int .i64 o] 32)).heap.size (.int .i64 0) (.slice none 0 0) := (BoxR.new (w.alloc (.cells #[.int .i64 x, .int .i64 o] 32)) (.int .i64 0) (.slice none 0 0) 28).below hb1
  rw [World.size_alloc] at BX
  have HB1 : Hid (Below w.heap.size w w1) := below_then (hbn _ _) hb1
  have hs1 : w.heap.size + 1 < w1.heap.size := by have := hb1.size; simp at this; omega
  clear hb1 hbn
  obtain ⟨t0, t1⟩ := BV
  have BV : Box2 w1 w.heap.size (.int .i64 x) (.int .i64 o) := ⟨t0, t1⟩
  by_cases hc : avC n R x o = 0
  · rw [hc]
    have HA1 : Hid (VersAt w1 a n R) := HA.out.below HB1.out
    by_cases hv : inB v 0 9999 = true
    · by_cases hg : (g && v != 0) = true
      · have hg2 : g = true ∧ ¬ v = 0 := by simpa using hg
        obtain ⟨rfl, hv0⟩ := hg2
        have hv1 : (v != 0) = true := by simp [hv0]
        have hC : C = 1 := by rw [HV.out.1, if_pos hc, if_pos hv, if_pos hg]
        have hM : M = 0 := by rw [HV.out.2.1, if_neg (by omega)]
        subst hC hM
        clear HV
        go_wp2_with fail
        refine (l1Value_any _ _).mono ?_
        rintro e wt ⟨rfl, hwt⟩
        have hwt' := hwt.symm
        clear hwt
        subst hwt'
        rw [hv]
        obtain ⟨q0, q1, qf⟩ := BX
        have HE : Hid (∀ u0 u1 : Value, _) := cres_end1 (m := 0) (a := none) (S := S) HB1.out (Nat.lt_succ_self _) own4_none
        go_wp2_with fail
        refine bodyPost_ret (v := .agg #[.int .i64 1, .slice none 0 0]) (by simp [results, Try.results14, go_sem, *]) rfl ⟨none, 0, rfl, (HE.out _ _).1, (HE.out _ _).2⟩
      · have hg' : (g && v != 0) = false := by simpa using hg
        have HM : Hid ((C = (if mwC n R x o = 0 then (if fop n R = true then 0 else (if n = 12 then 2 else 0)) else mwC n R x o)) ∧ (M = if C = 0 then (if fop n R = true then n else n + 1) else 0) ∧ S = if fop n R = true then pxA R ⟨o, 0, g, v⟩ else pxC R ⟨o, 0, g, v⟩) := ⟨by rw [HV.out.1, if_pos hc, if_pos hv, if_neg hg], HV.out.2.1, HV.out.2.2⟩
        have hgv : g = false ∨ (g = true ∧ v = 0) := by cases g <;> simp_all
        clear HV hg hg'
        rcases hgv with rfl | ⟨rfl, rfl⟩
        · have hq9 : True := trivial
          go_wp2_with fail
          refine (l1Value_any _ _).mono ?_
          rintro e wt ⟨rfl, hwt⟩
          have hwt' := hwt.symm
          clear hwt
          subst hwt'
          rw [hv]
          go_wp2_with fail
          refine (specMw_any n R a n x o _ hn HA1.out).mono ?_
          rintro e w2 ⟨rfl, hb2⟩
          have BX2 := BX.below hb2
          obtain ⟨p0, p1⟩ := BV.below hb2
          have HB2 : Hid (Below w.heap.size w w2) := below_then HB1.out hb2
          have HA2 : Hid (VersAt w2 a n R) := HA1.out.below hb2
          have hs2 : w.heap.size + 1 < w2.heap.size := Nat.lt_of_lt_of_le hs1 hb2.size
          clear hb2 BX BV t0 t1 HA HA1
          obtain ⟨hCm, hMm, hSm⟩ := HM.out
          clear HM
          by_cases hm : mwC n R x o = 0
          · obtain ⟨ho, hn12, hA, hB⟩ := mw_good hc hm
            rw [if_pos hm] at hCm
            rw [hm]
            cases hf : fop n R
            · have hw := hB hf
              rw [hf, if_neg (by simp)] at hCm
              rw [hf, if_neg (by simp)] at hSm
              by_cases h12 : n = 12
              · rw [if_pos h12] at hCm
                rw [if_neg (by omega)] at hMm
                subst hCm hMm
                have H12 : Hid (n = 12) := h12
                clear hA hB hSm hc hm h12
                go_wp2_with fail
                refine (l5Push_many n R a n o false v w2 H12.out hw HA2.out).mono ?_
                rintro e w3 ⟨rfl, hb3⟩
                have BX3 := BX2.below hb3
                have HB3 : Hid (Below w.heap.size w w3) := below_then HB2.out hb3
                clear hb3 BX2 hn12
                obtain ⟨q0, q1, qf⟩ := BX3
                have HE : Hid (∀ u0 u1 : Value, _) := cres_end1 (m := 0) (a := none) (S := S) HB3.out (Nat.lt_succ_self _) own4_none
                go_wp2_with fail
                refine bodyPost_ret (v := .agg #[.int .i64 2, .slice none 0 0]) (by simp [results, Try.results14, go_sem, *]) rfl ⟨none, 0, rfl, (HE.out _ _).1, (HE.out _ _).2⟩
              · rw [if_neg h12] at hCm
                rw [if_pos hCm, hf, if_neg (by simp)] at hMm
                subst hCm hMm hSm
                clear hA hB hc hm
                go_wp2_with fail
                refine (l5Push_new n R a n o false v w2 (by omega) hw HA2.out).mono ?_
                rintro e w3 ⟨ra, rc, rfl, hb3, ho3⟩
                obtain ⟨q0, q1, qf⟩ := BX2.below hb3
                have HE : Hid (∀ u0 u1 : Value, _) := cres_end1 (below_then HB2.out hb3) (by omega) ho3
                clear hb3 ho3
                go_wp2_with fail
                refine bodyPost_ret (v := .agg #[.int .i64 0, .slice ra (n + 1) rc]) (by simp [results, Try.results14, go_sem, *]) rfl ⟨ra, rc, rfl, (HE.out _ _).1, (HE.out _ _).2⟩
            · obtain ⟨hp, hw⟩ := hA hf
              rw [hf, if_pos rfl] at hCm
              rw [hf, if_pos rfl] at hSm
              rw [if_pos hCm, hf, if_pos rfl] at hMm
              have hMm2 := hMm.symm
              clear hMm
              subst hCm hMm2 hSm
              clear hA hB hc hm
              go_wp2_with fail
              refine (l5Push_own n R a n o false v w2 hn12 hp hw HA2.out).mono ?_
              rintro e w3 ⟨ra, rc, rfl, hb3, ho3⟩
              obtain ⟨q0, q1, qf⟩ := BX2.below hb3
              have HE : Hid (∀ u0 u1 : Value, _) := cres_end1 (below_then HB2.out hb3) (by omega) ho3
              clear hb3 ho3
              go_wp2_with fail
              refine bodyPost_ret (v := .agg #[.int .i64 0, .slice ra n rc]) (by simp [results, Try.results14, go_sem, *]) rfl ⟨ra, rc, rfl, (HE.out _ _).1, (HE.out _ _).2⟩
          · rw [if_neg hm] at hCm
            rw [if_neg (by omega)] at hMm
            subst hMm
            rw [← hCm]
            rw [← hCm] at hm
            clear hCm hSm
            have hc1 : (C != 0) = true := by simp [hm]
            obtain ⟨q0, q1, qf⟩ := BX2
            have HE : Hid (∀ u0 u1 : Value, _) := cres_end1 (m := 0) (a := none) (S := S) HB2.out (Nat.lt_succ_self _) own4_none
            go_wp2_with fail
            refine bodyPost_ret (v := .agg #[.int .i64 C, .slice none 0 0]) (by simp [results, Try.results14, go_sem, *]) rfl ⟨none, 0, rfl, (HE.out _ _).1, (HE.out _ _).2⟩
        · have hq9 : True := trivial
          go_wp2_with fail
          refine (l1Value_any _ _).mono ?_
          rintro e wt ⟨rfl, hwt⟩
          have hwt' := hwt.symm
          clear hwt
          subst hwt'
          rw [hv]
          go_wp2_with fail
          refine (specMw_any n R a n x o _ hn HA1.out).mono ?_
          rintro e w2 ⟨rfl, hb2⟩
          have BX2 := BX.below hb2
          obtain ⟨p0, p1⟩ := BV.below hb2
          have HB2 : Hid (Below w.heap.size w w2) := below_then HB1.out hb2
          have HA2 : Hid (VersAt w2 a n R) := HA1.out.below hb2
          have hs2 : w.heap.size + 1 < w2.heap.size := Nat.lt_of_lt_of_le hs1 hb2.size
          clear hb2 BX BV t0 t1 HA HA1
          obtain ⟨hCm, hMm, hSm⟩ := HM.out
          clear HM
          by_cases hm : mwC n R x o = 0
          · obtain ⟨ho, hn12, hA, hB⟩ := mw_good hc hm
            rw [if_pos hm] at hCm
            rw [hm]
            cases hf : fop n R
            · have hw := hB hf
              rw [hf, if_neg (by simp)] at hCm
              rw [hf, if_neg (by simp)] at hSm
              by_cases h12 : n = 12
              · rw [if_pos h12] at hCm
                rw [if_neg (by omega)] at hMm
                subst hCm hMm
                have H12 : Hid (n = 12) := h12
                clear hA hB hSm hc hm h12
                go_wp2_with fail
                refine (l5Push_many n R a n o true 0 w2 H12.out hw HA2.out).mono ?_
                rintro e w3 ⟨rfl, hb3⟩
                have BX3 := BX2.below hb3
                have HB3 : Hid (Below w.heap.size w w3) := below_then HB2.out hb3
                clear hb3 BX2 hn12
                obtain ⟨q0, q1, qf⟩ := BX3
                have HE : Hid (∀ u0 u1 : Value, _) := cres_end1 (m := 0) (a := none) (S := S) HB3.out (Nat.lt_succ_self _) own4_none
                go_wp2_with fail
                refine bodyPost_ret (v := .agg #[.int .i64 2, .slice none 0 0]) (by simp [results, Try.results14, go_sem, *]) rfl ⟨none, 0, rfl, (HE.out _ _).1, (HE.out _ _).2⟩
              · rw [if_neg h12] at hCm
                rw [if_pos hCm, hf, if_neg (by simp)] at hMm
                subst hCm hMm hSm
                clear hA hB hc hm
                go_wp2_with fail
                refine (l5Push_new n R a n o true 0 w2 (by omega) hw HA2.out).mono ?_
                rintro e w3 ⟨ra, rc, rfl, hb3, ho3⟩
                obtain ⟨q0, q1, qf⟩ := BX2.below hb3
                have HE : Hid (∀ u0 u1 : Value, _) := cres_end1 (below_then HB2.out hb3) (by omega) ho3
                clear hb3 ho3
                go_wp2_with fail
                refine bodyPost_ret (v := .agg #[.int .i64 0, .slice ra (n + 1) rc]) (by simp [results, Try.results14, go_sem, *]) rfl ⟨ra, rc, rfl, (HE.out _ _).1, (HE.out _ _).2⟩
            · obtain ⟨hp, hw⟩ := hA hf
              rw [hf, if_pos rfl] at hCm
              rw [hf, if_pos rfl] at hSm
              rw [if_pos hCm, hf, if_pos rfl] at hMm
              have hMm2 := hMm.symm
              clear hMm
              subst hCm hMm2 hSm
              clear hA hB hc hm
              go_wp2_with fail
              refine (l5Push_own n R a n o true 0 w2 hn12 hp hw HA2.out).mono ?_
              rintro e w3 ⟨ra, rc, rfl, hb3, ho3⟩
              obtain ⟨q0, q1, qf⟩ := BX2.below hb3
              have HE : Hid (∀ u0 u1 : Value, _) := cres_end1 (below_then HB2.out hb3) (by omega) ho3
              clear hb3 ho3
              go_wp2_with fail
              refine bodyPost_ret (v := .agg #[.int .i64 0, .slice ra n rc]) (by simp [results, Try.results14, go_sem, *]) rfl ⟨ra, rc, rfl, (HE.out _ _).1, (HE.out _ _).2⟩
          · rw [if_neg hm] at hCm
            rw [if_neg (by omega)] at hMm
            subst hMm
            rw [← hCm]
            rw [← hCm] at hm
            clear hCm hSm
            have hc1 : (C != 0) = true := by simp [hm]
            obtain ⟨q0, q1, qf⟩ := BX2
            have HE : Hid (∀ u0 u1 : Value, _) := cres_end1 (m := 0) (a := none) (S := S) HB2.out (Nat.lt_succ_self _) own4_none
            go_wp2_with fail
            refine bodyPost_ret (v := .agg #[.int .i64 C, .slice none 0 0]) (by simp [results, Try.results14, go_sem, *]) rfl ⟨none, 0, rfl, (HE.out _ _).1, (HE.out _ _).2⟩
    · have hv' : inB v 0 9999 = false := by simpa using hv
      have hC : C = 3 := by rw [HV.out.1, if_pos hc, if_neg hv]
      have hM : M = 0 := by rw [HV.out.2.1, if_neg (by omega)]
      subst hC hM
      clear HV
      go_wp2_with fail
      refine (l1Value_any _ _).mono ?_
      rintro e wt ⟨rfl, hwt⟩
      have hwt' := hwt.symm
      clear hwt
      subst hwt'
      rw [hv']
      obtain ⟨q0, q1, qf⟩ := BX
      have HE : Hid (∀ u0 u1 : Value, _) := cres_end1 (m := 0) (a := none) (S := S) HB1.out (Nat.lt_succ_self _) own4_none
      go_wp2_with fail
      refine bodyPost_ret (v := .agg #[.int .i64 3, .slice none 0 0]) (by simp [results, Try.results14, go_sem, *]) rfl ⟨none, 0, rfl, (HE.out _ _).1, (HE.out _ _).2⟩
  · have hC : C = avC n R x o := by rw [HV.out.1, if_neg hc]
    have hM : M = 0 := by rw [HV.out.2.1, if_neg (by omega)]
    subst hM
    rw [← hC]
    rw [← hC] at hc
    clear HV hC
    have hc1 : (C != 0) = true := by simp [hc]
    obtain ⟨q0, q1, qf⟩ := BX
    have HE : Hid (∀ u0 u1 : Value, _) := cres_end1 (m := 0) (a := none) (S := S) HB1.out (Nat.lt_succ_self _) own4_none
    go_wp2_with fail
    refine bodyPost_ret (v := .agg #[.int .i64 C, .slice none 0 0]) (by simp [results, Try.results14, go_sem, *]) rfl ⟨none, 0, rfl, (HE.out _ _).1, (HE.out _ _).2⟩
end Go.Proofs.Ytiabblmjgfkijaa
