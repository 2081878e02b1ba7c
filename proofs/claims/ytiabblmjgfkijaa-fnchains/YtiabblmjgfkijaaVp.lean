/- impl.CommitChain. -/
import Derived.Test.YtiabblmjgfkijaaVo
import Derived.Deep.DeepCutAuto
namespace Go.Proofs.Ytiabblmjgfkijaa
open Go.RowKit Go.Deep
set_option linter.unusedVariables false
set_option maxRecDepth 20000

theorem co_older {n : Nat} {R : Nat → Vr} {y : Int} (hc : chF n R = 0) (hy : inB y 1 1000000 = true) (h1 : 1 < n) : older (R 1) ⟨(R 0).t, y, (R 0).g, (R 0).v⟩ = !coG n R y := by
  have hv := ((chF_good hc).2 1 h1).2
  have ha : (R 1).a ≠ 0 := by
    intro e
    simp [vF, older, e] at hv
  rw [inB_iff] at hy
  by_cases h : y ≤ (R 1).a
  · have h2 : ¬ (R 1).a < y := by omega
    have hy0 : ¬ y = 0 := by omega
    simp [older, coG, ha, h1, h, h2, hy0]
  · have h2 : (R 1).a < y := by omega
    simp [older, coG, ha, h1, h, h2]
/-- What is joined: the first version, committed, and the rest. -/
theorem co_join (R : Nat → Vr) (y : Int) (n : Nat) (hp : 0 < n) : (vL (fun _ => (⟨(R 0).t, y, (R 0).g, (R 0).v⟩ : Vr)) 1 ++ vL (fun i => R (i + 1)) (n - 1)).length = n ∧ ∀ i, i < n → (vL (fun _ => (⟨(R 0).t, y, (R 0).g, (R 0).v⟩ : Vr)) 1 ++ vL (fun i => R (i + 1)) (n - 1)).getD i zV = coS R y i := by
  refine ⟨by rw [List.length_append, vL_len, vL_len]; omega, fun i hi => ?_⟩
  rw [List.getD_eq_getElem?_getD]
  by_cases e : i = 0
  · subst e
    rw [List.getElem?_append_left (by rw [vL_len]; omega), vL_get (by omega)]
    rfl
  · rw [List.getElem?_append_right (by rw [vL_len]; omega), vL_len, vL_get (by omega)]
    show R (i - 1 + 1) = coS R y i
    rw [show i - 1 + 1 = i by omega]
    exact (if_neg e).symm
theorem row4_one {w : World} {b : Nat} {r : Vr} (h : C4 w b 0 r) (hf : ∀ i, w.frozen? ⟨b, i, none⟩ = false) : Row4 w b 0 1 (fun _ => r) := ⟨fun i hi => by
  obtain rfl : i = 0 := by omega
  exact h, hf⟩
theorem co_joined (R : Nat → Vr) (y : Int) (n : Nat) (hp : 0 < n) (hn : n ≤ 12) (W : World) (ra : Option Addr) (rc : Nat) (hv : VersAt W ra (n - 1) (fun i => R (i + 1))) :
    Calls Try.prog 26 #[.slice (some ⟨W.heap.size + 1, 0, none⟩) 2 2] ((W.alloc (.cells #[.int .i64 (R 0).t, .int .i64 y, .bool (R 0).g, .int .i64 (R 0).v] 51)).alloc (.cells #[.slice (some ⟨W.heap.size, 0, none⟩) 1 1, .slice ra (n - 1) rc] 24))
      (fun e w' => ∃ ra' rc', e = .returned (.slice ra' n rc') ∧ Below W.heap.size W w' ∧ Own4 w' (W.heap.size + 2) w'.heap.size ra' n (coS R y)) := by
  have hbn : ∀ o1 o2, Below W.heap.size W ((W.alloc o1).alloc o2) := fun o1 o2 => (below_new W o1).alloc (by simp) _
  have hj := joined_any 2 (fun i => if i = 0 then some ⟨W.heap.size, 0, none⟩ else ra) (fun i => if i = 0 then 1 else n - 1) (fun i => if i = 0 then 1 else rc) (fun i j => if i = 0 then ⟨(R 0).t, y, (R 0).g, (R 0).v⟩ else R (j + 1)) (W.heap.size + 1) 0 2
    ((W.alloc (.cells #[.int .i64 (R 0).t, .int .i64 y, .bool (R 0).g, .int .i64 (R 0).v] 51)).alloc (.cells #[.slice (some ⟨W.heap.size, 0, none⟩) 1 1, .slice ra (n - 1) rc] 24))
    (fun i hi => by show (if i = 0 then 1 else n - 1) ≤ 100; split <;> omega) (by simp) (fun i hi => by
      have h2 : i = 0 ∨ i = 1 := by omega
      rcases h2 with rfl | rfl
      · exact ⟨by simp [go_sem], .inr ⟨W.heap.size, 0, rfl, by simp; omega, fun i hi => by
          obtain rfl : i = 0 := by simp at hi; omega
          simp [C4, go_sem]⟩⟩
      · exact ⟨by simp [go_sem], hv.below (hbn _ _)⟩) (by omega)
  have e : jv (fun i => if i = 0 then 1 else n - 1) (fun i j => if i = 0 then ⟨(R 0).t, y, (R 0).g, (R 0).v⟩ else R (j + 1)) 2 = vL (fun _ => (⟨(R 0).t, y, (R 0).g, (R 0).v⟩ : Vr)) 1 ++ vL (fun i => R (i + 1)) (n - 1) := by simp [jv]
  rw [e, (co_join R y n hp).1] at hj
  refine hj.mono ?_
  rintro e w' ⟨ra', rc', rfl, hb, ho⟩
  have es : ((W.alloc (.cells #[.int .i64 (R 0).t, .int .i64 y, .bool (R 0).g, .int .i64 (R 0).v] 51)).alloc (.cells #[.slice (some ⟨W.heap.size, 0, none⟩) 1 1, .slice ra (n - 1) rc] 24)).heap.size = W.heap.size + 2 := by simp
  rw [es] at ho
  exact ⟨ra', rc', rfl, below_then (hbn _ _) hb, ho.congr (co_join R y n hp).2⟩
set_option maxHeartbeats 4000000 in
theorem implCo_any (n : Nat) (R : Nat → Vr) (a : Option Addr) (x y : Int) (w : World) (hn : n ≤ 9223372036854775807) (h : VersAt w a n R) :
    Calls Try.prog 16 #[.slice a n n, .int .i64 x, .int .i64 y] w (CRes (coC n R x y) (coN n R x y) (coS R y) w) := by
  have HA : Hid (VersAt w a n R) := h
  have HV : Hid ((coC n R x y = if chF n R = 0 then (if (inB x 1 999 && inB y 1 1000000) = true then (if fob n R x = true then (if coG n R y = true then 1 else 0) else 4) else 3) else chF n R) ∧ (coN n R x y = if coC n R x y = 0 then n else 0)) := ⟨rfl, rfl⟩
  clear h
  generalize coC n R x y = C at *
  generalize coN n R x y = M at *
  go_enter Try.func16, Try.ntmps16
  go_wp2_with fail
  refine (implChF_any n R a n _ hn (HA.out.below (below_new _ _))).mono ?_
  rintro e w1 ⟨rfl, hb1⟩
  have BX := (BoxR.new w (.int .i64 0) (.slice none 0 0) 28).below hb1
  have HB1 : Hid (Below w.heap.size w w1) := below_then (below_new _ _) hb1
  have hs1 : w.heap.size < w1.heap.size := by have := hb1.size; simp at this; omega
  clear hb1
  have HEB : Hid (∀ u0 u1 : Value, _) := cres_end (m := 0) (a := none) (S := coS R y) HB1.out (Nat.lt_succ_self _) own4_none
  by_cases hc : chF n R = 0
  · rw [hc]
    have HA1 : Hid (VersAt w1 a n R) := HA.out.below HB1.out
    have hn12 := (chF_good hc).1
    by_cases hx : inB x 1 999 = true
    · by_cases hy : inB y 1 1000000 = true
      · have hxy : (inB x 1 999 && inB y 1 1000000) = true := by simp [hx, hy]
        go_wp2_with fail
        refine (isTxn_any _ _).mono ?_
        rintro e wt ⟨rfl, hwt⟩
        have hwt' := hwt.symm
        clear hwt
        subst hwt'
        rw [hx]
        go_wp2_with fail
        refine (within_any _ _ _ _).mono ?_
        rintro e wt ⟨rfl, hwt⟩
        have hwt' := hwt.symm
        clear hwt
        subst hwt'
        rw [hy]
        go_wp2_with fail
        refine (firstIsOpenBy_any _ R _ _ x _ HA1.out).mono ?_
        rintro e w2 ⟨rfl, hb2⟩
        have BX2 := BX.below hb2
        have HB2 : Hid (Below w.heap.size w w2) := below_then HB1.out hb2
        have HA2 : Hid (VersAt w2 a n R) := HA1.out.below hb2
        have hs2 : w.heap.size < w2.heap.size := Nat.lt_of_lt_of_le hs1 hb2.size
        have HEB2 : Hid (∀ u0 u1 : Value, _) := cres_end (m := 0) (a := none) (S := coS R y) HB2.out (Nat.lt_succ_self _) own4_none
        clear HEB BX hb2 HA1 HA
        by_cases hf : fob n R x = true
        · have ⟨hp, ht, ha0⟩ : 0 < n ∧ (R 0).t = x ∧ (R 0).a = 0 := by simpa [fob] using hf
          have hf0 := hf
          rw [hf]
          obtain ⟨b, off, rfl, hl, x0, x1, x2, x3⟩ := HA2.out.first hp
          have hp' : (1 : Int) ≤ (n : Int) := by omega
          have hpp : (0 : Int) < (n : Int) := by omega
          have HF : Hid (C4 w2 b off (R 0)) := ⟨x0, x1, x2, x3⟩
          have y0 := fun ob : Obj => cell_alloc x0 ob
          have y1 := fun ob : Obj => cell_alloc x1 ob
          have y2 := fun ob : Obj => cell_alloc x2 ob
          have y3 := fun ob : Obj => cell_alloc x3 ob
          clear ht ha0 hf
          by_cases h1 : n = 1
          · subst h1
            have hC : C = 0 := by
              rw [HV.out.1, if_pos hc, if_pos hxy, if_pos hf0, if_neg (by simp [coG])]
            have hM : 1 = M := by rw [HV.out.2, if_pos hC]
            subst hC hM
            clear HV
            have HVR : Hid (VersAt w2 (some ⟨b, off, none⟩) (1 - 1) (fun i => R (i + 1))) := .inl rfl
            go_upto_region 8 with fail
            go_cut [8, 9] (fun s8 s9 wx => s8 = .pointer (some ⟨w2.heap.size, 0, none⟩) ∧ s9 = .slice (some ⟨b, off, none⟩) 0 0 ∧ Hid (Row4 wx w2.heap.size 0 1 (fun _ => R 0)) ∧ Hid (Below w2.heap.size w2 wx) ∧ Hid (w2.heap.size < wx.heap.size))
            case first =>
              generalize R 0 = r0 at *
              go_region_law (first | fail)
              all_goals
                go_wp2_with fail
                go_meet
                exact ⟨rfl, rfl, row4_one (by simp [C4, go_sem]) (fun i => by simp [go_sem]), by repeat (first | exact Below.refl _ _ | apply Below.drew | refine Below.alloc ?_ (by first | omega | (simp <;> omega)) _), by simp [Hid]⟩
            case rest =>
              obtain ⟨rfl, rfl, HR, HBc, hsc⟩ := hcut
              have HR2 := row4_at (y := y) (by omega) HR.out
              have HD0 : C4 (wc.setCell ⟨w2.heap.size, 0 + 1, none⟩ (.int .i64 y)) w2.heap.size 0 ⟨(R 0).t, y, (R 0).g, (R 0).v⟩ := by have := HR2.1 0 (by omega); rwa [Nat.zero_mul] at this
              rw [Nat.zero_add] at HD0
              have HBD0 : Below w2.heap.size w2 (wc.setCell ⟨w2.heap.size, 1, none⟩ (.int .i64 y)) := HBc.out.setCell (p := ⟨w2.heap.size, 1, none⟩) (Nat.le_refl _) _
              obtain ⟨f0, f1, f2, f3⟩ := HR.out.1 0 (by omega)
              simp only [Nat.zero_mul, Nat.zero_add] at f0 f1 f2 f3
              have ff := HR.out.2
              clear HR HR2 HBc x0 x1 x2 x3 y0 y1 y2 y3 HF
              go_wp2_with fail
              have hBD := HBD0
              have hD := HD0
              clear HBD0 HD0 f0 f1 f2 f3 ff
              generalize wc.setCell ⟨w2.heap.size, 1, none⟩ (.int .i64 y) = wd at *
              refine wp_region_any (by kernel_rfl) ?_
              change wpAny _ _ _ _ _ _ _ (World.drew _)
              refine wpAny_take (i := 0) (v := .slice (some ⟨b, off, none⟩) 0 0) rfl (by kernel_rfl) (by kernel_rfl) (by kernel_rfl) (fun _ _ _ h => h) (Or.inl ⟨by kernel_rfl, by intro w; go_simp⟩) ?_
              refine wpAny_take (i := 1) (v := .int .i64 0) rfl (by kernel_rfl) (by kernel_rfl) (by kernel_rfl) (fun _ _ _ h => h) (Or.inl ⟨by kernel_rfl, by intro w; go_simp⟩) ?_
              refine wpAny_take (i := 2) (v := .bool false) rfl (by kernel_rfl) (by kernel_rfl) (by kernel_rfl) (fun _ _ _ h => h) (Or.inl ⟨by kernel_rfl, by intro w; go_simp⟩) ?_
              refine wpAny_take (i := 3) (v := .bool false) rfl (by kernel_rfl) (by kernel_rfl) (by kernel_rfl) (fun _ _ _ h => h) (Or.inl ⟨by kernel_rfl, by intro w; go_simp⟩) ?_
              refine any_skip 4 (some 41) (by kernel_rfl) (by kernel_rfl) (by kernel_rfl) (by kernel_rfl) (by kernel_rfl) (fun _ _ _ h => h) ?_
              refine any_skip 5 (some 42) (by kernel_rfl) (by kernel_rfl) (by kernel_rfl) (by kernel_rfl) (by kernel_rfl) (fun _ _ _ h => h) ?_
              refine any_skip 6 (some 43) (by kernel_rfl) (by kernel_rfl) (by kernel_rfl) (by kernel_rfl) (by kernel_rfl) (fun _ _ _ h => h) ?_
              refine any_skip 7 (some 44) (by kernel_rfl) (by kernel_rfl) (by kernel_rfl) (by kernel_rfl) (by kernel_rfl) (fun _ _ _ h => h) ?_
              refine any_skip 8 (some 45) (by kernel_rfl) (by kernel_rfl) (by kernel_rfl) (by kernel_rfl) (by kernel_rfl) (fun _ _ _ h => h) ?_
              refine any_skip 9 (some 46) (by kernel_rfl) (by kernel_rfl) (by kernel_rfl) (by kernel_rfl) (by kernel_rfl) (fun _ _ _ h => h) ?_
              refine wpAny_take (i := 10) (v := .bool false) rfl (by kernel_rfl) (by kernel_rfl) (by kernel_rfl) (fun _ _ _ h => h) (Or.inl ⟨by kernel_rfl, by intro w; go_simp⟩) ?_
              refine wpAny_done (by kernel_rfl) ?_ _
              go_simp
              have hD2 : Below w2.heap.size w2 wd.drew := hBD.drew
              obtain ⟨d0, d1, d2, d3⟩ := hD
              simp only [Nat.zero_add] at d1 d2 d3
              have BX4 := BX2.below hD2
              have HB4 := below_then HB2.out hD2
              have HV4 := HVR.out.below hD2
              have hs4 : w.heap.size < wd.drew.heap.size := Nat.lt_of_lt_of_le hs2 hD2.size
              go_wp2_with fail
              refine (co_joined R y 1 (by omega) (by omega) wd.drew (some ⟨b, off, none⟩) 0 HV4).mono ?_
              rintro e w5 ⟨ra, rcc, rfl, hb5, ho5⟩
              obtain ⟨q0, q1, qf⟩ := BX4.below hb5
              have HE : Hid (∀ u0 u1 : Value, _) := cres_end (below_then HB4 hb5) (by have hq := hs4; omega) ho5
              clear hb5 ho5
              go_wp2_with fail
              refine bodyPost_ret (v := .agg #[.int .i64 0, .slice ra 1 rcc]) (by simp [results, Try.results16, go_sem, *]) rfl ⟨ra, rcc, rfl, (HE.out _ _).1, (HE.out _ _).2⟩
          · have h2 : 1 < n := by omega
            have h3 : ¬ ((n : Int) = 1) := by omega
            have h4 : ¬ ((1 : Int) = (n : Int)) := by omega
            have h5 : (1 : Int) < (n : Int) := by omega
            have HVR : Hid (VersAt w2 (some ⟨b, off + 4, none⟩) (n - 1) (fun i => R (i + 1))) := HA2.out.rest
            have HO := co_older hc hy h2
            go_upto_region 8 with fail
            go_cut [8, 9] (fun s8 s9 wx => s8 = .pointer (some ⟨w2.heap.size, 0, none⟩) ∧ s9 = .slice (some ⟨b, off + 4, none⟩) (n - 1) (n - 1) ∧ Hid (Row4 wx w2.heap.size 0 1 (fun _ => R 0)) ∧ Hid (Below w2.heap.size w2 wx) ∧ Hid (w2.heap.size < wx.heap.size))
            case first =>
              generalize R 0 = r0 at *
              go_region_law (first | fail)
              all_goals
                go_wp2_with fail
                go_meet
                exact ⟨rfl, rfl, row4_one (by simp [C4, go_sem]) (fun i => by simp [go_sem]), by repeat (first | exact Below.refl _ _ | apply Below.drew | refine Below.alloc ?_ (by first | omega | (simp <;> omega)) _), by simp [Hid]⟩
            case rest =>
              obtain ⟨rfl, rfl, HR, HBc, hsc⟩ := hcut
              have HR2 := row4_at (y := y) (by omega) HR.out
              have HD0 : C4 (wc.setCell ⟨w2.heap.size, 0 + 1, none⟩ (.int .i64 y)) w2.heap.size 0 ⟨(R 0).t, y, (R 0).g, (R 0).v⟩ := by have := HR2.1 0 (by omega); rwa [Nat.zero_mul] at this
              rw [Nat.zero_add] at HD0
              have HBD0 : Below w2.heap.size w2 (wc.setCell ⟨w2.heap.size, 1, none⟩ (.int .i64 y)) := HBc.out.setCell (p := ⟨w2.heap.size, 1, none⟩) (Nat.le_refl _) _
              obtain ⟨f0, f1, f2, f3⟩ := HR.out.1 0 (by omega)
              simp only [Nat.zero_mul, Nat.zero_add] at f0 f1 f2 f3
              have ff := HR.out.2
              clear HR HR2 HBc x0 x1 x2 x3 y0 y1 y2 y3 HF
              go_wp2_with fail
              have hBD := HBD0
              have hD := HD0
              clear HBD0 HD0 f0 f1 f2 f3 ff
              generalize wc.setCell ⟨w2.heap.size, 1, none⟩ (.int .i64 y) = wd at *
              obtain ⟨d0, d1, d2, d3⟩ := hD
              simp only [Nat.zero_add] at d0 d1 d2 d3
              obtain ⟨z0, z1, z2, z3⟩ : C4 wd b (off + 4) (R 1) := by
                rcases HVR.out.below hBD with h | ⟨b', off', e, hl, hc⟩
                · omega
                · simp only [Option.some.injEq, Addr.mk.injEq] at e
                  obtain ⟨rfl, rfl, -⟩ := e
                  have := hc 0 (by omega)
                  rwa [Nat.zero_mul, Nat.add_zero] at this
              have HXW : Hid (∀ wz, Below wd.heap.size wd wz → BoxR wz w.heap.size (.int .i64 0) (.slice none 0 0) ∧ Below w.heap.size w wz ∧ VersAt wz (some ⟨b, off + 4, none⟩) (n - 1) (fun i => R (i + 1)) ∧ w.heap.size < wz.heap.size) := fun wz hz => by
                have h9 := hBD.trans (hz.mono hBD.size)
                exact ⟨BX2.below h9, below_then HB2.out h9, HVR.out.below h9, Nat.lt_of_lt_of_le hs2 h9.size⟩
              clear HEB2 BX2 HB2 HVR hBD HA2 HB1
              by_cases hq : coG n R y = true
              · have hC : C = 1 := by rw [HV.out.1, if_pos hc, if_pos hxy, if_pos hf0, if_pos hq]
                have hM : M = 0 := by rw [HV.out.2, if_neg (by omega)]
                subst hC hM
                have HO2 : older (R 1) ⟨(R 0).t, y, (R 0).g, (R 0).v⟩ = false := by rw [HO, hq]; rfl
                clear HV HO hq hf0 hc
                have hn1 : (0 : Int) < ((n - 1 : Nat) : Int) := by omega
                have hn2 : 0 < n - 1 := by omega
                have hb0 : Below wd.heap.size wd wd.drew := (Below.refl _ _).drew
                go_region_held3 (fun w' => Below wd.heap.size wd w' ∧ w'.cell? ⟨b, off + 4, none⟩ = some (.int .i64 (R 1).t) ∧ w'.cell? ⟨b, off + 4 + 1, none⟩ = some (.int .i64 (R 1).a) ∧ w'.cell? ⟨b, off + 4 + 2, none⟩ = some (.bool (R 1).g) ∧ w'.cell? ⟨b, off + 4 + 3, none⟩ = some (.int .i64 (R 1).v) ∧ w'.cell? ⟨w2.heap.size, 0, none⟩ = some (.int .i64 (R 0).t) ∧ w'.cell? ⟨w2.heap.size, 1, none⟩ = some (.int .i64 y) ∧ w'.cell? ⟨w2.heap.size, 2, none⟩ = some (.bool (R 0).g) ∧ w'.cell? ⟨w2.heap.size, 3, none⟩ = some (.int .i64 (R 0).v)) (go_keep)
                  (first | (go_at_call 33; refine (isOlder_any (R 1) ⟨(R 0).t, y, (R 0).g, (R 0).v⟩ _).mono ?_; rintro e wq ⟨rfl, hbq⟩; rw [HO2]; have hU := below_then (w := wd) (by simp [*]) hbq; have hU0 := cell_below (B := b) (o := off + 4) (v := .int .i64 (R 1).t) (by simp [*]) hbq; have hU1 := cell_below (B := b) (o := off + 4 + 1) (v := .int .i64 (R 1).a) (by simp [*]) hbq; have hU2 := cell_below (B := b) (o := off + 4 + 2) (v := .bool (R 1).g) (by simp [*]) hbq; have hU3 := cell_below (B := b) (o := off + 4 + 3) (v := .int .i64 (R 1).v) (by simp [*]) hbq; have hU4 := cell_below (B := w2.heap.size) (o := 0) (v := .int .i64 (R 0).t) (by simp [*]) hbq; have hU5 := cell_below (B := w2.heap.size) (o := 1) (v := .int .i64 y) (by simp [*]) hbq; have hU6 := cell_below (B := w2.heap.size) (o := 2) (v := .bool (R 0).g) (by simp [*]) hbq; have hU7 := cell_below (B := w2.heap.size) (o := 3) (v := .int .i64 (R 0).v) (by simp [*]) hbq))
                obtain ⟨BX3, HB3, -, -⟩ := HXW.out wq (by assumption)
                obtain ⟨q0, q1, qf⟩ := BX3
                have HE : Hid (∀ u0 u1 : Value, _) := cres_end (m := 0) (a := none) (S := coS R y) HB3 (Nat.lt_succ_self _) own4_none
                go_wp2_with fail
                refine bodyPost_ret (v := .agg #[.int .i64 1, .slice none 0 0]) (by simp [results, Try.results16, go_sem, *]) rfl ⟨none, 0, rfl, (HE.out _ _).1, (HE.out _ _).2⟩
              · have hq' : coG n R y = false := by simpa using hq
                have hC : C = 0 := by rw [HV.out.1, if_pos hc, if_pos hxy, if_pos hf0, if_neg hq]
                have hM : n = M := by rw [HV.out.2, if_pos hC]
                subst hC hM
                have HO2 : older (R 1) ⟨(R 0).t, y, (R 0).g, (R 0).v⟩ = true := by rw [HO, hq']; rfl
                clear HV HO hq hq' hf0 hc
                have hn1 : (0 : Int) < ((n - 1 : Nat) : Int) := by omega
                have hn2 : 0 < n - 1 := by omega
                have hb0 : Below wd.heap.size wd wd.drew := (Below.refl _ _).drew
                go_region_held3 (fun w' => Below wd.heap.size wd w' ∧ w'.cell? ⟨b, off + 4, none⟩ = some (.int .i64 (R 1).t) ∧ w'.cell? ⟨b, off + 4 + 1, none⟩ = some (.int .i64 (R 1).a) ∧ w'.cell? ⟨b, off + 4 + 2, none⟩ = some (.bool (R 1).g) ∧ w'.cell? ⟨b, off + 4 + 3, none⟩ = some (.int .i64 (R 1).v) ∧ w'.cell? ⟨w2.heap.size, 0, none⟩ = some (.int .i64 (R 0).t) ∧ w'.cell? ⟨w2.heap.size, 1, none⟩ = some (.int .i64 y) ∧ w'.cell? ⟨w2.heap.size, 2, none⟩ = some (.bool (R 0).g) ∧ w'.cell? ⟨w2.heap.size, 3, none⟩ = some (.int .i64 (R 0).v)) (go_keep)
                  (first | (go_at_call 33; refine (isOlder_any (R 1) ⟨(R 0).t, y, (R 0).g, (R 0).v⟩ _).mono ?_; rintro e wq ⟨rfl, hbq⟩; rw [HO2]; have hU := below_then (w := wd) (by simp [*]) hbq; have hU0 := cell_below (B := b) (o := off + 4) (v := .int .i64 (R 1).t) (by simp [*]) hbq; have hU1 := cell_below (B := b) (o := off + 4 + 1) (v := .int .i64 (R 1).a) (by simp [*]) hbq; have hU2 := cell_below (B := b) (o := off + 4 + 2) (v := .bool (R 1).g) (by simp [*]) hbq; have hU3 := cell_below (B := b) (o := off + 4 + 3) (v := .int .i64 (R 1).v) (by simp [*]) hbq; have hU4 := cell_below (B := w2.heap.size) (o := 0) (v := .int .i64 (R 0).t) (by simp [*]) hbq; have hU5 := cell_below (B := w2.heap.size) (o := 1) (v := .int .i64 y) (by simp [*]) hbq; have hU6 := cell_below (B := w2.heap.size) (o := 2) (v := .bool (R 0).g) (by simp [*]) hbq; have hU7 := cell_below (B := w2.heap.size) (o := 3) (v := .int .i64 (R 0).v) (by simp [*]) hbq))
                obtain ⟨BX3, HB3, HV3, hs3⟩ := HXW.out wq (by assumption)
                go_wp2_with fail
                refine (co_joined R y n (by omega) (by omega) wq (some ⟨b, off + 4, none⟩) (n - 1) HV3).mono ?_
                rintro e w5 ⟨ra, rcc, rfl, hb5, ho5⟩
                obtain ⟨q0, q1, qf⟩ := BX3.below hb5
                have HE : Hid (∀ u0 u1 : Value, _) := cres_end (below_then HB3 hb5) (by have hq := hs3; omega) ho5
                clear hb5 ho5
                go_wp2_with fail
                refine bodyPost_ret (v := .agg #[.int .i64 0, .slice ra n rcc]) (by simp [results, Try.results16, go_sem, *]) rfl ⟨ra, rcc, rfl, (HE.out _ _).1, (HE.out _ _).2⟩
        · have hC : C = 4 := by rw [HV.out.1, if_pos hc, if_pos hxy, if_neg hf]
          have hM : M = 0 := by rw [HV.out.2, if_neg (by omega)]
          have hf' : fob n R x = false := by simpa using hf
          subst hC hM
          rw [hf']
          clear HV
          obtain ⟨q0, q1, qf⟩ := BX2
          go_wp2_with fail
          refine bodyPost_ret (v := .agg #[.int .i64 4, .slice none 0 0]) (by simp [results, Try.results16, go_sem, *]) rfl ⟨none, 0, rfl, (HEB2.out _ _).1, (HEB2.out _ _).2⟩
      · have hy' : inB y 1 1000000 = false := by simpa using hy
        have hC : C = 3 := by rw [HV.out.1, if_pos hc, if_neg (by simp [hy'])]
        have hM : M = 0 := by rw [HV.out.2, if_neg (by omega)]
        subst hC hM
        go_wp2_with fail
        refine (isTxn_any _ _).mono ?_
        rintro e wt ⟨rfl, hwt⟩
        have hwt' := hwt.symm
        clear hwt
        subst hwt'
        rw [hx]
        go_wp2_with fail
        refine (within_any _ _ _ _).mono ?_
        rintro e wt ⟨rfl, hwt⟩
        have hwt' := hwt.symm
        clear hwt
        subst hwt'
        rw [hy']
        obtain ⟨q0, q1, qf⟩ := BX
        go_wp2_with fail
        refine bodyPost_ret (v := .agg #[.int .i64 3, .slice none 0 0]) (by simp [results, Try.results16, go_sem, *]) rfl ⟨none, 0, rfl, (HEB.out _ _).1, (HEB.out _ _).2⟩
    · have hx' : inB x 1 999 = false := by simpa using hx
      have hC : C = 3 := by rw [HV.out.1, if_pos hc, if_neg (by simp [hx'])]
      have hM : M = 0 := by rw [HV.out.2, if_neg (by omega)]
      subst hC hM
      go_wp2_with fail
      refine (isTxn_any _ _).mono ?_
      rintro e wt ⟨rfl, hwt⟩
      have hwt' := hwt.symm
      clear hwt
      subst hwt'
      rw [hx']
      obtain ⟨q0, q1, qf⟩ := BX
      go_wp2_with fail
      refine bodyPost_ret (v := .agg #[.int .i64 3, .slice none 0 0]) (by simp [results, Try.results16, go_sem, *]) rfl ⟨none, 0, rfl, (HEB.out _ _).1, (HEB.out _ _).2⟩
  · have hC : C = chF n R := by rw [HV.out.1, if_neg hc]
    have hM : M = 0 := by rw [HV.out.2, if_neg (by omega)]
    subst hM
    rw [← hC]
    rw [← hC] at hc
    clear HV hC
    have hc1 : (C != 0) = true := by simp [hc]
    obtain ⟨q0, q1, qf⟩ := BX
    go_wp2_with fail
    refine bodyPost_ret (v := .agg #[.int .i64 C, .slice none 0 0]) (by simp [results, Try.results16, go_sem, *]) rfl ⟨none, 0, rfl, (HEB.out _ _).1, (HEB.out _ _).2⟩
end Go.Proofs.Ytiabblmjgfkijaa
