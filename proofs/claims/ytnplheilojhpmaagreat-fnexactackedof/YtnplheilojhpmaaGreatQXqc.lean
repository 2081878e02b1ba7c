/- spec.l13Kinds, impl.sureRecs, both AckedOfs. -/
import Derived.Test.YtnplheilojhpmaaGreatQUt
import Derived.Test.YtnplheilojhpmaaGreatQZeg
import Derived.Test.YtnplheilojhpmaaGreatQUv
import Derived.Test.YtnplheilojhpmaaGreatQRg
import Derived.Test.YtnplheilojhpmaaGreatQLn
import Derived.Test.YtnplheilojhpmaaGreatQZgb
namespace Go.Proofs.YtnplheilojhpmaaGreat
open Go.ChangeShapes Go.WideShapes Go.ChangeAt Go.RowKit Go.Deep Go.Joins
set_option linter.unusedVariables false
set_option maxRecDepth 20000

/-- The transactions that a store's sure records commit. -/
def akR (t : Sto) : Nat → Rc := zRs t.g.z1
def akN (t : Sto) : Nat := cnt t.g.z1 t.g.n1
def akT (t : Sto) : List Int := kdL (akR t) 3 (akN t)
theorem akN_le {t : Sto} (h : stF t = 0) : t.g.n1 ≤ 4000 ∧ akN t ≤ 400 := by
  have hl := (lgC_zero (stF_good h).lg).1
  have := cnt_le t.g.z1 t.g.n1
  unfold akN
  exact ⟨by omega, by omega⟩
theorem akT_len {t : Sto} (h : stF t = 0) : (akT t).length ≤ 400 := Nat.le_trans (kdL_len _ _ _) (akN_le h).2
set_option maxHeartbeats 4000000 in
theorem l13Kinds_any (n : Nat) (R : Nat → Rc) (kd : Int) (a : Option Addr) (cap : Nat) (w : World) (hn : n ≤ 4000) (h : RecsAt w a n R) :
    Calls Tryz.prog 20 #[.slice a n cap, .int .i64 kd] w fun e w' => ∃ v, e = .returned v ∧ Below w.heap.size w w' ∧ w'.ownsRow w.heap.size 2 1 v (kdL R kd n).length (il (kdL R kd n)) := by
  have HA : Hid (RecsAt w a n R) := h
  clear h
  go_enter Tryz.func20, Tryz.ntmps20
  go_wp2_with fail
  go_loopw [5, 6] (fun v i wr => ∃ k : Nat, k ≤ n ∧ i = .int .i64 k ∧ Hid (Below w.heap.size w wr) ∧ Hid (wr.ownsRow w.heap.size 2 1 v (kdL R kd k).length (il (kdL R kd k)))) (fun _ i _ => n - (intOf i).toNat)
  case atStart => exact ⟨0, Nat.zero_le _, rfl, below_new _ _, own_litI w⟩
  case round =>
    obtain ⟨k, hk, rfl, HB, HO⟩ := hrel
    by_cases hlt : k < n
    · have hlt' : (k : Int) < (n : Int) := by omega
      have hk0 : (0 : Int) ≤ (k : Int) := by omega
      rcases HA.out.below HB.out with q | ⟨b, off, rfl, hb, hc⟩
      · omega
      obtain ⟨q0, q1, -⟩ := hc k hlt
      clear hc
      by_cases c1 : (R k).k = kd
      · have HN : Hid (kdL R kd (k + 1) = ri (kdL R kd k) (R k).t) := by show kdL R kd (k + 1) = _; rw [kdL, if_pos c1]
        have HLE : Hid ((kdL R kd k).length ≤ 90000) := by have := kdL_len R kd k; show _ ≤ _; omega
        rw [c1] at q0
        clear c1
        generalize (R k).t = tt at *
        go_wp2_with fail
        refine (l1Rise_own (kdL R kd k) tt u5 w.heap.size wr HB.out.size HLE.out HO.out).mono ?_
        rintro e w1 ⟨u, rfl, hb1, ho1⟩
        have HB1 : Hid (Below w.heap.size w w1) := below_then HB.out hb1
        have HO1 : Hid (w1.ownsRow w.heap.size 2 1 u (kdL R kd (k + 1)).length (il (kdL R kd (k + 1)))) := by show World.ownsRow _ _ _ _ _ _ _; rw [HN.out]; exact ho1
        clear hb1 ho1
        go_wp2_with fail
        go_roundw
        case rel => exact ⟨k + 1, hlt, by go_num, HB1, HO1⟩
        case measure => simp [intOf]; omega
      · have HN : Hid (wr.ownsRow w.heap.size 2 1 u5 (kdL R kd (k + 1)).length (il (kdL R kd (k + 1)))) := by show World.ownsRow _ _ _ _ _ _ _; rw [kdL, if_neg c1]; exact HO.out
        have d1 : ((R k).k == kd) = false := by simpa using c1
        clear c1
        generalize (R k).k = kk at *
        generalize (R k).t = tt at *
        go_wp2_with fail
        go_roundw
        case rel => exact ⟨k + 1, hlt, by go_num, HB, HN⟩
        case measure => simp [intOf]; omega
    · have hkn : k = n := by omega
      have HO2 : Hid (wr.ownsRow w.heap.size 2 1 u5 (kdL R kd n).length (il (kdL R kd n))) := by have q := HO.out; rw [hkn] at q; exact q
      have hnl : ¬ ((k : Int) < (n : Int)) := by omega
      clear HO hkn
      go_wp2_with fail
      go_ret
      exact ⟨_, rfl, HB.out, HO2.out⟩
theorem l3Recs_B (n : Nat) (z : Nat → Int) (a : Option Addr) (cap : Nat) (w : World) (hcap : n ≤ cap) (hn : n ≤ 8000) (hz : Byt n z) (h : BytesAt w a n z) :
    Calls Tryz.prog 19 #[.slice a n cap] w fun e w' => ∃ ra rcp, e = .returned (.tuple #[.slice ra (cnt z n) rcp, .int .i64 (13 * (cnt z n : Int))]) ∧ Below w.heap.size w w' ∧ RecsAt w' ra (cnt z n) (zRs z) := by
  have q : n = 0 ∨ ∃ b off, a = some ⟨b, off, none⟩ ∧ b < w.heap.size ∧ BA w b off n z := by
    rcases h with h | ⟨b, off, h1, h2, h3⟩
    · exact .inl h
    · exact .inr ⟨b, off, h1, h2, h3⟩
  rcases q with q | ⟨b, off, h1, h2, h3⟩
  · refine (l3Recs_any n z a 0 0 cap w hcap hn hz (.inl q)).mono ?_
    rintro e w' ⟨ra, rcp, rfl, hb, ho⟩
    exact ⟨ra, rcp, rfl, hb, (own8_of_row ho).at⟩
  · refine (l3Recs_any n z a b off cap w hcap hn hz (.inr ⟨h1, h2, h3⟩)).mono ?_
    rintro e w' ⟨ra, rcp, rfl, hb, ho⟩
    exact ⟨ra, rcp, rfl, hb, (own8_of_row ho).at⟩
theorem implUr_R (n : Nat) (z : Nat → Int) (a : Option Addr) (cap : Nat) (w : World) (hcap : n ≤ cap) (hn : n ≤ 4000) (hz : Byt n z) (h : BytesAt w a n z) :
    Calls Tryz.prog 65 #[.slice a n cap] w fun e w' => ∃ ra rcp, e = .returned (.agg #[.int .i64 0, .int .i64 (13 * (cnt z n : Int)), .slice ra (cnt z n) rcp]) ∧ Below w.heap.size w w' ∧ RecsAt w' ra (cnt z n) (zRs z) := by
  have q : n = 0 ∨ ∃ b off, a = some ⟨b, off, none⟩ ∧ b < w.heap.size ∧ BA w b off n z := by
    rcases h with h | ⟨b, off, h1, h2, h3⟩
    · exact .inl h
    · exact .inr ⟨b, off, h1, h2, h3⟩
  rcases q with q | ⟨b, off, h1, h2, h3⟩
  · refine (implUr_any n z a 0 0 cap w hcap hn hz (.inl q)).mono ?_
    rintro e w' ⟨ra, rcp, rfl, hb, ho⟩
    exact ⟨ra, rcp, rfl, hb, (own8_of_row ho).at⟩
  · refine (implUr_any n z a b off cap w hcap hn hz (.inr ⟨h1, h2, h3⟩)).mono ?_
    rintro e w' ⟨ra, rcp, rfl, hb, ho⟩
    exact ⟨ra, rcp, rfl, hb, (own8_of_row ho).at⟩
set_option maxHeartbeats 2000000 in
theorem sureRecs_any (L : Lo) (a1 a2 : Option Addr) (c1 c2 : Nat) (w : World) (hcap : L.n1 ≤ c1) (hn : L.n1 ≤ 4000) (hz : LogByt L) (h : LogAt w a1 a2 L) :
    Calls Tryz.prog 27 #[.agg #[.slice a1 L.n1 c1, .slice a2 L.n2 c2]] w fun e w' => ∃ ra rcp, e = .returned (.slice ra (cnt L.z1 L.n1) rcp) ∧ Below w.heap.size w w' ∧ RecsAt w' ra (cnt L.z1 L.n1) (zRs L.z1) := by
  have HA : Hid (BytesAt w a1 L.n1 L.z1) := h.1
  have HZ : Hid (Byt L.n1 L.z1) := hz.p
  have hf : ∀ (us : Int) (ra : Option Addr) (n rc : Nat) (u : World), (Instr.field 109 (.agg #[.int .i64 0, .int .i64 us, .slice ra n rc]) 2).run Tryz.prog u = .ok (.slice ra n rc) u := fun _ _ _ _ _ => by kernel_rfl
  clear h hz
  go_enter Tryz.func27, Tryz.ntmps27
  go_wp2_with fail
  refine (implUr_R L.n1 L.z1 a1 c1 _ hcap hn HZ.out (HA.out.below (below_new _ _))).mono ?_
  rintro e w1 ⟨ra, rcp, rfl, hb, hr⟩
  go_wp2_with fail
  go_ret
  exact ⟨_, _, rfl, below_then (below_new _ _) hb, hr⟩
set_option maxHeartbeats 8000000 in
theorem specAk_any (t : Sto) (a0 : Option Addr) (c0 : Nat) (a1 : Option Addr) (c1 : Nat) (a2 : Option Addr) (c2 : Nat) (a3 : Option Addr) (c3 : Nat) (a4 : Option Addr) (c4 : Nat) (a5 : Option Addr) (c5 : Nat) (a6 : Option Addr) (c6 : Nat) (w : World) (hS : SmSt t) (hby : LogByt t.g) (hcap : t.g.n1 ≤ c3) (h : InSt w a0 a1 a2 a3 a4 a5 a6 t) :
    Calls Tryz.prog 5 #[.agg #[.int .i64 t.nx, .slice a0 t.pn c0, .slice a1 t.d.n c1, .slice a2 t.d.m c2, .slice a3 t.g.n1 c3, .slice a4 t.g.n2 c4, .slice a5 t.hn c5, .slice a6 t.on c6]] w (IRes (stF t) (akT t) w) := by
  have hb0 : ∀ o1 o2, Below w.heap.size w ((w.alloc o1).alloc o2) := fun o1 o2 => ((Below.refl _ _).alloc (Nat.le_refl _) _).alloc (by simp) _
  have HA : Hid (InSt w a0 a1 a2 a3 a4 a5 a6 t) := h
  have HY : Hid (LogByt t.g) := hby
  have HS : Hid (SmSt t) := hS
  clear h hby hS
  go_enter Tryz.func5, Tryz.ntmps5
  go_wp2_with fail
  refine (l12Fault_any t w.heap.size a0 c0 a1 c1 a2 c2 a3 c3 a4 c4 a5 c5 a6 c6 _ HS.out HY.out ((BoxS.new w _ _ _ _ _ _ _ _ _).alloc _) (HA.out.below (hb0 _ _))).mono ?_
  rintro e w1 ⟨rfl, hb1⟩
  obtain ⟨hcc, hff⟩ := bcell hb1
  have hz1 : w.heap.size + 2 ≤ w1.heap.size := by have := hb1.size; simp at this; omega
  have q4 : w1.cell? ⟨w.heap.size, 4, none⟩ = some (.slice a3 t.g.n1 c3) := by rw [hcc _ _ (by simp <;> omega)]; simp [go_sem]
  have q5 : w1.cell? ⟨w.heap.size, 5, none⟩ = some (.slice a4 t.g.n2 c4) := by rw [hcc _ _ (by simp <;> omega)]; simp [go_sem]
  have r0 : w1.cell? ⟨w.heap.size + 1, 0, none⟩ = some (.int .i64 0) := by rw [hcc _ _ (by simp <;> omega)]; simp [go_sem]
  have r1 : w1.cell? ⟨w.heap.size + 1, 1, none⟩ = some (.slice none 0 0) := by rw [hcc _ _ (by simp <;> omega)]; simp [go_sem]
  have fz : ∀ i, w1.frozen? ⟨w.heap.size + 1, i, none⟩ = false := fun i => by rw [hff _ _ (by simp <;> omega)]; simp [go_sem]
  have HB1 : Hid (Below w.heap.size w w1) := below_then (hb0 _ _) hb1
  clear hcc hff hb1 hb0
  by_cases h0 : stF t = 0
  case neg =>
    have hd : (stF t != 0) = true := by simpa using h0
    have HX : Hid (∀ w', Below w.heap.size w w' → IRes (stF t) (akT t) w (.returned (.agg #[.int .i64 (stF t), .slice none 0 0])) w') := fun w' hb => ires_bad hb h0
    clear h0
    generalize stF t = c at *
    go_wp2_with fail
    refine bodyPost_ret (v := .agg #[.int .i64 c, .slice none 0 0]) (by simp [results, Tryz.results5, go_sem, *]) rfl ?_
    refine HX.out _ ?_
    repeat (first | with_reducible exact HB1.out | with_reducible refine Below.setCell ?_ (by first | omega | (simp <;> omega)) _)
  have H0 : Hid (stF t = 0) := h0
  have hn4 := (akN_le h0).1
  have hN4 := (akN_le h0).2
  rw [h0]
  clear h0
  go_wp2_with fail
  refine (l3Recs_B t.g.n1 t.g.z1 a3 c3 _ hcap (by omega) HY.out.p ((HA.out.2.2.1).1.below HB1.out)).mono ?_
  rintro e w2 ⟨ra, rcp, rfl, hb2, hr2⟩
  have HR2 : Hid (RecsAt w2 ra (akN t) (akR t)) := hr2
  have HB2 : Hid (Below w1.heap.size w1 w2) := hb2
  have hNN : cnt t.g.z1 t.g.n1 = akN t := rfl
  rw [hNN]
  clear hb2 hr2 hNN
  go_wp2_with fail
  refine (l13Kinds_any (akN t) (akR t) 3 ra rcp w2 (by omega) HR2.out).mono ?_
  rintro e w9 ⟨v9, rfl, hb9, ho9⟩
  have HB9 : Hid (Below w1.heap.size w1 w9) := below_then HB2.out hb9
  have HO9 : Hid (w9.ownsRow w1.heap.size 2 1 v9 (akT t).length (il (akT t))) := own_downI ho9 HB2.out.size
  clear hb9 ho9
  obtain ⟨ar, cr, rfl, -⟩ := ownI_of_row HO9.out
  have t0 := cell_below r0 HB9.out
  have t1 := cell_below r1 HB9.out
  have tf : ∀ i, w9.frozen? ⟨w.heap.size + 1, i, none⟩ = false := fun i => (HB9.out.frozen (p := ⟨w.heap.size + 1, i, none⟩) (by show w.heap.size + 1 < w1.heap.size; omega)).trans (fz i)
  clear r0 r1 fz q4 q5
  go_wp2_with fail
  refine bodyPost_ret (v := .agg #[.int .i64 0, .slice ar (akT t).length cr]) (by simp [results, Tryz.results5, go_sem, *]) rfl ?_
  rw [H0.out]
  refine ires_ok rfl (below_then HB1.out HB9.out) (l := w.heap.size + 1) (h := w.heap.size + 2) (by omega) (by omega) hz1 HO9.out ?_ (by simp)
  repeat (first | with_reducible exact Writes.refl _ _ _ | with_reducible refine Writes.setCell ?_ (by first | omega | (simp <;> omega)) (by first | omega | (simp <;> omega)) _)
set_option maxHeartbeats 8000000 in
theorem implAk_any (t : Sto) (a0 : Option Addr) (c0 : Nat) (a1 : Option Addr) (c1 : Nat) (a2 : Option Addr) (c2 : Nat) (a3 : Option Addr) (c3 : Nat) (a4 : Option Addr) (c4 : Nat) (a5 : Option Addr) (c5 : Nat) (a6 : Option Addr) (c6 : Nat) (w : World) (hS : SmSt t) (hby : LogByt t.g) (hcap : t.g.n1 ≤ c3) (h : InSt w a0 a1 a2 a3 a4 a5 a6 t) :
    Calls Tryz.prog 7 #[.agg #[.int .i64 t.nx, .slice a0 t.pn c0, .slice a1 t.d.n c1, .slice a2 t.d.m c2, .slice a3 t.g.n1 c3, .slice a4 t.g.n2 c4, .slice a5 t.hn c5, .slice a6 t.on c6]] w (IRes (stF t) (akT t) w) := by
  have hb0 : ∀ o1 o2, Below w.heap.size w ((w.alloc o1).alloc o2) := fun o1 o2 => ((Below.refl _ _).alloc (Nat.le_refl _) _).alloc (by simp) _
  have HA : Hid (InSt w a0 a1 a2 a3 a4 a5 a6 t) := h
  have HY : Hid (LogByt t.g) := hby
  have HS : Hid (SmSt t) := hS
  clear h hby hS
  go_enter Tryz.func7, Tryz.ntmps7
  go_wp2_with fail
  refine (implStf_any t a0 c0 a1 c1 a2 c2 a3 c3 a4 c4 a5 c5 a6 c6 _ HS.out HY.out (HA.out.below (hb0 _ _))).mono ?_
  rintro e w1 ⟨rfl, hb1⟩
  obtain ⟨hcc, hff⟩ := bcell hb1
  have hz1 : w.heap.size + 2 ≤ w1.heap.size := by have := hb1.size; simp at this; omega
  have q4 : w1.cell? ⟨w.heap.size, 4, none⟩ = some (.slice a3 t.g.n1 c3) := by rw [hcc _ _ (by simp <;> omega)]; simp [go_sem]
  have q5 : w1.cell? ⟨w.heap.size, 5, none⟩ = some (.slice a4 t.g.n2 c4) := by rw [hcc _ _ (by simp <;> omega)]; simp [go_sem]
  have r0 : w1.cell? ⟨w.heap.size + 1, 0, none⟩ = some (.int .i64 0) := by rw [hcc _ _ (by simp <;> omega)]; simp [go_sem]
  have r1 : w1.cell? ⟨w.heap.size + 1, 1, none⟩ = some (.slice none 0 0) := by rw [hcc _ _ (by simp <;> omega)]; simp [go_sem]
  have fz : ∀ i, w1.frozen? ⟨w.heap.size + 1, i, none⟩ = false := fun i => by rw [hff _ _ (by simp <;> omega)]; simp [go_sem]
  have HB1 : Hid (Below w.heap.size w w1) := below_then (hb0 _ _) hb1
  clear hcc hff hb1 hb0
  by_cases h0 : stF t = 0
  case neg =>
    have hd : (stF t != 0) = true := by simpa using h0
    have HX : Hid (∀ w', Below w.heap.size w w' → IRes (stF t) (akT t) w (.returned (.agg #[.int .i64 (stF t), .slice none 0 0])) w') := fun w' hb => ires_bad hb h0
    clear h0
    generalize stF t = c at *
    go_wp2_with fail
    refine bodyPost_ret (v := .agg #[.int .i64 c, .slice none 0 0]) (by simp [results, Tryz.results7, go_sem, *]) rfl ?_
    refine HX.out _ ?_
    repeat (first | with_reducible exact HB1.out | with_reducible refine Below.setCell ?_ (by first | omega | (simp <;> omega)) _)
  have H0 : Hid (stF t = 0) := h0
  have hn4 := (akN_le h0).1
  have hN4 := (akN_le h0).2
  rw [h0]
  clear h0
  go_wp2_with fail
  refine (sureRecs_any t.g a3 a4 c3 c4 _ hcap hn4 HY.out (HA.out.2.2.1.below HB1.out)).mono ?_
  rintro e w2 ⟨ra, rcp, rfl, hb2, hr2⟩
  have HR2 : Hid (RecsAt w2 ra (akN t) (akR t)) := hr2
  have HB2 : Hid (Below w1.heap.size w1 w2) := hb2
  have hNN : cnt t.g.z1 t.g.n1 = akN t := rfl
  rw [hNN]
  clear hb2 hr2 hNN
  obtain ⟨i0, hi, hz0, hz1', hz2⟩ := info_partsN info2
  have HI : Hid (Tryz.prog.info? 2 = some i0 ∧ i0.zero = some (.int .i64 0) ∧ i0.size = 1 ∧ i0.bytes = 8) := ⟨hi, hz0, hz1', hz2⟩
  clear hi hz0 hz1' hz2
  obtain ⟨N, HN⟩ : ∃ N, Hid (akN t = N) := ⟨_, rfl⟩
  obtain ⟨R, HRR⟩ : ∃ R, Hid (akR t = R) := ⟨_, rfl⟩
  rw [HN.out] at hN4 HR2 ⊢
  rw [HRR.out] at HR2
  go_wp2_with fail
  go_loopw [4, 6, 17] (fun v _ i wr => ∃ k : Nat, k ≤ N ∧ i = .int .i64 k ∧ Hid (Below w2.heap.size w2 wr) ∧ Hid (wr.ownsRow w2.heap.size 2 1 v (akL R 3 k).length (il (akL R 3 k)))) (fun _ _ i _ => N - (intOf i).toNat)
  case atStart => exact ⟨0, Nat.zero_le _, rfl, Below.refl _ _, World.ownsRow_nil _ _ _ _⟩
  case round =>
    obtain ⟨k, hk, rfl, HB, HO⟩ := hrel
    by_cases hlt : k < N
    · have hlt' : (k : Int) < (N : Int) := by omega
      have hk0 : (0 : Int) ≤ (k : Int) := by omega
      rcases HR2.out.below HB.out with q | ⟨b, off, rfl, hb, hc⟩
      · omega
      obtain ⟨p0, p1, p2, p3, p4, p5, p6, p7⟩ := hc k hlt
      clear hc
      have HBN : Hid (∀ o : Obj, Below w2.heap.size w2 (wr.alloc o)) := fun o => below_then HB.out (below_new _ _)
      by_cases c1 : (R k).k = 3
      · have HNX : Hid (akL R 3 (k + 1) = akL R 3 k ++ [(R k).t]) := by show akL R 3 (k + 1) = _; rw [akL, if_pos c1]
        have hle := akL_len R 3 k
        rw [c1] at p0
        clear c1
        generalize (R k).t = tt at *
        go_wp2_with (at_builtin; refine wpList_append_own _ rfl (.tmp 24) (.tmp 27) 31 rfl w2.heap.size 2 i0 (.int .i64 0) 1 8 Tryz.underlying31 HI.out.1 HI.out.2.1 HI.out.2.2.1 HI.out.2.2.2 rfl (by decide) _ (akL R 3 k).length (il (akL R 3 k)) rfl ((HO.out.alloc _).alloc _) ⟨wr.heap.size + 1, 0, none⟩ 1 1 [.int .i64 tt] rfl rfl ?c2 ?c1 ?c3 ?c4 ?c5 ?_)
        case c1 => intro u hu; simp at hu; subst hu; rfl
        case c2 =>
          have q := cell_one_new (wr.alloc (.cells #[.int .i64 3, .int .i64 tt, .int .i64 (R k).key, .bool (R k).hd, .int .i64 (R k).old, .bool (R k).hs, .int .i64 (R k).nw, .int .i64 (R k).bk] 71)) (.int .i64 tt) 2
          rw [World.size_alloc] at q
          exact q
        case c3 => unfold maxLen; omega
        case c4 => omega
        case c5 => have := HB.out.size; rw [World.size_alloc, World.size_alloc]; omega
        intro v3 w3 ho3 hg3 _
        have HO3 : Hid (w3.ownsRow w2.heap.size 2 1 v3 (akL R 3 (k + 1)).length (il (akL R 3 (k + 1)))) := by
          show World.ownsRow _ _ _ _ _ _ _
          rw [HNX.out, List.length_append, il_app]
          exact ho3
        have HB3 : Hid (Below w2.heap.size w2 w3) := Below.grown (below_then (HBN.out _) (below_new _ _)) hg3 (by have := HB.out.size; rw [World.size_alloc, World.size_alloc]; omega) (fun q hq => (HO.out.lt q hq).1)
        clear ho3 hg3
        go_wp2_with fail
        go_roundw
        case rel => exact ⟨k + 1, hlt, by go_num, HB3, HO3⟩
        case measure => simp [intOf]; omega
      · have HNX : Hid (∀ o : Obj, (wr.alloc o).ownsRow w2.heap.size 2 1 u4 (akL R 3 (k + 1)).length (il (akL R 3 (k + 1)))) := fun o => by rw [akL, if_neg c1]; exact HO.out.alloc _
        have d1 : ((R k).k == 3) = false := by simpa using c1
        clear c1
        generalize (R k).k = kk at *
        go_wp2_with fail
        go_roundw
        case rel => exact ⟨k + 1, hlt, by go_num, HBN.out _, HNX.out _⟩
        case measure => simp [intOf]; omega
    · have hkn : k = N := by omega
      have HO2 : Hid (wr.ownsRow w2.heap.size 2 1 u4 (akL R 3 N).length (il (akL R 3 N))) := by have q := HO.out; rw [hkn] at q; exact q
      have hnl : ¬ ((k : Int) < (N : Int)) := by omega
      have hle := akL_len R 3 N
      have HAQ : Hid (cpL (sortL (akL R 3 N)) = akT t) := by show _ = kdL (akR t) 3 (akN t); rw [HN.out, HRR.out]; exact acked_eq R 3 N
      clear HO hkn
      go_wp2_with fail
      refine (sort_own w2.heap.size u4 (akL R 3 N) wr (by omega) HO2.out).mono ?_
      rintro e w5 ⟨rfl, ho5, hg5⟩
      have HB5 : Hid (Below w2.heap.size w2 w5) := HB.out.grown hg5 HB.out.size (fun q hq => (HO2.out.lt q hq).1)
      have HO5 : Hid (w5.ownsRow w2.heap.size 2 1 u4 (sortL (akL R 3 N)).length (il (sortL (akL R 3 N)))) := ho5
      clear ho5 hg5
      go_wp2_with fail
      refine (comp_own w2.heap.size u4 (sortL (akL R 3 N)) w5 (by rw [sortL_len]; omega) HO5.out).mono ?_
      rintro e w9 ⟨v9, rfl, ho9, hg9⟩
      have HB9 : Hid (Below w1.heap.size w1 w9) := below_then HB2.out (HB5.out.grown hg9 HB5.out.size (fun q hq => (HO5.out.lt q hq).1))
      have HO9 : Hid (w9.ownsRow w1.heap.size 2 1 v9 (akT t).length (il (akT t))) := by
        have q := own_downI ho9 HB2.out.size
        rw [HAQ.out] at q
        exact q
      clear ho9 hg9
      obtain ⟨ar, cr, rfl, -⟩ := ownI_of_row HO9.out
      have t0 := cell_below r0 HB9.out
      have t1 := cell_below r1 HB9.out
      have tf : ∀ i, w9.frozen? ⟨w.heap.size + 1, i, none⟩ = false := fun i => (HB9.out.frozen (p := ⟨w.heap.size + 1, i, none⟩) (by show w.heap.size + 1 < w1.heap.size; omega)).trans (fz i)
      clear r0 r1 fz q4 q5
      go_wp2_with fail
      refine bodyPost_ret (v := .agg #[.int .i64 0, .slice ar (akT t).length cr]) (by simp [results, Tryz.results7, go_sem, *]) rfl ?_
      rw [H0.out]
      refine ires_ok rfl (below_then HB1.out HB9.out) (l := w.heap.size + 1) (h := w.heap.size + 2) (by omega) (by omega) hz1 HO9.out ?_ (by simp)
      repeat (first | with_reducible exact Writes.refl _ _ _ | with_reducible refine Writes.setCell ?_ (by first | omega | (simp <;> omega)) (by first | omega | (simp <;> omega)) _)
end Go.Proofs.YtnplheilojhpmaaGreat
