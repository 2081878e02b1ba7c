/- impl.CrashStore, spec.CrashStore. -/
import Derived.Test.YtldnfiadafmomaaGreatQXca
namespace Go.Proofs.YtldnfiadafmomaaGreat
open Go.ChangeShapes Go.WideShapes Go.ChangeAt Go.RowKit Go.Deep Go.Joins
set_option linter.unusedVariables false
set_option maxRecDepth 20000

set_option maxHeartbeats 8000000 in
theorem implCs_any (t : Sto) (a0 : Option Addr) (c0 : Nat) (a1 : Option Addr) (c1 : Nat) (a2 : Option Addr) (c2 : Nat) (a3 : Option Addr) (c3 : Nat) (a4 : Option Addr) (c4 : Nat) (a5 : Option Addr) (c5 : Nat) (a6 : Option Addr) (c6 : Nat) (x : Int) (k3 : Nat) (F : Nat → Int) (a7 : Option Addr) (c7 : Nat) (w : World) (hS : SmSt t) (hby : LogByt t.g) (hk : k3 ≤ 1048576) (hcap : t.g.n2 ≤ c4) (h : InSt w a0 a1 a2 a3 a4 a5 a6 t) (h3 : IntsAt w a7 k3 F) :
    Calls Tryz.prog 8 #[.agg #[.int .i64 t.nx, .slice a0 t.pn c0, .slice a1 t.d.n c1, .slice a2 t.d.m c2, .slice a3 t.g.n1 c3, .slice a4 t.g.n2 c4, .slice a5 t.hn c5, .slice a6 t.on c6], .int .i64 x, .slice a7 k3 c7] w (KRes (csC t x k3 F) (csD t x k3 F) (csG t x k3 F) w) := by
  have hb0 : ∀ o1 o2, Below w.heap.size w ((w.alloc o1).alloc o2) := fun o1 o2 => ((Below.refl _ _).alloc (Nat.le_refl _) _).alloc (by simp) _
  have HA : Hid (InSt w a0 a1 a2 a3 a4 a5 a6 t) := h
  have HI : Hid (IntsAt w a7 k3 F) := h3
  have HY : Hid (LogByt t.g) := hby
  have HS : Hid (SmSt t) := hS
  clear h h3 hby hS
  go_enter Tryz.func8, Tryz.ntmps8
  go_wp2_with fail
  refine (implStf_any t a0 c0 a1 c1 a2 c2 a3 c3 a4 c4 a5 c5 a6 c6 _ HS.out HY.out (HA.out.below (hb0 _ _))).mono ?_
  rintro e w1 ⟨rfl, hb1⟩
  obtain ⟨hcc, hff⟩ := bcell hb1
  have hz1 : w.heap.size + 2 ≤ w1.heap.size := by have := hb1.size; simp at this; omega
  have q2 : w1.cell? ⟨w.heap.size, 2, none⟩ = some (.slice a1 t.d.n c1) := by rw [hcc _ _ (by simp <;> omega)]; simp [go_sem]
  have q3 : w1.cell? ⟨w.heap.size, 3, none⟩ = some (.slice a2 t.d.m c2) := by rw [hcc _ _ (by simp <;> omega)]; simp [go_sem]
  have q4 : w1.cell? ⟨w.heap.size, 4, none⟩ = some (.slice a3 t.g.n1 c3) := by rw [hcc _ _ (by simp <;> omega)]; simp [go_sem]
  have q5 : w1.cell? ⟨w.heap.size, 5, none⟩ = some (.slice a4 t.g.n2 c4) := by rw [hcc _ _ (by simp <;> omega)]; simp [go_sem]
  have r0 : w1.cell? ⟨w.heap.size + 1, 0, none⟩ = some (.int .i64 0) := by rw [hcc _ _ (by simp <;> omega)]; simp [go_sem]
  have r1 : w1.cell? ⟨w.heap.size + 1, 1, none⟩ = some (.slice none 0 0) := by rw [hcc _ _ (by simp <;> omega)]; simp [go_sem]
  have r2 : w1.cell? ⟨w.heap.size + 1, 2, none⟩ = some (.slice none 0 0) := by rw [hcc _ _ (by simp <;> omega)]; simp [go_sem]
  have r3 : w1.cell? ⟨w.heap.size + 1, 3, none⟩ = some (.slice none 0 0) := by rw [hcc _ _ (by simp <;> omega)]; simp [go_sem]
  have r4 : w1.cell? ⟨w.heap.size + 1, 4, none⟩ = some (.slice none 0 0) := by rw [hcc _ _ (by simp <;> omega)]; simp [go_sem]
  have fz : ∀ i, w1.frozen? ⟨w.heap.size + 1, i, none⟩ = false := fun i => by rw [hff _ _ (by simp <;> omega)]; simp [go_sem]
  have HB1 : Hid (Below w.heap.size w w1) := below_then (hb0 _ _) hb1
  clear hcc hff hb1 hb0
  by_cases h0 : stF t = 0
  case neg =>
    have hd : (stF t != 0) = true := by simpa using h0
    have HX : Hid (∀ w', Below w.heap.size w w' → KRes (csC t x k3 F) (csD t x k3 F) (csG t x k3 F) w (.returned (.agg #[.int .i64 (stF t), .slice none 0 0, .slice none 0 0, .slice none 0 0, .slice none 0 0])) w') := fun w' hb => by
      obtain ⟨e1, e2, e3⟩ := cs_bad (x := x) (k := k3) (F := F) (cs_st h0) h0
      rw [e1, e2, e3]; exact kres_bad hb
    clear h0
    generalize stF t = c at *
    go_wp2_with fail
    refine bodyPost_ret (v := .agg #[.int .i64 c, .slice none 0 0, .slice none 0 0, .slice none 0 0, .slice none 0 0]) (by simp [results, Tryz.results8, go_sem, *]) rfl ?_
    refine HX.out _ ?_
    repeat (first | with_reducible exact HB1.out | with_reducible refine Below.setCell ?_ (by first | omega | (simp <;> omega)) _)
  have H0 : Hid (stF t = 0) := h0
  rw [h0]
  clear h0
  go_wp2_with fail
  refine (implCl_any t.g a3 a4 c3 c4 x _ HS.out.2.2.1.1 HS.out.2.2.1.2 hcap HY.out (HA.out.2.2.1.below HB1.out)).mono ?_
  rintro e w2 ⟨g1, g2, u1, u2, rfl, hb2, ho2⟩
  have HB2 : Hid (Below w1.heap.size w1 w2) := hb2
  have HG2 : Hid (OwnG w2 w1.heap.size w2.heap.size g1 g2 (clL t.g x)) := ho2
  have hz2 : w1.heap.size ≤ w2.heap.size := hb2.size
  replace q2 := cell_below q2 hb2
  replace q3 := cell_below q3 hb2
  replace r0 := cell_below r0 hb2
  replace r1 := cell_below r1 hb2
  replace r2 := cell_below r2 hb2
  replace r3 := cell_below r3 hb2
  replace r4 := cell_below r4 hb2
  have fz2 : ∀ i, w2.frozen? ⟨w.heap.size + 1, i, none⟩ = false := fun i => (HB2.out.frozen (p := ⟨w.heap.size + 1, i, none⟩) (by show w.heap.size + 1 < w1.heap.size; omega)).trans (fz i)
  have ar2 := fun o : Obj => cell_alloc q2 o
  have ar3 := fun o : Obj => cell_alloc q3 o
  have s0 := fun o : Obj => cell_alloc r0 o
  have s1 := fun o : Obj => cell_alloc r1 o
  have s2 := fun o : Obj => cell_alloc r2 o
  have s3 := fun o : Obj => cell_alloc r3 o
  have s4 := fun o : Obj => cell_alloc r4 o
  have sf : ∀ (o : Obj) i, (w2.alloc o).frozen? ⟨w.heap.size + 1, i, none⟩ = false := fun o i => ((below_new w2 o).frozen (p := ⟨w.heap.size + 1, i, none⟩) (by show w.heap.size + 1 < w2.heap.size; omega)).trans (fz2 i)
  clear hb2 ho2 q4 q5 fz
  by_cases h1 : clC t.g x = 0
  case neg =>
    have hd : (clC t.g x != 0) = true := by simpa using h1
    have HX : Hid (∀ w', Below w.heap.size w w' → KRes (csC t x k3 F) (csD t x k3 F) (csG t x k3 F) w (.returned (.agg #[.int .i64 (clC t.g x), .slice none 0 0, .slice none 0 0, .slice none 0 0, .slice none 0 0])) w') := fun w' hb => by
      obtain ⟨e1, e2, e3⟩ := cs_bad (x := x) (k := k3) (F := F) (cs_log H0.out h1) h1
      rw [e1, e2, e3]; exact kres_bad hb
    clear h1
    have HBx : Hid (∀ o, Below w.heap.size w (w2.alloc o)) := fun o => below_then HB1.out (below_then HB2.out (below_new _ _))
    generalize clC t.g x = c at *
    generalize clS t.g x = cs at *
    generalize clL t.g x = cl at *
    go_wp2_with fail
    refine bodyPost_ret (v := .agg #[.int .i64 c, .slice none 0 0, .slice none 0 0, .slice none 0 0, .slice none 0 0]) (by simp [results, Tryz.results8, go_sem, *]) rfl ?_
    refine HX.out _ ?_
    repeat (first | with_reducible exact HBx.out _ | with_reducible refine Below.setCell ?_ (by first | omega | (simp <;> omega)) _)
  have H1 : Hid (clC t.g x = 0) := h1
  rw [h1]
  clear h1
  obtain ⟨cs, HCS⟩ : ∃ v, Hid (clS t.g x = v) := ⟨_, rfl⟩
  obtain ⟨cl, HCL⟩ : ∃ v, Hid (clL t.g x = v) := ⟨_, rfl⟩
  rw [HCS.out]
  rw [HCL.out] at HG2 ⊢
  go_wp2_with fail
  refine (implCrash_any t.d k3 F a1 a2 a7 c1 c2 c7 _ HS.out.2.1 hk (HA.out.2.1.below (below_then HB1.out (below_then HB2.out (below_new _ _)))) (HI.out.below (below_then HB1.out (below_then HB2.out (below_new _ _))))).mono ?_
  rintro e w3 ⟨d1, d2, v1, v2, rfl, hb3, ho3⟩
  have HB3 : Hid (Below w2.heap.size w2 w3) := below_then (below_new _ _) hb3
  have hz3 : w2.heap.size + 1 ≤ w3.heap.size := by have := hb3.size; simp at this; omega
  have q20 : w3.cell? ⟨w2.heap.size, 0, none⟩ = some (.int .i64 0) := cell_below (by simp [go_sem]) hb3
  have q22 : w3.cell? ⟨w2.heap.size, 2, none⟩ = some (.slice g1 cl.n1 u1) := cell_below (by simp [go_sem]) hb3
  have q23 : w3.cell? ⟨w2.heap.size, 3, none⟩ = some (.slice g2 cl.n2 u2) := cell_below (by simp [go_sem]) hb3
  have t0 := cell_below r0 HB3.out
  have t1 := cell_below r1 HB3.out
  have t2 := cell_below r2 HB3.out
  have t3 := cell_below r3 HB3.out
  have t4 := cell_below r4 HB3.out
  have tf : ∀ i, w3.frozen? ⟨w.heap.size + 1, i, none⟩ = false := fun i => (HB3.out.frozen (p := ⟨w.heap.size + 1, i, none⟩) (by show w.heap.size + 1 < w2.heap.size; omega)).trans (fz2 i)
  have HD3 : Hid (OwnD w3 (w2.heap.size + 1) w3.heap.size d1 d2 (rD (crC t.d k3 F) (syD t.d F k3))) := by
    have := ho3
    rw [World.size_alloc] at this
    exact this
  have x0 := fun o : Obj => cell_alloc t0 o
  have x1 := fun o : Obj => cell_alloc t1 o
  have x2 := fun o : Obj => cell_alloc t2 o
  have x3 := fun o : Obj => cell_alloc t3 o
  have x4 := fun o : Obj => cell_alloc t4 o
  have y2 := fun o : Obj => cell_alloc q22 o
  have y3 := fun o : Obj => cell_alloc q23 o
  have xf : ∀ (o : Obj) i, (w3.alloc o).frozen? ⟨w.heap.size + 1, i, none⟩ = false := fun o i => ((below_new w3 o).frozen (p := ⟨w.heap.size + 1, i, none⟩) (by show w.heap.size + 1 < w3.heap.size; omega)).trans (tf i)
  have hne : ¬ w2.heap.size = w3.heap.size := by omega
  clear hb3 ho3 q2 q3 r0 r1 r2 r3 r4 fz2 ar2 ar3 s0 s1 s2 s3 s4 sf
  by_cases h2 : crC t.d k3 F = 0
  case neg =>
    have hd : (crC t.d k3 F != 0) = true := by simpa using h2
    have HX : Hid (∀ w', Below w.heap.size w w' → KRes (csC t x k3 F) (csD t x k3 F) (csG t x k3 F) w (.returned (.agg #[.int .i64 (crC t.d k3 F), .slice none 0 0, .slice none 0 0, .slice none 0 0, .slice none 0 0])) w') := fun w' hb => by
      obtain ⟨e1, e2, e3⟩ := cs_bad (x := x) (k := k3) (F := F) (cs_at H0.out H1.out) h2
      rw [e1, e2, e3]; exact kres_bad hb
    have hrd : rD (crC t.d k3 F) (syD t.d F k3) = E0 := by unfold rD; rw [if_neg h2]
    rw [hrd]
    clear h2 HD3 hrd
    have HBx : Hid (∀ o, Below w.heap.size w (w3.alloc o)) := fun o => below_then HB1.out (below_then HB2.out (below_then HB3.out (below_new _ _)))
    generalize crC t.d k3 F = c at *
    generalize E0 = E at *
    go_wp2_with fail
    refine bodyPost_ret (v := .agg #[.int .i64 c, .slice none 0 0, .slice none 0 0, .slice none 0 0, .slice none 0 0]) (by simp [results, Tryz.results8, go_sem, *]) rfl ?_
    refine HX.out _ ?_
    repeat (first | with_reducible exact HBx.out _ | with_reducible refine Below.setCell ?_ (by first | omega | (simp <;> omega)) _)
  have HX : Hid (∀ w4 w' (o : Obj), w4 = w3.alloc o → Writes (w.heap.size + 1) (w.heap.size + 2) w4 w' → w'.heap.size = w4.heap.size → KRes (csC t x k3 F) (csD t x k3 F) (csG t x k3 F) w (.returned (.agg #[.int .i64 0, .slice d1 (rD 0 (syD t.d F k3)).n v1, .slice d2 (rD 0 (syD t.d F k3)).m v2, .slice g1 cl.n1 u1, .slice g2 cl.n2 u2])) w') := fun w4 w' o ho hw hs => by
    subst ho
    obtain ⟨e1, e2, e3⟩ := cs_ok ((cs_at (k := k3) (F := F) H0.out H1.out).trans h2)
    have hr0 : rD 0 (syD t.d F k3) = syD t.d F k3 := by unfold rD; rw [if_pos rfl]
    rw [e1, e2, e3, HCL.out, hr0]
    have hd := HD3.out
    rw [h2, hr0] at hd
    exact kres_ok (w3 := w3) HB1.out hz1 HB2.out (below_then HB3.out (below_new _ _)) HG2.out (Nat.le_succ _) (hd.below (below_new _ _)) (by rw [World.size_alloc]; omega) hz3 hw hs
  rw [h2]
  clear h2 HD3
  generalize rD 0 (syD t.d F k3) = E at *
  go_wp2_with fail
  refine bodyPost_ret (v := .agg #[.int .i64 0, .slice d1 E.n v1, .slice d2 E.m v2, .slice g1 cl.n1 u1, .slice g2 cl.n2 u2]) (by simp [results, Tryz.results8, go_sem, *]) rfl ?_
  refine HX.out (w3.alloc (.cells #[.int .i64 0, .slice d1 E.n v1, .slice d2 E.m v2] 65)) _ _ rfl ?_ (by simp)
  repeat (first | with_reducible exact Writes.refl _ _ _ | with_reducible refine Writes.setCell ?_ (by first | omega | (simp <;> omega)) (by first | omega | (simp <;> omega)) _)
set_option maxHeartbeats 8000000 in
theorem specCs_any (t : Sto) (a0 : Option Addr) (c0 : Nat) (a1 : Option Addr) (c1 : Nat) (a2 : Option Addr) (c2 : Nat) (a3 : Option Addr) (c3 : Nat) (a4 : Option Addr) (c4 : Nat) (a5 : Option Addr) (c5 : Nat) (a6 : Option Addr) (c6 : Nat) (x : Int) (k3 : Nat) (F : Nat → Int) (a7 : Option Addr) (c7 : Nat) (w : World) (hS : SmSt t) (hby : LogByt t.g) (hk : k3 ≤ 1048576) (hcap : t.g.n2 ≤ c4) (h : InSt w a0 a1 a2 a3 a4 a5 a6 t) (h3 : IntsAt w a7 k3 F) :
    Calls Tryz.prog 5 #[.agg #[.int .i64 t.nx, .slice a0 t.pn c0, .slice a1 t.d.n c1, .slice a2 t.d.m c2, .slice a3 t.g.n1 c3, .slice a4 t.g.n2 c4, .slice a5 t.hn c5, .slice a6 t.on c6], .int .i64 x, .slice a7 k3 c7] w (KRd (csC t x k3 F) (csD t x k3 F) (csG t x k3 F) w) := by
  have hb0 : ∀ o1 o2, Below w.heap.size w ((w.alloc o1).alloc o2) := fun o1 o2 => ((Below.refl _ _).alloc (Nat.le_refl _) _).alloc (by simp) _
  have HA : Hid (InSt w a0 a1 a2 a3 a4 a5 a6 t) := h
  have HI : Hid (IntsAt w a7 k3 F) := h3
  have HY : Hid (LogByt t.g) := hby
  have HS : Hid (SmSt t) := hS
  clear h h3 hby hS
  go_enter Tryz.func5, Tryz.ntmps5
  go_wp2_with fail
  refine (l12Fault_any t w.heap.size a0 c0 a1 c1 a2 c2 a3 c3 a4 c4 a5 c5 a6 c6 _ HS.out HY.out ((BoxS.new w _ _ _ _ _ _ _ _ _).alloc _) (HA.out.below (hb0 _ _))).mono ?_
  rintro e w1 ⟨rfl, hb1⟩
  obtain ⟨hcc, hff⟩ := bcell hb1
  have hz1 : w.heap.size + 2 ≤ w1.heap.size := by have := hb1.size; simp at this; omega
  have q2 : w1.cell? ⟨w.heap.size, 2, none⟩ = some (.slice a1 t.d.n c1) := by rw [hcc _ _ (by simp <;> omega)]; simp [go_sem]
  have q3 : w1.cell? ⟨w.heap.size, 3, none⟩ = some (.slice a2 t.d.m c2) := by rw [hcc _ _ (by simp <;> omega)]; simp [go_sem]
  have q4 : w1.cell? ⟨w.heap.size, 4, none⟩ = some (.slice a3 t.g.n1 c3) := by rw [hcc _ _ (by simp <;> omega)]; simp [go_sem]
  have q5 : w1.cell? ⟨w.heap.size, 5, none⟩ = some (.slice a4 t.g.n2 c4) := by rw [hcc _ _ (by simp <;> omega)]; simp [go_sem]
  have r0 : w1.cell? ⟨w.heap.size + 1, 0, none⟩ = some (.int .i64 0) := by rw [hcc _ _ (by simp <;> omega)]; simp [go_sem]
  have r1 : w1.cell? ⟨w.heap.size + 1, 1, none⟩ = some (.slice none 0 0) := by rw [hcc _ _ (by simp <;> omega)]; simp [go_sem]
  have r2 : w1.cell? ⟨w.heap.size + 1, 2, none⟩ = some (.slice none 0 0) := by rw [hcc _ _ (by simp <;> omega)]; simp [go_sem]
  have r3 : w1.cell? ⟨w.heap.size + 1, 3, none⟩ = some (.slice none 0 0) := by rw [hcc _ _ (by simp <;> omega)]; simp [go_sem]
  have r4 : w1.cell? ⟨w.heap.size + 1, 4, none⟩ = some (.slice none 0 0) := by rw [hcc _ _ (by simp <;> omega)]; simp [go_sem]
  have fz : ∀ i, w1.frozen? ⟨w.heap.size + 1, i, none⟩ = false := fun i => by rw [hff _ _ (by simp <;> omega)]; simp [go_sem]
  have HB1 : Hid (Below w.heap.size w w1) := below_then (hb0 _ _) hb1
  clear hcc hff hb1 hb0
  by_cases h0 : stF t = 0
  case neg =>
    have hd : (stF t != 0) = true := by simpa using h0
    have HX : Hid (∀ w', Below w.heap.size w w' → KRd (csC t x k3 F) (csD t x k3 F) (csG t x k3 F) w (.returned (.agg #[.int .i64 (stF t), .slice none 0 0, .slice none 0 0, .slice none 0 0, .slice none 0 0])) w') := fun w' hb => by
      obtain ⟨e1, e2, e3⟩ := cs_bad (x := x) (k := k3) (F := F) (cs_st h0) h0
      rw [e1, e2, e3]; exact krd_bad hb
    clear h0
    generalize stF t = c at *
    go_wp2_with fail
    refine bodyPost_ret (v := .agg #[.int .i64 c, .slice none 0 0, .slice none 0 0, .slice none 0 0, .slice none 0 0]) (by simp [results, Tryz.results5, go_sem, *]) rfl ?_
    refine HX.out _ ?_
    repeat (first | with_reducible exact HB1.out | with_reducible refine Below.setCell ?_ (by first | omega | (simp <;> omega)) _)
  have H0 : Hid (stF t = 0) := h0
  rw [h0]
  clear h0
  go_wp2_with fail
  refine (specCl_any t.g a3 a4 c3 c4 x _ HS.out.2.2.1.1 HS.out.2.2.1.2 hcap HY.out (HA.out.2.2.1.below HB1.out)).mono ?_
  rintro e w2 ⟨g1, g2, u1, u2, rfl, hb2, ho2⟩
  have HB2 : Hid (Below w1.heap.size w1 w2) := hb2
  have HG2 : Hid (OwnG w2 w1.heap.size w2.heap.size g1 g2 (clL t.g x)) := ho2
  have hz2 : w1.heap.size ≤ w2.heap.size := hb2.size
  replace q2 := cell_below q2 hb2
  replace q3 := cell_below q3 hb2
  replace r0 := cell_below r0 hb2
  replace r1 := cell_below r1 hb2
  replace r2 := cell_below r2 hb2
  replace r3 := cell_below r3 hb2
  replace r4 := cell_below r4 hb2
  have fz2 : ∀ i, w2.frozen? ⟨w.heap.size + 1, i, none⟩ = false := fun i => (HB2.out.frozen (p := ⟨w.heap.size + 1, i, none⟩) (by show w.heap.size + 1 < w1.heap.size; omega)).trans (fz i)
  have ar2 := fun o : Obj => cell_alloc q2 o
  have ar3 := fun o : Obj => cell_alloc q3 o
  have s0 := fun o : Obj => cell_alloc r0 o
  have s1 := fun o : Obj => cell_alloc r1 o
  have s2 := fun o : Obj => cell_alloc r2 o
  have s3 := fun o : Obj => cell_alloc r3 o
  have s4 := fun o : Obj => cell_alloc r4 o
  have sf : ∀ (o : Obj) i, (w2.alloc o).frozen? ⟨w.heap.size + 1, i, none⟩ = false := fun o i => ((below_new w2 o).frozen (p := ⟨w.heap.size + 1, i, none⟩) (by show w.heap.size + 1 < w2.heap.size; omega)).trans (fz2 i)
  clear hb2 ho2 q4 q5 fz
  by_cases h1 : clC t.g x = 0
  case neg =>
    have hd : (clC t.g x != 0) = true := by simpa using h1
    have HX : Hid (∀ w', Below w.heap.size w w' → KRd (csC t x k3 F) (csD t x k3 F) (csG t x k3 F) w (.returned (.agg #[.int .i64 (clC t.g x), .slice none 0 0, .slice none 0 0, .slice none 0 0, .slice none 0 0])) w') := fun w' hb => by
      obtain ⟨e1, e2, e3⟩ := cs_bad (x := x) (k := k3) (F := F) (cs_log H0.out h1) h1
      rw [e1, e2, e3]; exact krd_bad hb
    clear h1
    have HBx : Hid (∀ o, Below w.heap.size w (w2.alloc o)) := fun o => below_then HB1.out (below_then HB2.out (below_new _ _))
    generalize clC t.g x = c at *
    generalize clS t.g x = cs at *
    generalize clL t.g x = cl at *
    go_wp2_with fail
    refine bodyPost_ret (v := .agg #[.int .i64 c, .slice none 0 0, .slice none 0 0, .slice none 0 0, .slice none 0 0]) (by simp [results, Tryz.results5, go_sem, *]) rfl ?_
    refine HX.out _ ?_
    repeat (first | with_reducible exact HBx.out _ | with_reducible refine Below.setCell ?_ (by first | omega | (simp <;> omega)) _)
  have H1 : Hid (clC t.g x = 0) := h1
  rw [h1]
  clear h1
  obtain ⟨cs, HCS⟩ : ∃ v, Hid (clS t.g x = v) := ⟨_, rfl⟩
  obtain ⟨cl, HCL⟩ : ∃ v, Hid (clL t.g x = v) := ⟨_, rfl⟩
  rw [HCS.out]
  rw [HCL.out] at HG2 ⊢
  go_wp2_with fail
  refine (specCrash_any t.d k3 F a1 a2 a7 c1 c2 c7 _ HS.out.2.1 hk (HA.out.2.1.below (below_then HB1.out (below_then HB2.out (below_new _ _)))) (HI.out.below (below_then HB1.out (below_then HB2.out (below_new _ _))))).mono ?_
  rintro e w3 ⟨d1, d2, v1, v2, rfl, hb3, ho3⟩
  have HB3 : Hid (Below w2.heap.size w2 w3) := below_then (below_new _ _) hb3
  have hz3 : w2.heap.size + 1 ≤ w3.heap.size := by have := hb3.size; simp at this; omega
  have q20 : w3.cell? ⟨w2.heap.size, 0, none⟩ = some (.int .i64 0) := cell_below (by simp [go_sem]) hb3
  have q22 : w3.cell? ⟨w2.heap.size, 2, none⟩ = some (.slice g1 cl.n1 u1) := cell_below (by simp [go_sem]) hb3
  have q23 : w3.cell? ⟨w2.heap.size, 3, none⟩ = some (.slice g2 cl.n2 u2) := cell_below (by simp [go_sem]) hb3
  have t0 := cell_below r0 HB3.out
  have t1 := cell_below r1 HB3.out
  have t2 := cell_below r2 HB3.out
  have t3 := cell_below r3 HB3.out
  have t4 := cell_below r4 HB3.out
  have tf : ∀ i, w3.frozen? ⟨w.heap.size + 1, i, none⟩ = false := fun i => (HB3.out.frozen (p := ⟨w.heap.size + 1, i, none⟩) (by show w.heap.size + 1 < w2.heap.size; omega)).trans (fz2 i)
  have HD3 : Hid (OwnR w3 (w2.heap.size + 1) w3.heap.size d1 d2 (rD (crC t.d k3 F) (syD t.d F k3))) := by
    have := ho3
    rw [World.size_alloc] at this
    exact this
  have x0 := fun o : Obj => cell_alloc t0 o
  have x1 := fun o : Obj => cell_alloc t1 o
  have x2 := fun o : Obj => cell_alloc t2 o
  have x3 := fun o : Obj => cell_alloc t3 o
  have x4 := fun o : Obj => cell_alloc t4 o
  have y2 := fun o : Obj => cell_alloc q22 o
  have y3 := fun o : Obj => cell_alloc q23 o
  have xf : ∀ (o : Obj) i, (w3.alloc o).frozen? ⟨w.heap.size + 1, i, none⟩ = false := fun o i => ((below_new w3 o).frozen (p := ⟨w.heap.size + 1, i, none⟩) (by show w.heap.size + 1 < w3.heap.size; omega)).trans (tf i)
  have hne : ¬ w2.heap.size = w3.heap.size := by omega
  clear hb3 ho3 q2 q3 r0 r1 r2 r3 r4 fz2 ar2 ar3 s0 s1 s2 s3 s4 sf
  by_cases h2 : crC t.d k3 F = 0
  case neg =>
    have hd : (crC t.d k3 F != 0) = true := by simpa using h2
    have HX : Hid (∀ w', Below w.heap.size w w' → KRd (csC t x k3 F) (csD t x k3 F) (csG t x k3 F) w (.returned (.agg #[.int .i64 (crC t.d k3 F), .slice none 0 0, .slice none 0 0, .slice none 0 0, .slice none 0 0])) w') := fun w' hb => by
      obtain ⟨e1, e2, e3⟩ := cs_bad (x := x) (k := k3) (F := F) (cs_at H0.out H1.out) h2
      rw [e1, e2, e3]; exact krd_bad hb
    have hrd : rD (crC t.d k3 F) (syD t.d F k3) = E0 := by unfold rD; rw [if_neg h2]
    rw [hrd]
    clear h2 HD3 hrd
    have HBx : Hid (∀ o, Below w.heap.size w (w3.alloc o)) := fun o => below_then HB1.out (below_then HB2.out (below_then HB3.out (below_new _ _)))
    generalize crC t.d k3 F = c at *
    generalize E0 = E at *
    go_wp2_with fail
    refine bodyPost_ret (v := .agg #[.int .i64 c, .slice none 0 0, .slice none 0 0, .slice none 0 0, .slice none 0 0]) (by simp [results, Tryz.results5, go_sem, *]) rfl ?_
    refine HX.out _ ?_
    repeat (first | with_reducible exact HBx.out _ | with_reducible refine Below.setCell ?_ (by first | omega | (simp <;> omega)) _)
  have HX : Hid (∀ w4 w' (o : Obj), w4 = w3.alloc o → Writes (w.heap.size + 1) (w.heap.size + 2) w4 w' → w'.heap.size = w4.heap.size → KRd (csC t x k3 F) (csD t x k3 F) (csG t x k3 F) w (.returned (.agg #[.int .i64 0, .slice d1 (rD 0 (syD t.d F k3)).n v1, .slice d2 (rD 0 (syD t.d F k3)).m v2, .slice g1 cl.n1 u1, .slice g2 cl.n2 u2])) w') := fun w4 w' o ho hw hs => by
    subst ho
    obtain ⟨e1, e2, e3⟩ := cs_ok ((cs_at (k := k3) (F := F) H0.out H1.out).trans h2)
    have hr0 : rD 0 (syD t.d F k3) = syD t.d F k3 := by unfold rD; rw [if_pos rfl]
    rw [e1, e2, e3, HCL.out, hr0]
    have hd := HD3.out
    rw [h2, hr0] at hd
    exact krd_ok (w3 := w3) HB1.out hz1 HB2.out (below_then HB3.out (below_new _ _)) HG2.out (Nat.le_succ _) (hd.below (below_new _ _)) (by rw [World.size_alloc]; omega) hz3 hw hs
  rw [h2]
  clear h2 HD3
  generalize rD 0 (syD t.d F k3) = E at *
  go_wp2_with fail
  refine bodyPost_ret (v := .agg #[.int .i64 0, .slice d1 E.n v1, .slice d2 E.m v2, .slice g1 cl.n1 u1, .slice g2 cl.n2 u2]) (by simp [results, Tryz.results5, go_sem, *]) rfl ?_
  refine HX.out (w3.alloc (.cells #[.int .i64 0, .slice d1 E.n v1, .slice d2 E.m v2] 65)) _ _ rfl ?_ (by simp)
  repeat (first | with_reducible exact Writes.refl _ _ _ | with_reducible refine Writes.setCell ?_ (by first | omega | (simp <;> omega)) (by first | omega | (simp <;> omega)) _)
end Go.Proofs.YtldnfiadafmomaaGreat
