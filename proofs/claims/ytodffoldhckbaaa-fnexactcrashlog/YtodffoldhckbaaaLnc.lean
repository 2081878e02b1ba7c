/- Both FlushLogs and CrashLogs, and the law FnExactCrashLog (Ln, Lx, Ly and Cll in one). -/
import Derived.Test.YtodffoldhckbaaaLkm
namespace Go.Proofs.Ytodffoldhckbaaa
open Go.RowKit Go.Deep
set_option linter.unusedVariables false
set_option maxRecDepth 20000

/-- The log that FlushLog leaves. -/
def flL (L : Lo) : Lo := if lgC L = 0 then ⟨L.n1 + L.n2, aZ L, 0, fun _ => 0⟩ else ⟨0, fun _ => 0, 0, fun _ => 0⟩
def flS (L : Lo) : Int := if lgC L = 0 then cnt (aZ L) (L.n1 + L.n2) else 0
/-- An answer that is a log. -/
def LRes (c s : Int) (L : Lo) (w : World) (e : Ending) (w' : World) : Prop :=
  ∃ a1 a2 c1 c2, e = .returned (.agg #[.int .i64 c, .int .i64 s, .slice a1 L.n1 c1, .slice a2 L.n2 c2]) ∧ Below w.heap.size w w' ∧ OwnG w' w.heap.size w'.heap.size a1 a2 L
theorem lres_bad {L : Lo} {w w' : World} (hb : Below w.heap.size w w') (hc : lgC L ≠ 0) : LRes (lgC L) (flS L) (flL L) w (.returned (.agg #[.int .i64 (lgC L), .int .i64 0, .slice none 0 0, .slice none 0 0])) w' := by
  unfold LRes flS flL
  rw [if_neg hc, if_neg hc]
  exact ⟨none, none, 0, 0, rfl, hb, Nat.le_refl _, w.heap.size, w.heap.size, w.heap.size, w.heap.size, Nat.le_refl _, hb.size, Nat.le_refl _, hb.size, .inl (Nat.le_refl _), ⟨hb.size, .inl rfl⟩, ⟨hb.size, .inl rfl⟩⟩
theorem lres_ok {L : Lo} {w wq w' : World} {a : Option Addr} {cap lo : Nat} (hc : lgC L = 0) (hB : Below w.heap.size w wq) (hlo : w.heap.size + 2 ≤ lo) (ho : OwnB wq lo wq.heap.size a (L.n1 + L.n2) (aZ L)) (hw : Writes (w.heap.size + 1) (w.heap.size + 2) wq w') (hs : w'.heap.size = wq.heap.size) :
    LRes (lgC L) (flS L) (flL L) w (.returned (.agg #[.int .i64 0, .int .i64 (cnt (aZ L) (L.n1 + L.n2)), .slice a (L.n1 + L.n2) cap, .slice none 0 0])) w' := by
  unfold LRes flS flL
  rw [if_pos hc, if_pos hc, hc]
  have hz := hB.size
  have h2 := (ho.writes hw (.inr hlo)).wide (lo' := w.heap.size) (hi' := wq.heap.size) (by omega) (Nat.le_refl _) (by omega)
  refine ⟨a, none, cap, 0, rfl, Writes.below hB hw (by omega), ?_⟩
  rw [hs]
  exact ⟨by omega, w.heap.size, wq.heap.size, w.heap.size, w.heap.size, Nat.le_refl _, Nat.le_refl _, Nat.le_refl _, hz, .inr (Nat.le_refl _), h2, ⟨by omega, .inl rfl⟩⟩
theorem lgC_zero {L : Lo} (h : lgC L = 0) : L.n1 + L.n2 ≤ 4000 ∧ 13 * cnt (aZ L) (L.n1 + L.n2) = L.n1 + L.n2 := by
  unfold lgC at h
  by_cases h1 : 4000 < L.n1 + L.n2
  · rw [if_pos h1] at h; omega
  · rw [if_neg h1] at h
    by_cases h2 : 13 * cnt (aZ L) (L.n1 + L.n2) = L.n1 + L.n2
    · exact ⟨by omega, h2⟩
    · rw [if_neg h2] at h; omega
theorem cells7 {w1 w2 : World} {B : Nat} {x0 x1 y0 y1 y2 y3 : Value} (hb : Below w1.heap.size w1 w2) (h0 : w1.cell? ⟨B, 0, none⟩ = some x0) (h1 : w1.cell? ⟨B, 1, none⟩ = some x1)
    (k0 : w1.cell? ⟨B + 1, 0, none⟩ = some y0) (k1 : w1.cell? ⟨B + 1, 1, none⟩ = some y1) (k2 : w1.cell? ⟨B + 1, 2, none⟩ = some y2) (k3 : w1.cell? ⟨B + 1, 3, none⟩ = some y3) (hf : ∀ i, w1.frozen? ⟨B + 1, i, none⟩ = false) :
    w2.cell? ⟨B, 0, none⟩ = some x0 ∧ w2.cell? ⟨B, 1, none⟩ = some x1 ∧ w2.cell? ⟨B + 1, 0, none⟩ = some y0 ∧ w2.cell? ⟨B + 1, 1, none⟩ = some y1 ∧ w2.cell? ⟨B + 1, 2, none⟩ = some y2 ∧ w2.cell? ⟨B + 1, 3, none⟩ = some y3 ∧ ∀ i, w2.frozen? ⟨B + 1, i, none⟩ = false :=
  ⟨cell_below h0 hb, cell_below h1 hb, cell_below k0 hb, cell_below k1 hb, cell_below k2 hb, cell_below k3 hb, fun i => (hb.frozen (p := ⟨B + 1, i, none⟩) (by have := Go.block_lt_of_cell k0; exact this)).trans (hf i)⟩
set_option maxHeartbeats 4000000 in
theorem specFl_any (L : Lo) (a1 a2 : Option Addr) (c1 c2 : Nat) (w : World) (hn1 : L.n1 ≤ 1048576) (hn2 : L.n2 ≤ 1048576) (hby : LogByt L) (h : LogAt w a1 a2 L) :
    Calls Try.prog 32 #[.agg #[.slice a1 L.n1 c1, .slice a2 L.n2 c2]] w (LRes (lgC L) (flS L) (flL L) w) := by
  have hb0 : ∀ o1 o2, Below w.heap.size w ((w.alloc o1).alloc o2) := fun o1 o2 => ((Below.refl _ _).alloc (Nat.le_refl _) _).alloc (by simp) _
  have HA : Hid (LogAt w a1 a2 L) := h
  have HY : Hid (LogByt L) := hby
  clear h hby
  go_enter Try.func32, Try.ntmps32
  go_wp2_with fail
  refine (specLf_any L a1 a2 c1 c2 _ hn1 hn2 HY.out (HA.out.below (hb0 _ _))).mono ?_
  rintro e w1 ⟨rfl, hb1⟩
  obtain ⟨hcc, hff⟩ := bcell hb1
  have hz1 : w.heap.size + 2 ≤ w1.heap.size := by have := hb1.size; simp at this; omega
  have q0 : w1.cell? ⟨w.heap.size, 0, none⟩ = some (.slice a1 L.n1 c1) := by rw [hcc _ _ (by simp <;> omega)]; simp [go_sem]
  have q1 : w1.cell? ⟨w.heap.size, 1, none⟩ = some (.slice a2 L.n2 c2) := by rw [hcc _ _ (by simp <;> omega)]; simp [go_sem]
  have r0 : w1.cell? ⟨w.heap.size + 1, 0, none⟩ = some (.int .i64 0) := by rw [hcc _ _ (by simp <;> omega)]; simp [go_sem]
  have r1 : w1.cell? ⟨w.heap.size + 1, 1, none⟩ = some (.int .i64 0) := by rw [hcc _ _ (by simp <;> omega)]; simp [go_sem]
  have r2 : w1.cell? ⟨w.heap.size + 1, 2, none⟩ = some (.slice none 0 0) := by rw [hcc _ _ (by simp <;> omega)]; simp [go_sem]
  have r3 : w1.cell? ⟨w.heap.size + 1, 3, none⟩ = some (.slice none 0 0) := by rw [hcc _ _ (by simp <;> omega)]; simp [go_sem]
  have fz : ∀ i, w1.frozen? ⟨w.heap.size + 1, i, none⟩ = false := fun i => by rw [hff _ _ (by simp <;> omega)]; simp [go_sem]
  have HB1 : Hid (Below w.heap.size w w1) := below_then (hb0 _ _) hb1
  clear hcc hff hb1 hb0
  by_cases hc : lgC L = 0
  · have HC : Hid (lgC L = 0) := hc
    obtain ⟨hle, hcnt⟩ := lgC_zero hc
    have HQ : Hid ((((L.n1 + L.n2) / 13 : Nat) : Int) = (cnt (aZ L) (L.n1 + L.n2) : Int)) := by show _ = _; omega
    have hle2 : L.n1 + L.n2 ≤ 1048576 := by omega
    have hle3 : L.n1 + L.n2 ≤ 90000 := by omega
    rw [hc]
    clear hc hcnt
    go_wp2_with fail
    go_region_law (first | (go_simp; go_at_call 38; refine (l3Count_any L a1 a2 c1 c2 _ hle2).mono ?_; rintro e wa ⟨rfl, hba⟩; rw [HQ.out]; first | (have hA1 := below_then hF1 hba; have hoA := ho2.below hba; obtain ⟨s0, s1, s2, s3, s4, s5, sf⟩ := cells7 hA1 q0 q1 r0 r1 r2 r3 fz; have HB3 : Hid (Below w.heap.size w wa) := below_then HB1.out hA1; have HO3 : Hid (OwnB wa w1.heap.size wa.heap.size ra (L.n1 + L.n2) (aZ L)) := hoA.wide (Nat.le_refl _) hba.size (Nat.le_refl _)) | (have hA1 := drewB6 hba; obtain ⟨s0, s1, s2, s3, s4, s5, sf⟩ := cells7 hA1 q0 q1 r0 r1 r2 r3 fz)) | (go_simp; go_at_call 67; refine (l3Flush_any L a1 a2 c1 c2 _ hle3 ?_).mono ?_; (first | exact HA.out.below (below_then HB1.out hA1) | exact HA.out.below HB1.out.drew); rintro e wb ⟨ra, rc, rfl, hbb, ho2⟩; first | (have hF2 := below_then hA1 hbb; obtain ⟨t0, t1, t2, t3, t4, t5, tf⟩ := cells7 hF2 q0 q1 r0 r1 r2 r3 fz; have HB3 : Hid (Below w.heap.size w wb) := below_then HB1.out hF2; have HO3 : Hid (OwnB wb w1.heap.size wb.heap.size ra (L.n1 + L.n2) (aZ L)) := ho2.wide hA1.size (Nat.le_refl _) (Nat.le_refl _)) | (have hF1 := drewB6 hbb; obtain ⟨t0, t1, t2, t3, t4, t5, tf⟩ := cells7 hF1 q0 q1 r0 r1 r2 r3 fz)))
    all_goals
      go_wp2_with fail
      refine bodyPost_ret (v := .agg #[.int .i64 0, .int .i64 (cnt (aZ L) (L.n1 + L.n2)), .slice ra (L.n1 + L.n2) rc, .slice none 0 0]) (by simp [results, Try.results32, go_sem, *]) rfl ?_
      refine lres_ok HC.out HB3.out hz1 HO3.out ?_ (by simp [World.setCell])
      repeat (first | exact Writes.refl _ _ _ | refine Writes.setCell ?_ (by first | omega | (simp <;> omega)) (by first | omega | (simp <;> omega)) _)
  · have hd : (lgC L != 0) = true := by simpa using hc
    have HN : Hid (lgC L ≠ 0) := hc
    have HX : Hid (∀ w', Below w.heap.size w w' → LRes (lgC L) (flS L) (flL L) w (.returned (.agg #[.int .i64 (lgC L), .int .i64 0, .slice none 0 0, .slice none 0 0])) w') := fun w' hb => lres_bad hb hc
    clear hc
    generalize lgC L = c at *
    go_wp2_with fail
    refine bodyPost_ret (v := .agg #[.int .i64 c, .int .i64 0, .slice none 0 0, .slice none 0 0]) (by simp [results, Try.results32, go_sem, *]) rfl ?_
    refine HX.out _ ?_
    repeat (first | exact HB1.out | refine Below.setCell ?_ (by first | omega | (simp <;> omega)) _)
theorem joined_twoG (L : Lo) (a1 a2 : Option Addr) (c1 c2 g : Nat) (w : World) (hs : L.n1 + L.n2 ≤ 90000) (h0 : w.cell? ⟨g, 0, none⟩ = some (.slice a1 L.n1 c1)) (h1 : w.cell? ⟨g, 1, none⟩ = some (.slice a2 L.n2 c2)) (h : LogAt w a1 a2 L) :
    Calls Try.prog 42 #[.slice (some ⟨g, 0, none⟩) 2 2] w fun e w' => ∃ ra rc, e = .returned (.slice ra (L.n1 + L.n2) rc) ∧ L.n1 + L.n2 ≤ rc ∧ Below w.heap.size w w' ∧ BytesAt w' ra (L.n1 + L.n2) (aZ L) := by
  refine (joined_any 2 (two' a1 a2) (two' L.n1 L.n2) (two' c1 c2) (two' L.z1 L.z2) g 0 2 _ (by simp [sumL, two']; omega) (Go.block_lt_of_cell h0) (fun i hi => ?_) (by omega)).mono ?_
  · rcases (by omega : i = 0 ∨ i = 1) with rfl | rfl
    · exact ⟨h0, h.1⟩
    · exact ⟨h1, h.2⟩
  · rintro e w' ⟨v, rfl, hb1, ho⟩
    rw [jn_two] at ho
    obtain ⟨ra, rc, rfl, hrc, hown⟩ := (allAt_of ho).own
    exact ⟨ra, rc, rfl, hrc, hb1, hown.at⟩
theorem two_at (X : World) (x y : Value) (t : TypeId) : (X.alloc (.cells #[x, y] t)).cell? ⟨X.heap.size, 0, none⟩ = some x ∧ (X.alloc (.cells #[x, y] t)).cell? ⟨X.heap.size, 1, none⟩ = some y := ⟨by simp, by simp⟩
theorem two_at2 (w : World) (o : Obj) (x y : Value) (t : TypeId) : ((w.alloc o).alloc (.cells #[x, y] t)).drew.cell? ⟨w.heap.size + 1, 0, none⟩ = some x ∧ ((w.alloc o).alloc (.cells #[x, y] t)).drew.cell? ⟨w.heap.size + 1, 1, none⟩ = some y := by
  have h := two_at (w.alloc o) x y t
  rw [World.size_alloc] at h
  exact h
theorem drewB7 {w : World} {o1 o2 : Obj} {w2 : World} (hb : Below ((w.alloc o1).alloc o2).drew.heap.size ((w.alloc o1).alloc o2).drew w2) : Below w.heap.size w w2 := below_then (below_then (below_new _ _) (below_new _ _)) (((Below.refl _ _).drew).trans hb)
theorem box3_at {w w2 : World} {x y z : Value} {t : TypeId} {o2 : Obj} (hb : Below ((w.alloc (.cells #[x, y, z] t)).alloc o2).drew.heap.size ((w.alloc (.cells #[x, y, z] t)).alloc o2).drew w2) :
    w2.cell? ⟨w.heap.size, 0, none⟩ = some x ∧ w2.cell? ⟨w.heap.size, 1, none⟩ = some y ∧ w2.cell? ⟨w.heap.size, 2, none⟩ = some z := by
  have h : Below (w.alloc (.cells #[x, y, z] t)).heap.size (w.alloc (.cells #[x, y, z] t)) w2 := below_then (below_new _ _) (((Below.refl _ _).drew).trans hb)
  exact ⟨cell_below (by simp) h, cell_below (by simp) h, cell_below (by simp) h⟩
set_option maxHeartbeats 4000000 in
theorem implFl_any (L : Lo) (a1 a2 : Option Addr) (c1 c2 : Nat) (w : World) (hn1 : L.n1 ≤ 1048576) (hn2 : L.n2 ≤ 1048576) (hby : LogByt L) (h : LogAt w a1 a2 L) :
    Calls Try.prog 33 #[.agg #[.slice a1 L.n1 c1, .slice a2 L.n2 c2]] w (LRes (lgC L) (flS L) (flL L) w) := by
  have hb0 : ∀ o1 o2, Below w.heap.size w ((w.alloc o1).alloc o2) := fun o1 o2 => ((Below.refl _ _).alloc (Nat.le_refl _) _).alloc (by simp) _
  have HA : Hid (LogAt w a1 a2 L) := h
  have HY : Hid (LogByt L) := hby
  clear h hby
  go_enter Try.func33, Try.ntmps33
  go_wp2_with fail
  refine (readLog_any L a1 a2 c1 c2 _ hn1 hn2 HY.out (HA.out.below (hb0 _ _))).mono ?_
  rintro e w1 ⟨rb, rcp, u, m, rfl, HE, hb1, -⟩
  obtain ⟨hcc, hff⟩ := bcell hb1
  have hz1 : w.heap.size + 2 ≤ w1.heap.size := by have := hb1.size; simp at this; omega
  have q0 : w1.cell? ⟨w.heap.size, 0, none⟩ = some (.slice a1 L.n1 c1) := by rw [hcc _ _ (by simp <;> omega)]; simp [go_sem]
  have q1 : w1.cell? ⟨w.heap.size, 1, none⟩ = some (.slice a2 L.n2 c2) := by rw [hcc _ _ (by simp <;> omega)]; simp [go_sem]
  have r0 : w1.cell? ⟨w.heap.size + 1, 0, none⟩ = some (.int .i64 0) := by rw [hcc _ _ (by simp <;> omega)]; simp [go_sem]
  have r1 : w1.cell? ⟨w.heap.size + 1, 1, none⟩ = some (.int .i64 0) := by rw [hcc _ _ (by simp <;> omega)]; simp [go_sem]
  have r2 : w1.cell? ⟨w.heap.size + 1, 2, none⟩ = some (.slice none 0 0) := by rw [hcc _ _ (by simp <;> omega)]; simp [go_sem]
  have r3 : w1.cell? ⟨w.heap.size + 1, 3, none⟩ = some (.slice none 0 0) := by rw [hcc _ _ (by simp <;> omega)]; simp [go_sem]
  have fz : ∀ i, w1.frozen? ⟨w.heap.size + 1, i, none⟩ = false := fun i => by rw [hff _ _ (by simp <;> omega)]; simp [go_sem]
  have p0 := fun o : Obj => cell_alloc q0 o
  have p1 := fun o : Obj => cell_alloc q1 o
  have s0 := fun o : Obj => cell_alloc r0 o
  have s1 := fun o : Obj => cell_alloc r1 o
  have s2 := fun o : Obj => cell_alloc r2 o
  have s3 := fun o : Obj => cell_alloc r3 o
  have sf : ∀ i c t, (w1.alloc (.cells c t)).frozen? ⟨w.heap.size + 1, i, none⟩ = false := fun i c t => by rw [frozen?_alloc_cells]; exact fz i
  have HB1 : Hid (Below w.heap.size w w1) := below_then (hb0 _ _) hb1
  clear hcc hff hb1 hb0
  by_cases hc : lgC L = 0
  · have HC : Hid (lgC L = 0) := hc
    obtain ⟨hle, hcnt⟩ := lgC_zero hc
    obtain ⟨hm, hu⟩ := HE.out
    rw [if_pos hc] at hm
    have hu2 : u = ((L.n1 + L.n2 : Nat) : Int) := by rw [hu, hm]; omega
    subst hu2
    have HM : Hid ((m : Int) = (cnt (aZ L) (L.n1 + L.n2) : Int)) := by show _ = _; rw [hm]
    have hle3 : L.n1 + L.n2 ≤ 90000 := by omega
    rw [hc]
    have HLA : Hid (∀ o1 o2, LogAt ((w1.alloc o1).alloc o2).drew a1 a2 L) := fun o1 o2 => (HA.out.below HB1.out).below (((Below.refl _ _).alloc (Nat.le_refl _) _).alloc (by simp) _).drew
    clear hc hcnt hm hu HE
    go_wp2_with fail
    go_region_law (first | (go_simp; go_at_call 42; refine (joined_twoG L a1 a2 c1 c2 (w1.heap.size + 1) _ hle3 (two_at2 w1 _ _ _ _).1 (two_at2 w1 _ _ _ _).2 (HLA.out _ _)).mono ?_; rintro e w5 ⟨ra, rc, rfl, hrc, hb5, hby5⟩; obtain ⟨y0, y1, y2⟩ := box3_at hb5; have hB5 := drewB7 hb5; obtain ⟨t0, t1, t2, t3, t4, t5, tf⟩ := cells7 hB5 q0 q1 r0 r1 r2 r3 fz) | (go_simp; go_at_call 50; refine (sureLog_any (L.n1 + L.n2) (L.n1 + L.n2) m (aZ L) ra rb rc rcp 0 w5 (Nat.le_refl _) hrc hle3 hby5).mono ?_; rintro e w6 ⟨a6, cp6, rfl, hb6, ho6⟩; obtain ⟨u0, u1, u2, u3, u4, u5, uf⟩ := cells7 hb6 t0 t1 t2 t3 t4 t5 tf; have HB6 : Hid (Below w.heap.size w w6) := below_then HB1.out (below_then hB5 hb6); have HO6 : Hid (OwnB w6 w5.heap.size w6.heap.size a6 (L.n1 + L.n2) (aZ L)) := ho6; have hz5 := Nat.le_trans hz1 hB5.size))
    all_goals
      clear hb5 hby5 hB5 t0 t1 t2 t3 t4 t5 tf hb6 ho6 y0 y1 y2
      rw [HM.out]
      go_wp2_with fail
      refine bodyPost_ret (v := .agg #[.int .i64 0, .int .i64 (cnt (aZ L) (L.n1 + L.n2)), .slice a6 (L.n1 + L.n2) cp6, .slice none 0 0]) (by simp [results, Try.results33, go_sem, *]) rfl ?_
      refine lres_ok HC.out HB6.out hz5 HO6.out ?_ (by simp [World.setCell])
      repeat (first | exact Writes.refl _ _ _ | refine Writes.setCell ?_ (by first | omega | (simp <;> omega)) (by first | omega | (simp <;> omega)) _)
  · have hd : (lgC L != 0) = true := by simpa using hc
    have HX : Hid (∀ w', Below w.heap.size w w' → LRes (lgC L) (flS L) (flL L) w (.returned (.agg #[.int .i64 (lgC L), .int .i64 0, .slice none 0 0, .slice none 0 0])) w') := fun w' hb => lres_bad hb hc
    clear hc HE
    generalize lgC L = c at *
    go_wp2_with fail
    refine bodyPost_ret (v := .agg #[.int .i64 c, .int .i64 0, .slice none 0 0, .slice none 0 0]) (by simp [results, Try.results33, go_sem, *]) rfl ?_
    refine HX.out _ ?_
    repeat (first | exact HB1.out.alloc HB1.out.size _ | refine Below.setCell ?_ (by first | omega | (simp <;> omega)) _)
theorem bool_or3 (b : Bool) : b = true ∨ b = false := by cases b <;> simp
/-- A log of which only the first k of the loose bytes are kept. -/
def cutL (L : Lo) (k : Nat) : Lo := ⟨L.n1, L.z1, k, L.z2⟩
theorem BytesAt.cut {w : World} {a : Option Addr} {n k : Nat} {z : Nat → Int} (h : BytesAt w a n z) (hk : k ≤ n) : BytesAt w a k z := by
  rcases h with h | ⟨b, off, h1, h2, h3⟩
  · exact .inl (by omega)
  · exact .inr ⟨b, off, h1, h2, fun i hi => h3 i (by omega)⟩
theorem LogAt.cut {w : World} {a1 a2 : Option Addr} {L : Lo} {k : Nat} (h : LogAt w a1 a2 L) (hk : k ≤ L.n2) : LogAt w a1 a2 (cutL L k) := ⟨h.1, h.2.cut hk⟩
theorem LogByt.cut {L : Lo} {k : Nat} (h : LogByt L) (hk : k ≤ L.n2) : LogByt (cutL L k) := ⟨h.p, fun i hi => h.q i (by have : i < k := hi; omega)⟩
/-- How many records are left. -/
def clM (L : Lo) (k : Nat) : Nat := cnt (aZ (cutL L k)) (L.n1 + k)
theorem clM_le (L : Lo) (k : Nat) : 13 * clM L k ≤ L.n1 + k := cnt_le _ _
def clC (L : Lo) (x : Int) : Int := if lgC L = 0 then (if inB x 0 (L.n2 : Int) = true then 0 else 3) else lgC L
def clS (L : Lo) (x : Int) : Int := if clC L x = 0 then (clM L x.toNat : Int) else 0
def clL (L : Lo) (x : Int) : Lo := if clC L x = 0 then ⟨13 * clM L x.toNat, aZ (cutL L x.toNat), 0, fun _ => 0⟩ else ⟨0, fun _ => 0, 0, fun _ => 0⟩
theorem cl_bad {L : Lo} {x : Int} (h : lgC L ≠ 0) : clC L x = lgC L ∧ clS L x = 0 ∧ clL L x = ⟨0, fun _ => 0, 0, fun _ => 0⟩ := by
  have e : clC L x = lgC L := if_neg h
  exact ⟨e, if_neg (by rw [e]; exact h), if_neg (by rw [e]; exact h)⟩
theorem cl_range {L : Lo} {x : Int} (h : lgC L = 0) (hx : inB x 0 (L.n2 : Int) = false) : clC L x = 3 ∧ clS L x = 0 ∧ clL L x = ⟨0, fun _ => 0, 0, fun _ => 0⟩ := by
  have e : clC L x = 3 := by unfold clC; rw [if_pos h, if_neg (by simp [hx])]
  exact ⟨e, if_neg (by rw [e]; omega), if_neg (by rw [e]; omega)⟩
theorem cl_ok {L : Lo} {k : Nat} (h : lgC L = 0) (hx : inB (k : Int) 0 (L.n2 : Int) = true) : clC L k = 0 ∧ clS L k = (clM L k : Int) ∧ clL L k = ⟨13 * clM L k, aZ (cutL L k), 0, fun _ => 0⟩ := by
  have e : clC L k = 0 := by unfold clC; rw [if_pos h, if_pos hx]
  refine ⟨e, ?_, ?_⟩
  · unfold clS; rw [if_pos e, Int.toNat_natCast]
  · unfold clL; rw [if_pos e, Int.toNat_natCast]
theorem lres_none {c : Int} {w w' : World} (hb : Below w.heap.size w w') : LRes c 0 ⟨0, fun _ => 0, 0, fun _ => 0⟩ w (.returned (.agg #[.int .i64 c, .int .i64 0, .slice none 0 0, .slice none 0 0])) w' :=
  ⟨none, none, 0, 0, rfl, hb, Nat.le_refl _, w.heap.size, w.heap.size, w.heap.size, w.heap.size, Nat.le_refl _, hb.size, Nat.le_refl _, hb.size, .inl (Nat.le_refl _), ⟨hb.size, .inl rfl⟩, ⟨hb.size, .inl rfl⟩⟩
theorem lres_some {s : Int} {n : Nat} {z : Nat → Int} {w wq w' : World} {a : Option Addr} {cap lo : Nat} (hB : Below w.heap.size w wq) (hlo : w.heap.size + 2 ≤ lo) (ho : OwnB wq lo wq.heap.size a n z) (hw : Writes (w.heap.size + 1) (w.heap.size + 2) wq w') (hs : w'.heap.size = wq.heap.size) :
    LRes 0 s ⟨n, z, 0, fun _ => 0⟩ w (.returned (.agg #[.int .i64 0, .int .i64 s, .slice a n cap, .slice none 0 0])) w' := by
  have hz := hB.size
  have h2 := (ho.writes hw (.inr hlo)).wide (lo' := w.heap.size) (hi' := wq.heap.size) (by omega) (Nat.le_refl _) (by omega)
  refine ⟨a, none, cap, 0, rfl, Writes.below hB hw (by omega), ?_⟩
  rw [hs]
  exact ⟨by omega, w.heap.size, wq.heap.size, w.heap.size, w.heap.size, Nat.le_refl _, Nat.le_refl _, Nat.le_refl _, hz, .inr (Nat.le_refl _), h2, ⟨by omega, .inl rfl⟩⟩
/-- Behind the append to an empty list that was just made. -/
theorem below_grow0 {W w6 : World} {o : Obj} (hg : (W.alloc o).drew.grownBy w6 (some W.heap.size)) : Below W.heap.size W w6 :=
  ((below_new W o).drew).grown hg (by show _ ≤ (W.alloc o).heap.size; rw [World.size_alloc]; omega) (fun q hq => by simp at hq; omega)
theorem own_made0 (W : World) : (W.alloc (.cells #[] 5)).drew.ownsRow W.heap.size 5 1 (.slice (some ⟨W.heap.size, 0, none⟩) 0 0) ([] : List Int).length (bl []) :=
  World.ownsRow_lit (base := W.heap.size) (size := 1) (e := 5) W #[] 0 (Nat.le_refl _) (by unfold maxLen; omega) rfl
theorem ownB_zL {w : World} {lo hi u : Nat} {a : Option Addr} {z : Nat → Int} (h : OwnB w lo hi a u (zOf (zL z u))) : OwnB w lo hi a u z := by
  obtain ⟨h0, h1 | ⟨b, off, ha, hl, hh, hcl, hfr⟩⟩ := h
  · exact ⟨h0, .inl h1⟩
  · exact ⟨h0, .inr ⟨b, off, ha, hl, hh, fun i hi => by rw [hcl i hi]; unfold zOf; rw [zL_get z u i hi], hfr⟩⟩
theorem ownB_row_zL {w : World} {base u : Nat} {v : Value} {z : Nat → Int} (h : w.ownsRow base 5 1 v ([] ++ zL z u).length (bl ([] ++ zL z u))) : ∃ a cap, v = .slice a u cap ∧ OwnB w base w.heap.size a u z := by
  rw [List.nil_append] at h
  obtain ⟨a, cap, e, h2⟩ := ownB_of_row h
  rw [zL_len] at h2 e
  exact ⟨a, cap, e, ownB_zL h2⟩
theorem bytes_of_cond {w : World} {n b : Nat} {ra : Option Addr} {z : Nat → Int} (h : n = 0 ∨ ra = some ⟨b, 0, none⟩ ∧ b < w.heap.size ∧ BA w b 0 n z) : BytesAt w ra n z := by
  rcases h with h | ⟨h1, h2, h3⟩
  · exact .inl h
  · exact .inr ⟨b, 0, h1, h2, h3⟩
set_option maxHeartbeats 4000000 in
theorem l3Crash_any (L : Lo) (a1 a2 : Option Addr) (c1 c2 k : Nat) (w : World) (hs : L.n1 + L.n2 ≤ 4000) (hk : k ≤ L.n2) (hcap : L.n2 ≤ c2) (hby : LogByt L) (h : LogAt w a1 a2 L) :
    Calls Try.prog 47 #[.agg #[.slice a1 L.n1 c1, .slice a2 L.n2 c2], .int .i64 k] w fun e w' => ∃ ra rc, e = .returned (.agg #[.slice ra (13 * clM L k) rc, .slice none 0 0]) ∧ Below w.heap.size w w' ∧ OwnB w' w.heap.size w'.heap.size ra (13 * clM L k) (aZ (cutL L k)) := by
  have HA : Hid (LogAt w a1 a2 (cutL L k)) := h.cut hk
  have HY : Hid (LogByt (cutL L k)) := hby.cut hk
  have hkc : (k : Int) ≤ (c2 : Int) := by omega
  have hk0 : (0 : Int) ≤ (k : Int) := by omega
  have HBX : Hid (∀ o1 o2 : Obj, o1 = .cells #[.slice a1 L.n1 c1, .slice a2 L.n2 c2] 28 → o2 = .cells #[.slice none 0 0, .slice none 0 0] 28 → Box2 ((w.alloc o1).alloc o2) w.heap.size (.slice a1 L.n1 c1) (.slice a2 L.n2 c2) ∧ Box2 ((w.alloc o1).alloc o2) (w.heap.size + 1) (.slice none 0 0) (.slice none 0 0) ∧ (∀ i, ((w.alloc o1).alloc o2).frozen? ⟨w.heap.size + 1, i, none⟩ = false) ∧ Below w.heap.size w ((w.alloc o1).alloc o2) ∧ ((w.alloc o1).alloc o2).heap.size = w.heap.size + 2) := by
    rintro o1 o2 rfl rfl
    exact ⟨⟨by simp [go_sem], by simp [go_sem]⟩, ⟨by simp [go_sem], by simp [go_sem]⟩, fun i => by simp [go_sem], ((Below.refl _ _).alloc (Nat.le_refl _) _).alloc (by simp) _, by simp⟩
  have hL2 : L.n1 + k ≤ 4000 := by omega
  clear h hby
  go_enter Try.func47, Try.ntmps47
  go_upto_region 1 with fail
  obtain ⟨W, hW⟩ : ∃ x, x = (w.alloc (.cells #[.slice a1 L.n1 c1, .slice a2 L.n2 c2] 28)).alloc (.cells #[.slice none 0 0, .slice none 0 0] 28) := ⟨_, rfl⟩
  obtain ⟨hb1, hb2, hbf, hbw, hbs⟩ := HBX.out _ _ rfl rfl
  rw [← hW]
  rw [← hW] at hb1 hb2 hbf hbw hbs
  clear hW HBX
  have HBW : Hid (Below w.heap.size w W) := hbw
  have HR2 : Hid (Box2 W (w.heap.size + 1) (.slice none 0 0) (.slice none 0 0)) := hb2
  have HRF : Hid (∀ i, W.frozen? ⟨w.heap.size + 1, i, none⟩ = false) := hbf
  have HWS : Hid (W.heap.size = w.heap.size + 2) := hbs
  obtain ⟨q0, q1⟩ := hb1
  have p0 := fun o : Obj => cell_alloc q0 o
  have p1 := fun o : Obj => cell_alloc q1 o
  have HBA1 : Hid (∀ o : Obj, BytesAt (W.alloc o).drew a1 L.n1 L.z1) := fun o => (HA.out.1.below hbw).below ((below_new W o).drew)
  have HBA2 : Hid (BytesAt W a2 k L.z2) := HA.out.2.below hbw
  have HL1 : Hid (([] : List Int).length + L.n1 ≤ 100000) := by show ([] : List Int).length + L.n1 ≤ 100000; simp; omega
  have HL2 : Hid (([] ++ zL L.z1 L.n1).length + k ≤ 100000) := by show ([] ++ zL L.z1 L.n1).length + k ≤ 100000; simp [zL_len]; omega
  have HBS : Hid (∀ o : Obj, W.heap.size ≤ (W.alloc o).drew.heap.size) := fun o => by show _ ≤ (W.alloc o).heap.size; rw [World.size_alloc]; omega
  have hfx : W.frozen? ⟨w.heap.size, 0, none⟩ = W.frozen? ⟨w.heap.size, 0, none⟩ := rfl
  clear hbw hb2 hbf hbs hfx
  go_region_law (first | (refine step_appZ _ rfl (.tmp 8) (.tmp 10) rfl W.heap.size (.slice (some ⟨W.heap.size, 0, none⟩) 0 0) [] rfl (own_made0 W) a1 L.n1 c1 L.z1 rfl (HBA1.out _) HL1.out (HBS.out _) ?_; intro v6 w6 ho6 hg6; have hB6 := below_grow0 hg6; have s0 := cell_below q0 hB6; have s1 := cell_below q1 hB6; have hba2 := HBA2.out.below hB6) | (refine step_appZ _ rfl (.tmp 11) (.tmp 15) rfl W.heap.size v6 ([] ++ zL L.z1 L.n1) rfl ho6 a2 k c2 L.z2 rfl hba2 HL2.out hB6.size ?_; intro v9 w9 ho9 hg9; have HB9 : Hid (Below W.heap.size W w9) := hB6.grown hg9 hB6.size (fun q hq => (ho6.lt q hq).1); have HO9 : Hid (w9.ownsRow W.heap.size 5 1 v9 (([] ++ zL L.z1 L.n1) ++ zL L.z2 k).length (bl (([] ++ zL L.z1 L.n1) ++ zL L.z2 k))) := ho9))
  all_goals
    clear ho6 hg6 hba2 hB6 ho9 hg9 s0 s1
    have hall : AllAt w9 W.heap.size v9 (cutL L k) := allAt_of HO9.out
    obtain ⟨ra, rc, rfl, hrc, ho, hcond⟩ := hall
    obtain ⟨b, hcd⟩ := AllAt.cond (rc := rc) hcond
    have HCD : Hid (L.n1 + k = 0 ∨ ra = some ⟨b, 0, none⟩ ∧ b < w9.heap.size ∧ BA w9 b 0 (L.n1 + k) (aZ (cutL L k))) := hcd
    have HRC : Hid (L.n1 + k ≤ rc) := hrc
    clear hcd hcond ho hrc HO9
    go_wp2_with fail
    refine (l3Recs_any (L.n1 + k) (aZ (cutL L k)) ra b 0 rc w9 HRC.out (by omega) (aZ_byt HY.out) HCD.out).mono ?_
    rintro e w10 ⟨rb, rcp, rfl, hb10, -⟩
    obtain ⟨u, HU⟩ : ∃ u, Hid (13 * clM L k = u) := ⟨_, rfl⟩
    have hue : 13 * (cnt (aZ (cutL L k)) (L.n1 + k) : Int) = (u : Int) := by have := HU.out; unfold clM at this; omega
    have hule : u ≤ L.n1 + k := by rw [← HU.out]; exact clM_le L k
    have hrc := HRC.out
    have hu1 : (u : Int) ≤ (rc : Int) := by omega
    have hu0 : (0 : Int) ≤ (u : Int) := by omega
    have HBU : Hid (∀ o : Obj, BytesAt (w10.alloc o) ra u (aZ (cutL L k))) := fun o => (((bytes_of_cond HCD.out).cut hule).below hb10).below (below_new _ _)
    have HB10 : Hid (Below W.heap.size W w10) := below_then HB9.out hb10
    have HLU : Hid (([] : List Int).length + u ≤ 100000) := by show ([] : List Int).length + u ≤ 100000; simp; omega
    rw [hue]
    clear hb10 HCD HB9 hue p0 p1 q0 q1
    go_wp2_with (at_builtin; refine wpList_appB _ rfl (.tmp 22) (.tmp 25) rfl w10.heap.size (.slice (some ⟨w10.heap.size, 0, none⟩) 0 0) [] rfl (World.ownsRow_made w10 #[] 0 (Nat.le_refl _) (by unfold maxLen; omega) rfl) ra u rc (aZ (cutL L k)) rfl (HBU.out _) HLU.out (by simp) ?_)
    intro v12 w12 ho12 hg12
    have hB12 : Below w10.heap.size w10 w12 := (below_new w10 _).grown hg12 (by simp) (fun q hq => by simp [Value.ownBlock] at hq; omega)
    obtain ⟨xa, xc, rfl, hown⟩ := ownB_row_zL ho12
    have HB12 : Hid (Below W.heap.size W w12) := below_then HB10.out hB12
    have hz10 := HB10.out.size
    have hWS := HWS.out
    have HO12 : Hid (OwnB w12 (w.heap.size + 2) w12.heap.size xa u (aZ (cutL L k))) := hown.wide (by omega) (Nat.le_refl _) (Nat.le_refl _)
    obtain ⟨r0, r1⟩ := HR2.out.below HB12.out
    have rf : ∀ i, w12.frozen? ⟨w.heap.size + 1, i, none⟩ = false := fun i => ((bcell HB12.out).2 _ _ (by omega)).trans (HRF.out i)
    clear ho12 hg12 hB12 hown HBU
    go_wp2_with fail
    refine bodyPost_ret (v := .agg #[.slice xa u xc, .slice none 0 0]) (by simp [results, Try.results47, go_sem, *]) rfl ?_
    have hw : ∀ w7, Writes (w.heap.size + 1) (w.heap.size + 2) w12 w7 → w7.heap.size = w12.heap.size → Below w.heap.size w w7 ∧ OwnB w7 w.heap.size w7.heap.size xa u (aZ (cutL L k)) := fun w7 h7 e7 => by
      refine ⟨Writes.below (below_then HBW.out HB12.out) h7 (by omega), ?_⟩
      rw [e7]
      exact (HO12.out.writes h7 (.inr (Nat.le_refl _))).wide (by omega) (Nat.le_refl _) (by omega)
    rw [HU.out]
    refine ⟨xa, xc, rfl, ?_⟩
    refine hw _ ?_ (by simp [World.setCell])
    repeat (first | exact Writes.refl _ _ _ | refine Writes.setCell ?_ (by first | omega | (simp <;> omega)) (by first | omega | (simp <;> omega)) _)
set_option maxHeartbeats 4000000 in
theorem specCl_any (L : Lo) (a1 a2 : Option Addr) (c1 c2 : Nat) (x : Int) (w : World) (hn1 : L.n1 ≤ 1048576) (hn2 : L.n2 ≤ 1048576) (hcap : L.n2 ≤ c2) (hby : LogByt L) (h : LogAt w a1 a2 L) :
    Calls Try.prog 18 #[.agg #[.slice a1 L.n1 c1, .slice a2 L.n2 c2], .int .i64 x] w (LRes (clC L x) (clS L x) (clL L x) w) := by
  have hb0 : ∀ o1 o2, Below w.heap.size w ((w.alloc o1).alloc o2) := fun o1 o2 => ((Below.refl _ _).alloc (Nat.le_refl _) _).alloc (by simp) _
  have HA : Hid (LogAt w a1 a2 L) := h
  have HY : Hid (LogByt L) := hby
  clear h hby
  go_enter Try.func18, Try.ntmps18
  go_wp2_with fail
  refine (specLf_any L a1 a2 c1 c2 _ hn1 hn2 HY.out (HA.out.below (hb0 _ _))).mono ?_
  rintro e w1 ⟨rfl, hb1⟩
  obtain ⟨hcc, hff⟩ := bcell hb1
  have hz1 : w.heap.size + 2 ≤ w1.heap.size := by have := hb1.size; simp at this; omega
  have q0 : w1.cell? ⟨w.heap.size, 0, none⟩ = some (.slice a1 L.n1 c1) := by rw [hcc _ _ (by simp <;> omega)]; simp [go_sem]
  have q1 : w1.cell? ⟨w.heap.size, 1, none⟩ = some (.slice a2 L.n2 c2) := by rw [hcc _ _ (by simp <;> omega)]; simp [go_sem]
  have r0 : w1.cell? ⟨w.heap.size + 1, 0, none⟩ = some (.int .i64 0) := by rw [hcc _ _ (by simp <;> omega)]; simp [go_sem]
  have r1 : w1.cell? ⟨w.heap.size + 1, 1, none⟩ = some (.int .i64 0) := by rw [hcc _ _ (by simp <;> omega)]; simp [go_sem]
  have r2 : w1.cell? ⟨w.heap.size + 1, 2, none⟩ = some (.slice none 0 0) := by rw [hcc _ _ (by simp <;> omega)]; simp [go_sem]
  have r3 : w1.cell? ⟨w.heap.size + 1, 3, none⟩ = some (.slice none 0 0) := by rw [hcc _ _ (by simp <;> omega)]; simp [go_sem]
  have fz : ∀ i, w1.frozen? ⟨w.heap.size + 1, i, none⟩ = false := fun i => by rw [hff _ _ (by simp <;> omega)]; simp [go_sem]
  have HB1 : Hid (Below w.heap.size w w1) := below_then (hb0 _ _) hb1
  clear hcc hff hb1 hb0
  by_cases hc : lgC L = 0
  case neg =>
    have hd : (lgC L != 0) = true := by simpa using hc
    have HX : Hid (∀ w', Below w.heap.size w w' → LRes (clC L x) (clS L x) (clL L x) w (.returned (.agg #[.int .i64 (lgC L), .int .i64 0, .slice none 0 0, .slice none 0 0])) w') := fun w' hb => by
      obtain ⟨e1, e2, e3⟩ := cl_bad (x := x) hc
      rw [e1, e2, e3]; exact lres_none hb
    clear hc
    generalize lgC L = c at *
    go_wp2_with fail
    refine bodyPost_ret (v := .agg #[.int .i64 c, .int .i64 0, .slice none 0 0, .slice none 0 0]) (by simp [results, Try.results18, go_sem, *]) rfl ?_
    refine HX.out _ ?_
    repeat (first | exact HB1.out | refine Below.setCell ?_ (by first | omega | (simp <;> omega)) _)
  obtain hx | hx := bool_or3 (inB x 0 (L.n2 : Int))
  case inr =>
    have HX : Hid (∀ w', Below w.heap.size w w' → LRes (clC L x) (clS L x) (clL L x) w (.returned (.agg #[.int .i64 3, .int .i64 0, .slice none 0 0, .slice none 0 0])) w') := fun w' hb => by
      obtain ⟨e1, e2, e3⟩ := cl_range hc hx
      rw [e1, e2, e3]; exact lres_none hb
    rw [hc]
    clear hc
    go_wp2_with (first | (go_at_call 46; refine (l1In_any _ _ _ _).mono ?_; rintro e w' ⟨rfl, hw'⟩; rw [hw']; clear hw'))
    refine bodyPost_ret (v := .agg #[.int .i64 3, .int .i64 0, .slice none 0 0, .slice none 0 0]) (by simp [results, Try.results18, go_sem, *]) rfl ?_
    refine HX.out _ ?_
    repeat (first | exact HB1.out | refine Below.setCell ?_ (by first | omega | (simp <;> omega)) _)
  have hle := (lgC_zero hc).1
  have hxx := inB_iff.1 hx
  obtain ⟨k, rfl⟩ : ∃ k : Nat, x = (k : Int) := ⟨x.toNat, by omega⟩
  have hk2 : k ≤ L.n2 := by omega
  have HOK : Hid (clC L k = 0 ∧ clS L k = (clM L k : Int) ∧ clL L k = ⟨13 * clM L k, aZ (cutL L k), 0, fun _ => 0⟩) := cl_ok hc hx
  rw [hc]
  clear hc hxx
  go_wp2_with (first | (go_at_call 46; refine (l1In_any _ _ _ _).mono ?_; rintro e w' ⟨rfl, hw'⟩; rw [hw']; clear hw'))
  refine (l3Crash_any L a1 a2 c1 c2 k w1 hle hk2 hcap HY.out (HA.out.below HB1.out)).mono ?_
  rintro e w2 ⟨ra, rc, rfl, hb2, ho2⟩
  have HB2 : Hid (Below w.heap.size w w2) := below_then HB1.out hb2
  obtain ⟨s0, s1, t0, t1, t2, t3, tf⟩ := cells7 hb2 q0 q1 r0 r1 r2 r3 fz
  obtain ⟨u, HU⟩ : ∃ u, Hid (13 * clM L k = u) := ⟨_, rfl⟩
  rw [HU.out] at ho2
  rw [HU.out]
  have hz2 := hb2.size
  clear hb2 q0 q1 r0 r1 r2 r3 fz s0 s1
  have hu7 : u ≤ 1048576 := by have := clM_le L k; have := HU.out; omega
  have HUD : Hid (((u + 0) / 13 : Nat) = clM L k) := by have := HU.out; show _ = _; omega
  have HO2 : Hid (∀ o : Obj, OwnB (w2.alloc o) w1.heap.size w2.heap.size ra u (aZ (cutL L k))) := fun o => ho2.below (below_new _ _)
  have HBB : Hid (∀ o : Obj, Below w.heap.size w (w2.alloc o)) := fun o => below_then HB2.out (below_new _ _)
  have T0 := fun o : Obj => cell_alloc t0 o
  have T1 := fun o : Obj => cell_alloc t1 o
  have T2 := fun o : Obj => cell_alloc t2 o
  have T3 := fun o : Obj => cell_alloc t3 o
  have TF : ∀ i c t, (w2.alloc (.cells c t)).frozen? ⟨w.heap.size + 1, i, none⟩ = false := fun i c t => by rw [frozen?_alloc_cells]; exact tf i
  clear ho2
  go_upto_region 7 with fail
  obtain ⟨W, hW⟩ : ∃ y, y = w2.alloc (.cells #[.slice ra u rc, .slice none 0 0] 28) := ⟨_, rfl⟩
  have HOW : Hid (OwnB W w1.heap.size w2.heap.size ra u (aZ (cutL L k))) := by rw [hW]; exact HO2.out _
  have HBW : Hid (Below w.heap.size w W) := by rw [hW]; exact HBB.out _
  have hzW : W.heap.size = w2.heap.size + 1 := by rw [hW]; exact World.size_alloc _ _
  have x0 : W.cell? ⟨w2.heap.size, 0, none⟩ = some (.slice ra u rc) := by rw [hW]; simp [go_sem]
  have x1 : W.cell? ⟨w2.heap.size, 1, none⟩ = some (.slice none 0 0) := by rw [hW]; simp [go_sem]
  replace T0 : W.cell? ⟨w.heap.size + 1, 0, none⟩ = some (.int .i64 0) := by rw [hW]; exact T0 _
  replace T1 : W.cell? ⟨w.heap.size + 1, 1, none⟩ = some (.int .i64 0) := by rw [hW]; exact T1 _
  replace T2 : W.cell? ⟨w.heap.size + 1, 2, none⟩ = some (.slice none 0 0) := by rw [hW]; exact T2 _
  replace T3 : W.cell? ⟨w.heap.size + 1, 3, none⟩ = some (.slice none 0 0) := by rw [hW]; exact T3 _
  replace TF : ∀ i, W.frozen? ⟨w.heap.size + 1, i, none⟩ = false := fun i => by rw [hW]; exact TF _ _ _
  rw [← hW]
  clear hW HO2 HBB t0 t1 t2 t3 tf
  go_region_law (first | (go_simp; go_at_call 38; refine (l3Count_any ⟨u, aZ (cutL L k), 0, fun _ => 0⟩ ra none rc 0 _ (by show u + 0 ≤ 1048576; omega)).mono ?_; rintro e wa ⟨rfl, hba⟩; have hB := drewB6 hba; have y0 := cell_below x0 hB; have y1 := cell_below x1 hB; have d0 := cell_below T0 hB; have d1 := cell_below T1 hB; have d2 := cell_below T2 hB; have d3 := cell_below T3 hB; have df := fun i : Nat => (hB.frozen (p := ⟨w.heap.size + 1, i, none⟩) (by have := Go.block_lt_of_cell T0; exact this)).trans (TF i); have HBA : Hid (Below w.heap.size w wa) := below_then HBW.out hB; have HOA : Hid (OwnB wa w1.heap.size wa.heap.size ra u (aZ (cutL L k))) := (HOW.out.below hB).wide (Nat.le_refl _) (by have := hB.size; omega) (Nat.le_refl _)))
  all_goals
    have hud : (u : Int) / 13 = (clM L k : Int) := by have := HU.out; omega
    clear hba hB
    go_wp2_with fail
    refine bodyPost_ret (v := .agg #[.int .i64 0, .int .i64 (clM L k : Int), .slice ra u rc, .slice none 0 0]) (by simp [results, Try.results18, go_sem, *]) rfl ?_
    obtain ⟨e1, e2, e3⟩ := HOK.out
    rw [e1, e2, e3, HU.out]
    refine lres_some HBA.out hz1 HOA.out ?_ (by simp [World.setCell])
    repeat (first | exact Writes.refl _ _ _ | refine Writes.setCell ?_ (by first | omega | (simp <;> omega)) (by first | omega | (simp <;> omega)) _)
theorem two_atd (X : World) (x y : Value) (t : TypeId) : (X.alloc (.cells #[x, y] t)).drew.cell? ⟨X.heap.size, 0, none⟩ = some x ∧ (X.alloc (.cells #[x, y] t)).drew.cell? ⟨X.heap.size, 1, none⟩ = some y := two_at X x y t
theorem drewBn {w : World} {o : Obj} {w2 : World} (hb : Below (w.alloc o).drew.heap.size (w.alloc o).drew w2) : Below w.heap.size w w2 := below_then (below_new _ _) (((Below.refl _ _).drew).trans hb)
theorem implUr_B (n : Nat) (z : Nat → Int) (a : Option Addr) (cap : Nat) (w : World) (hcap : n ≤ cap) (hn : n ≤ 4000) (hz : Byt n z) (h : BytesAt w a n z) :
    Calls Try.prog 51 #[.slice a n cap] w (RcR 0 (13 * (cnt z n : Int)) (cnt z n) z w) := by
  rcases h with h | ⟨b, off, h1, h2, h3⟩
  · exact implUr_any n z a 0 0 cap w hcap hn hz (.inl h)
  · exact implUr_any n z a b off cap w hcap hn hz (.inr ⟨h1, h2, h3⟩)
set_option maxHeartbeats 4000000 in
theorem implCl_any (L : Lo) (a1 a2 : Option Addr) (c1 c2 : Nat) (x : Int) (w : World) (hn1 : L.n1 ≤ 1048576) (hn2 : L.n2 ≤ 1048576) (hcap : L.n2 ≤ c2) (hby : LogByt L) (h : LogAt w a1 a2 L) :
    Calls Try.prog 19 #[.agg #[.slice a1 L.n1 c1, .slice a2 L.n2 c2], .int .i64 x] w (LRes (clC L x) (clS L x) (clL L x) w) := by
  have hb0 : ∀ o1 o2, Below w.heap.size w ((w.alloc o1).alloc o2) := fun o1 o2 => ((Below.refl _ _).alloc (Nat.le_refl _) _).alloc (by simp) _
  have HA : Hid (LogAt w a1 a2 L) := h
  have HY : Hid (LogByt L) := hby
  clear h hby
  go_enter Try.func19, Try.ntmps19
  go_wp2_with fail
  refine (implLf_any L a1 a2 c1 c2 _ hn1 hn2 HY.out (HA.out.below (hb0 _ _))).mono ?_
  rintro e w1 ⟨rfl, hb1⟩
  obtain ⟨hcc, hff⟩ := bcell hb1
  have hz1 : w.heap.size + 2 ≤ w1.heap.size := by have := hb1.size; simp at this; omega
  have q0 : w1.cell? ⟨w.heap.size, 0, none⟩ = some (.slice a1 L.n1 c1) := by rw [hcc _ _ (by simp <;> omega)]; simp [go_sem]
  have q1 : w1.cell? ⟨w.heap.size, 1, none⟩ = some (.slice a2 L.n2 c2) := by rw [hcc _ _ (by simp <;> omega)]; simp [go_sem]
  have r0 : w1.cell? ⟨w.heap.size + 1, 0, none⟩ = some (.int .i64 0) := by rw [hcc _ _ (by simp <;> omega)]; simp [go_sem]
  have r1 : w1.cell? ⟨w.heap.size + 1, 1, none⟩ = some (.int .i64 0) := by rw [hcc _ _ (by simp <;> omega)]; simp [go_sem]
  have r2 : w1.cell? ⟨w.heap.size + 1, 2, none⟩ = some (.slice none 0 0) := by rw [hcc _ _ (by simp <;> omega)]; simp [go_sem]
  have r3 : w1.cell? ⟨w.heap.size + 1, 3, none⟩ = some (.slice none 0 0) := by rw [hcc _ _ (by simp <;> omega)]; simp [go_sem]
  have fz : ∀ i, w1.frozen? ⟨w.heap.size + 1, i, none⟩ = false := fun i => by rw [hff _ _ (by simp <;> omega)]; simp [go_sem]
  have HB1 : Hid (Below w.heap.size w w1) := below_then (hb0 _ _) hb1
  clear hcc hff hb1 hb0
  by_cases hc : lgC L = 0
  case neg =>
    have hd : (lgC L != 0) = true := by simpa using hc
    have HX : Hid (∀ w', Below w.heap.size w w' → LRes (clC L x) (clS L x) (clL L x) w (.returned (.agg #[.int .i64 (lgC L), .int .i64 0, .slice none 0 0, .slice none 0 0])) w') := fun w' hb => by
      obtain ⟨e1, e2, e3⟩ := cl_bad (x := x) hc
      rw [e1, e2, e3]; exact lres_none hb
    clear hc
    generalize lgC L = c at *
    go_wp2_with fail
    refine bodyPost_ret (v := .agg #[.int .i64 c, .int .i64 0, .slice none 0 0, .slice none 0 0]) (by simp [results, Try.results19, go_sem, *]) rfl ?_
    refine HX.out _ ?_
    repeat (first | exact HB1.out | refine Below.setCell ?_ (by first | omega | (simp <;> omega)) _)
  obtain hx | hx := bool_or3 (inB x 0 (L.n2 : Int))
  case inr =>
    have HX : Hid (∀ w', Below w.heap.size w w' → LRes (clC L x) (clS L x) (clL L x) w (.returned (.agg #[.int .i64 3, .int .i64 0, .slice none 0 0, .slice none 0 0])) w') := fun w' hb => by
      obtain ⟨e1, e2, e3⟩ := cl_range hc hx
      rw [e1, e2, e3]; exact lres_none hb
    rw [hc]
    clear hc
    go_wp2_with (first | (go_at_call 49; refine (within_any _ _ _ _).mono ?_; rintro e w' ⟨rfl, hw'⟩; rw [hw']; clear hw'))
    refine bodyPost_ret (v := .agg #[.int .i64 3, .int .i64 0, .slice none 0 0, .slice none 0 0]) (by simp [results, Try.results19, go_sem, *]) rfl ?_
    refine HX.out _ ?_
    repeat (first | exact HB1.out | refine Below.setCell ?_ (by first | omega | (simp <;> omega)) _)
  have hle := (lgC_zero hc).1
  have hxx := inB_iff.1 hx
  obtain ⟨k, rfl⟩ : ∃ k : Nat, x = (k : Int) := ⟨x.toNat, by omega⟩
  have hk2 : k ≤ L.n2 := by omega
  have HOK : Hid (clC L k = 0 ∧ clS L k = (clM L k : Int) ∧ clL L k = ⟨13 * clM L k, aZ (cutL L k), 0, fun _ => 0⟩) := cl_ok hc hx
  rw [hc]
  clear hc hxx
  have HLC : Hid (LogAt w1 a1 a2 (cutL L k)) := (HA.out.below HB1.out).cut hk2
  have HYC : Hid (LogByt (cutL L k)) := HY.out.cut hk2
  have hkc : (k : Int) ≤ (c2 : Int) := by omega
  have hk0 : (0 : Int) ≤ (k : Int) := by omega
  have hnk : (cutL L k).n1 + (cutL L k).n2 ≤ 90000 := by show L.n1 + k ≤ 90000; omega
  have HLA : Hid (∀ o, LogAt (w1.alloc o).drew a1 a2 (cutL L k)) := fun o => HLC.out.below (below_new w1 o).drew
  go_upto_region 6 with (first | (go_at_call 49; refine (within_any _ _ _ _).mono ?_; rintro e w' ⟨rfl, hw'⟩; rw [hw']; clear hw'))
  have e12 : (cutL L k).n1 + (cutL L k).n2 = L.n1 + k := rfl
  have HE12 : Hid ((cutL L k).n1 + (cutL L k).n2 = L.n1 + k) := e12
  clear e12
  go_region_law (first | (go_simp; go_at_call 42; refine (joined_twoG (cutL L k) a1 a2 c1 c2 w1.heap.size _ hnk (two_atd w1 _ _ _).1 (two_atd w1 _ _ _).2 (HLA.out _)).mono ?_; rintro e w5 ⟨ra, rc, rfl, hrc, hb5, hby5⟩; have hB5 := drewBn hb5; rw [HE12.out] at hrc hby5; rw [HE12.out]; have HRC : Hid (L.n1 + k ≤ rc) := hrc; have HBY : Hid (BytesAt w5 ra (L.n1 + k) (aZ (cutL L k))) := hby5; have HB5 : Hid (Below w1.heap.size w1 w5) := hB5; clear hrc hb5 hby5 hB5))
  all_goals
    clear q0 q1
    go_wp2_with fail
    refine (implUr_B (L.n1 + k) (aZ (cutL L k)) ra rc w5 HRC.out (by omega) (aZ_byt HYC.out) HBY.out).mono ?_
    rintro e w6 ⟨rb, rcp, rfl, hb6, -⟩
    obtain ⟨u, HU⟩ : ∃ u, Hid (13 * clM L k = u) := ⟨_, rfl⟩
    obtain ⟨m, HM⟩ : ∃ m, Hid (clM L k = m) := ⟨_, rfl⟩
    have hm : cnt (aZ (cutL L k)) (L.n1 + k) = m := HM.out
    have hue : 13 * (m : Int) = (u : Int) := by have := HU.out; have := HM.out; omega
    have hule : u ≤ L.n1 + k := by rw [← HU.out]; exact clM_le L k
    have HB6 : Hid (Below w1.heap.size w1 w6) := below_then HB5.out hb6
    have HBY6 : Hid (BytesAt w6 ra (L.n1 + k) (aZ (cutL L k))) := HBY.out.below hb6
    rw [hm, hue]
    clear hb6 hm hue HBY HB5
    go_wp2_with fail
    refine (sureLog_any (L.n1 + k) u m (aZ (cutL L k)) ra rb rc rcp 0 w6 hule HRC.out (by omega) HBY6.out).mono ?_
    rintro e w7 ⟨a7, cp7, rfl, hb7, ho7⟩
    have HB7 : Hid (Below w1.heap.size w1 w7) := below_then HB6.out hb7
    have hz6 := HB6.out.size
    have HO7 : Hid (OwnB w7 w6.heap.size w7.heap.size a7 u (aZ (cutL L k))) := ho7
    have t0 := cell_below r0 HB7.out
    have t1 := cell_below r1 HB7.out
    have t2 := cell_below r2 HB7.out
    have t3 := cell_below r3 HB7.out
    have tf : ∀ i, w7.frozen? ⟨w.heap.size + 1, i, none⟩ = false := fun i => (HB7.out.frozen (p := ⟨w.heap.size + 1, i, none⟩) (by have := Go.block_lt_of_cell r0; exact this)).trans (fz i)
    clear hb7 ho7 r0 r1 r2 r3 fz HBY6 HB6
    go_wp2_with fail
    refine bodyPost_ret (v := .agg #[.int .i64 0, .int .i64 (m : Int), .slice a7 u cp7, .slice none 0 0]) (by simp [results, Try.results19, go_sem, *]) rfl ?_
    obtain ⟨e1, e2, e3⟩ := HOK.out
    rw [e1, e2, e3, HU.out, HM.out]
    refine lres_some (below_then HB1.out HB7.out) (lo := w6.heap.size) (by omega) HO7.out ?_ (by simp [World.setCell])
    repeat (first | exact Writes.refl _ _ _ | refine Writes.setCell ?_ (by first | omega | (simp <;> omega)) (by first | omega | (simp <;> omega)) _)
set_option maxHeartbeats 8000000 in
theorem crashLaw_small (L : Lo) (a1 a2 : Option Addr) (c1 c2 : Nat) (kept : Int) (w : World) (hn1 : L.n1 ≤ 9223372036854775807) (hn2 : L.n2 ≤ 9223372036854775807) (HA0 : LogAt w a1 a2 L) (c u : Int) (K : Lo) (hK1 : K.n1 ≤ 1048576) (hK2 : K.n2 ≤ 1048576)
    (HP : Hid (L.n1 ≤ 1048576 → L.n2 ≤ 1048576 → ∀ (a1 a2 : Option Addr) (w : World), LogAt w a1 a2 L → Calls Try.prog 18 #[.agg #[.slice a1 L.n1 L.n1, .slice a2 L.n2 L.n2], .int .i64 kept] w fun e w' => ∃ a a' cap cap', e = .returned (.agg #[.int .i64 c, .int .i64 u, .slice a K.n1 cap, .slice a' K.n2 cap']) ∧ Below w.heap.size w w' ∧ OwnG w' w.heap.size w'.heap.size a a' K))
    (HQ : Hid (L.n1 ≤ 1048576 → L.n2 ≤ 1048576 → ∀ (a1 a2 : Option Addr) (w : World), LogAt w a1 a2 L → Calls Try.prog 19 #[.agg #[.slice a1 L.n1 L.n1, .slice a2 L.n2 L.n2], .int .i64 kept] w fun e w' => ∃ a a' cap cap', e = .returned (.agg #[.int .i64 c, .int .i64 u, .slice a K.n1 cap, .slice a' K.n2 cap']) ∧ Below w.heap.size w w' ∧ OwnG w' w.heap.size w'.heap.size a a' K)) :
    Calls Try.prog 4 #[.agg #[.slice a1 L.n1 c1, .slice a2 L.n2 c2], .int .i64 kept] w fun e w' => e = .returned (.bool true) ∧ Below w.heap.size w w' := by
  go_enter Try.func4, Try.ntmps4
  go_wp2_with fail
  refine (szLog_any L a1 a2 c1 c2 _ hn1 hn2).mono ?_
  rintro e w1 ⟨hb, r, rfl, hr⟩
  have hB : Below w.heap.size w w1 := below_then (below_new _ _) hb
  rcases hr with rfl | ⟨hr0, hr1⟩
  · go_wp2_with fail
    go_ret
    exact ⟨rfl, hB⟩
  have hs1 : L.n1 ≤ 1048576 := by omega
  have hs2 : L.n2 ≤ 1048576 := by omega
  have HS : Hid (L.n1 ≤ 1048576 ∧ L.n2 ≤ 1048576) := ⟨hs1, hs2⟩
  have BA := (Box2.new w (.slice a1 L.n1 c1) (.slice a2 L.n2 c2) 24).below hb
  have HA := HA0.below hB
  have sw1 : Hid (w.heap.size < w1.heap.size) := by have hq := hb.size; simp at hq; show w.heap.size < w1.heap.size; omega
  have hneg : ¬ (r < 0) := by omega
  clear hb hr0 hr1 hn1 hn2
  have hneg2 : ¬ ((1 : Int) + ((L.n1 + L.n2 : Nat) : Int) < 0) := by omega
  have hneg3 : ¬ ((1 : Int) + ((K.n1 + K.n2 : Nat) : Int) < 0) := by omega
  have TA := BA
  obtain ⟨qA0, qA1⟩ := TA
  go_wp2_with fail
  refine (toLog_any L a1 a2 c1 c2 _ HS.out.1 HS.out.2 HA).mono ?_
  rintro e w2 ⟨b1, b2, rfl, hb, ho⟩
  clear qA0 qA1
  replace hB := below_then hB hb
  replace BA := BA.below hb
  replace HA := HA.below hb
  have sw2 : Hid (w1.heap.size ≤ w2.heap.size) := by have hq := hb.size; show w1.heap.size ≤ w2.heap.size; omega
  have OT := ho.wide (Nat.le_refl _) (Nat.le_refl _) (Nat.le_refl _)
  clear ho
  clear hb
  go_wp2_with fail
  refine (HP.out HS.out.1 HS.out.2 _ _ _ OT.at).mono ?_
  rintro e w3 ⟨aw, aw2, cw, cw2, rfl, hb, OW⟩
  replace hB := below_then hB hb
  replace BA := BA.below hb
  replace OT := OT.below hb
  replace HA := HA.below hb
  have sw3 : Hid (w2.heap.size ≤ w3.heap.size) := by have hq := hb.size; show w2.heap.size ≤ w3.heap.size; omega
  clear hb
  clear OT
  have TA := BA
  obtain ⟨qA0, qA1⟩ := TA
  have rA0 := fun o : Obj => cell_alloc qA0 o
  have rA1 := fun o : Obj => cell_alloc qA1 o
  go_wp2_with fail
  refine (toLog_any L a1 a2 c1 c2 _ HS.out.1 HS.out.2 (HA.below (below_new _ _))).mono ?_
  rintro e w4 ⟨bx, bx2, rfl, hb, ho⟩
  clear qA0 qA1 rA0 rA1
  replace hB := below_then hB (below_then (below_new _ _) hb)
  replace BA := (BA.alloc _).below hb
  have BW := (Box4.new w3 (.int .i64 c) (.int .i64 u) (.slice aw K.n1 cw) (.slice aw2 K.n2 cw2) 30).below hb
  replace OW := (OW.below (below_new _ _)).below hb
  replace HA := (HA.below (below_new _ _)).below hb
  have sw4 : Hid (w3.heap.size < w4.heap.size) := by have hq := hb.size; simp at hq; show w3.heap.size < w4.heap.size; omega
  have OX : OwnG w4 (w3.heap.size + 1) w4.heap.size _ _ L := ho.wide (by simp) (Nat.le_refl _) (Nat.le_refl _)
  clear ho
  clear hb
  go_wp2_with fail
  refine (HQ.out HS.out.1 HS.out.2 _ _ _ (OX.at.below (below_new _ _))).mono ?_
  rintro e w5 ⟨ag, ag2, cg, cg2, rfl, hb, ho⟩
  replace hB := below_then hB (below_then (below_new _ _) hb)
  replace BA := (BA.alloc _).below hb
  replace BW := (BW.alloc _).below hb
  have BX := (Box2.new w4 (.slice (some ⟨bx, 0, none⟩) L.n1 L.n1) (.slice (some ⟨bx2, 0, none⟩) L.n2 L.n2) 28).below hb
  replace OW := (OW.below (below_new _ _)).below hb
  replace OX := (OX.below (below_new _ _)).below hb
  replace HA := (HA.below (below_new _ _)).below hb
  have sw5 : Hid (w4.heap.size < w5.heap.size) := by have hq := hb.size; simp at hq; show w4.heap.size < w5.heap.size; omega
  have OG : OwnG w5 (w4.heap.size + 1) w5.heap.size ag ag2 K := ho.wide (by simp) (Nat.le_refl _) (Nat.le_refl _)
  clear ho
  clear hb
  have TW := BW
  obtain ⟨qW0, qW1, qW2, qW3⟩ := TW
  have rW0 := fun o : Obj => cell_alloc qW0 o
  have rW1 := fun o : Obj => cell_alloc qW1 o
  have rW2 := fun o : Obj => cell_alloc qW2 o
  have rW3 := fun o : Obj => cell_alloc qW3 o
  go_wp2_with fail
  refine (eqLogResult_same c u K ag ag2 aw aw2 cg cg2 cw cw2 _ hK1 hK2 (OG.at.below (below_new _ _)) (OW.at.below (below_new _ _))).mono ?_
  rintro e w6 ⟨rfl, hb⟩
  clear qW0 qW1 qW2 qW3 rW0 rW1 rW2 rW3
  replace hB := below_then hB (below_then (below_new _ _) hb)
  replace BA := (BA.alloc _).below hb
  replace BW := (BW.alloc _).below hb
  replace BX := (BX.alloc _).below hb
  have BG := (Box4.new w5 (.int .i64 c) (.int .i64 u) (.slice ag K.n1 cg) (.slice ag2 K.n2 cg2) 30).below hb
  replace OW := (OW.below (below_new _ _)).below hb
  replace OX := (OX.below (below_new _ _)).below hb
  replace OG := (OG.below (below_new _ _)).below hb
  replace HA := (HA.below (below_new _ _)).below hb
  have sw6 : Hid (w5.heap.size < w6.heap.size) := by have hq := hb.size; simp at hq; show w5.heap.size < w6.heap.size; omega
  clear hb
  have TX := BX
  obtain ⟨qX0, qX1⟩ := TX
  have TA := BA
  obtain ⟨qA0, qA1⟩ := TA
  go_wp2_with fail
  have hb0 : Below w6.heap.size w6 w6.drew := (Below.refl _ _).drew
  go_region_held3 (fun w' => Below w6.heap.size w6 w' ∧ w'.cell? ⟨w4.heap.size, 0, none⟩ = some (.slice (some ⟨bx, 0, none⟩) L.n1 L.n1) ∧ w'.cell? ⟨w4.heap.size, 1, none⟩ = some (.slice (some ⟨bx2, 0, none⟩) L.n2 L.n2) ∧ w'.cell? ⟨w.heap.size, 0, none⟩ = some (.slice a1 L.n1 c1) ∧ w'.cell? ⟨w.heap.size, 1, none⟩ = some (.slice a2 L.n2 c2)) (go_keep)
    (first | (go_at_call 10; refine (toLog_any L a1 a2 c1 c2 _ HS.out.1 HS.out.2 (HA.below (by simp [*]))).mono ?_; rintro e wq ⟨bq, bq2, rfl, hbq, hoq⟩; have hU := below_then (w := w6) (by simp [*]) hbq; have hU0 := cell_below (B := w4.heap.size) (o := 0) (v := .slice (some ⟨bx, 0, none⟩) L.n1 L.n1) (by simp [*]) hbq; have hU1 := cell_below (B := w4.heap.size) (o := 1) (v := .slice (some ⟨bx2, 0, none⟩) L.n2 L.n2) (by simp [*]) hbq; have hU2 := cell_below (B := w.heap.size) (o := 0) (v := .slice a1 L.n1 c1) (by simp [*]) hbq; have hU3 := cell_below (B := w.heap.size) (o := 1) (v := .slice a2 L.n2 c2) (by simp [*]) hbq) | (go_at_call 14; refine (eqLog_same L _ _ _ _ L.n1 L.n2 L.n1 L.n2 _ HS.out.1 HS.out.2 (OX.at.below (by simp [*])) hoq.at).mono ?_; rintro e w7 ⟨rfl, hbz⟩; have hS := below_then (w := w6) (by simp [*]) hbz; have hS0 := cell_below (B := w4.heap.size) (o := 0) (v := .slice (some ⟨bx, 0, none⟩) L.n1 L.n1) (by simp [*]) hbz; have hS1 := cell_below (B := w4.heap.size) (o := 1) (v := .slice (some ⟨bx2, 0, none⟩) L.n2 L.n2) (by simp [*]) hbz; have hS2 := cell_below (B := w.heap.size) (o := 0) (v := .slice a1 L.n1 c1) (by simp [*]) hbz; have hS3 := cell_below (B := w.heap.size) (o := 1) (v := .slice a2 L.n2 c2) (by simp [*]) hbz))
  clear qX0 qX1 qA0 qA1
  clear hb0 hU hU0 hU1 hU2 hU3 hS0 hS1 hS2 hS3 hbq hoq hbz
  replace hB := below_then hB hS
  replace BA := BA.below hS
  replace BW := BW.below hS
  replace BX := BX.below hS
  replace BG := BG.below hS
  replace OW := OW.below hS
  replace OX := OX.below hS
  replace OG := OG.below hS
  replace HA := HA.below hS
  have sw7 : Hid (w6.heap.size ≤ w7.heap.size) := by have hq := hS.size; show w6.heap.size ≤ w7.heap.size; omega
  clear hS
  have TX := BX
  obtain ⟨qX0, qX1⟩ := TX
  go_wp2_with fail
  refine (markLog_any L _ _ L.n1 L.n2 (w3.heap.size + 1) w4.heap.size 1 _ HS.out.1 HS.out.2 (by omega) (by omega) OX).mono ?_
  rintro e w8 ⟨rfl, hw, hox⟩
  clear qX0 qX1
  replace hB := Writes.below hB hw (by have t0 := sw1.out; have t1 := sw2.out; have t2 := sw3.out; have t3 := sw4.out; have t4 := sw5.out; have t5 := sw6.out; have t6 := sw7.out; omega)
  replace BA := BA.writes hw (by have t0 := sw1.out; have t1 := sw2.out; have t2 := sw3.out; have t3 := sw4.out; have t4 := sw5.out; have t5 := sw6.out; have t6 := sw7.out; omega)
  replace BW := BW.writes hw (by have t0 := sw1.out; have t1 := sw2.out; have t2 := sw3.out; have t3 := sw4.out; have t4 := sw5.out; have t5 := sw6.out; have t6 := sw7.out; omega)
  replace BX := BX.writes hw (by have t0 := sw1.out; have t1 := sw2.out; have t2 := sw3.out; have t3 := sw4.out; have t4 := sw5.out; have t5 := sw6.out; have t6 := sw7.out; omega)
  replace BG := BG.writes hw (by have t0 := sw1.out; have t1 := sw2.out; have t2 := sw3.out; have t3 := sw4.out; have t4 := sw5.out; have t5 := sw6.out; have t6 := sw7.out; omega)
  replace OW := OW.writes hw (by have t0 := sw1.out; have t1 := sw2.out; have t2 := sw3.out; have t3 := sw4.out; have t4 := sw5.out; have t5 := sw6.out; have t6 := sw7.out; omega)
  replace OG := OG.writes hw (by have t0 := sw1.out; have t1 := sw2.out; have t2 := sw3.out; have t3 := sw4.out; have t4 := sw5.out; have t5 := sw6.out; have t6 := sw7.out; omega)
  replace HA := HA0.below hB
  have sw8 : Hid (w7.heap.size ≤ w8.heap.size) := by have hq := hw.size; show w7.heap.size ≤ w8.heap.size; omega
  clear hw
  clear hox OX
  have TG := BG
  obtain ⟨qG0, qG1, qG2, qG3⟩ := TG
  have TW := BW
  obtain ⟨qW0, qW1, qW2, qW3⟩ := TW
  go_wp2_with fail
  refine (eqLogResult_same c u K ag ag2 aw aw2 cg cg2 cw cw2 _ hK1 hK2 OG.at OW.at).mono ?_
  rintro e w9 ⟨rfl, hb⟩
  clear qG0 qG1 qG2 qG3 qW0 qW1 qW2 qW3
  replace hB := below_then hB hb
  replace BA := BA.below hb
  replace BW := BW.below hb
  replace BX := BX.below hb
  replace BG := BG.below hb
  replace OW := OW.below hb
  replace OG := OG.below hb
  replace HA := HA.below hb
  have sw9 : Hid (w8.heap.size ≤ w9.heap.size) := by have hq := hb.size; show w8.heap.size ≤ w9.heap.size; omega
  clear hb
  have TG := BG
  obtain ⟨qG0, qG1, qG2, qG3⟩ := TG
  go_wp2_with fail
  refine (markLogResult_any c u K _ _ cg cg2 (w4.heap.size + 1) w5.heap.size _ hK1 hK2 OG).mono ?_
  rintro e w10 ⟨rfl, hw, hog⟩
  clear qG0 qG1 qG2 qG3
  replace hB := Writes.below hB hw (by have t0 := sw1.out; have t1 := sw2.out; have t2 := sw3.out; have t3 := sw4.out; have t4 := sw5.out; have t5 := sw6.out; have t6 := sw7.out; have t7 := sw8.out; have t8 := sw9.out; omega)
  replace BA := BA.writes hw (by have t0 := sw1.out; have t1 := sw2.out; have t2 := sw3.out; have t3 := sw4.out; have t4 := sw5.out; have t5 := sw6.out; have t6 := sw7.out; have t7 := sw8.out; have t8 := sw9.out; omega)
  replace BW := BW.writes hw (by have t0 := sw1.out; have t1 := sw2.out; have t2 := sw3.out; have t3 := sw4.out; have t4 := sw5.out; have t5 := sw6.out; have t6 := sw7.out; have t7 := sw8.out; have t8 := sw9.out; omega)
  replace BX := BX.writes hw (by have t0 := sw1.out; have t1 := sw2.out; have t2 := sw3.out; have t3 := sw4.out; have t4 := sw5.out; have t5 := sw6.out; have t6 := sw7.out; have t7 := sw8.out; have t8 := sw9.out; omega)
  replace BG := BG.writes hw (by have t0 := sw1.out; have t1 := sw2.out; have t2 := sw3.out; have t3 := sw4.out; have t4 := sw5.out; have t5 := sw6.out; have t6 := sw7.out; have t7 := sw8.out; have t8 := sw9.out; omega)
  replace OW := OW.writes hw (by have t0 := sw1.out; have t1 := sw2.out; have t2 := sw3.out; have t3 := sw4.out; have t4 := sw5.out; have t5 := sw6.out; have t6 := sw7.out; have t7 := sw8.out; have t8 := sw9.out; omega)
  replace HA := HA0.below hB
  have sw10 : Hid (w9.heap.size ≤ w10.heap.size) := by have hq := hw.size; show w9.heap.size ≤ w10.heap.size; omega
  clear hw
  clear OG
  have OG := hog
  clear hog
  have TG := BG
  obtain ⟨qG0, qG1, qG2, qG3⟩ := TG
  go_wp2_with fail
  refine (heldLogResult_any c u K _ _ cg cg2 _ hK1 hK2 OG.at).mono ?_
  rintro e w11 ⟨rfl, hb⟩
  clear qG0 qG1 qG2 qG3
  replace hB := below_then hB hb
  replace BA := BA.below hb
  replace BW := BW.below hb
  replace BX := BX.below hb
  replace BG := BG.below hb
  replace OW := OW.below hb
  replace OG := OG.below hb
  replace HA := HA.below hb
  have sw11 : Hid (w10.heap.size ≤ w11.heap.size) := by have hq := hb.size; show w10.heap.size ≤ w11.heap.size; omega
  clear hb
  have TA := BA
  obtain ⟨qA0, qA1⟩ := TA
  go_wp2_with fail
  refine (toLog_any L a1 a2 c1 c2 _ HS.out.1 HS.out.2 HA).mono ?_
  rintro e w12 ⟨bv, bv2, rfl, hb, ho⟩
  clear qA0 qA1
  replace hB := below_then hB hb
  replace BA := BA.below hb
  replace BW := BW.below hb
  replace BX := BX.below hb
  replace BG := BG.below hb
  replace OW := OW.below hb
  replace OG := OG.below hb
  replace HA := HA.below hb
  have sw12 : Hid (w11.heap.size ≤ w12.heap.size) := by have hq := hb.size; show w11.heap.size ≤ w12.heap.size; omega
  have OT := ho.wide (Nat.le_refl _) (Nat.le_refl _) (Nat.le_refl _)
  clear ho
  clear hb
  go_wp2_with fail
  refine (HQ.out HS.out.1 HS.out.2 _ _ _ OT.at).mono ?_
  rintro e w13 ⟨ah, ah2, ch, ch2, rfl, hb, OH⟩
  replace hB := below_then hB hb
  replace BA := BA.below hb
  replace BW := BW.below hb
  replace BX := BX.below hb
  replace BG := BG.below hb
  replace OW := OW.below hb
  replace OG := OG.below hb
  replace OT := OT.below hb
  replace HA := HA.below hb
  have sw13 : Hid (w12.heap.size ≤ w13.heap.size) := by have hq := hb.size; show w12.heap.size ≤ w13.heap.size; omega
  clear hb
  clear OT
  have TW := BW
  obtain ⟨qW0, qW1, qW2, qW3⟩ := TW
  have rW0 := fun o : Obj => cell_alloc qW0 o
  have rW1 := fun o : Obj => cell_alloc qW1 o
  have rW2 := fun o : Obj => cell_alloc qW2 o
  have rW3 := fun o : Obj => cell_alloc qW3 o
  go_wp2_with fail
  refine (eqLogResult_same c u K ah ah2 aw aw2 ch ch2 cw cw2 _ hK1 hK2 (OH.at.below (below_new _ _)) (OW.at.below (below_new _ _))).mono ?_
  rintro e w14 ⟨rfl, hb⟩
  clear qW0 qW1 qW2 qW3 rW0 rW1 rW2 rW3
  replace hB := below_then hB (below_then (below_new _ _) hb)
  replace BA := (BA.alloc _).below hb
  replace BW := (BW.alloc _).below hb
  replace BX := (BX.alloc _).below hb
  replace BG := (BG.alloc _).below hb
  have BH := (Box4.new w13 (.int .i64 c) (.int .i64 u) (.slice ah K.n1 ch) (.slice ah2 K.n2 ch2) 30).below hb
  replace OW := (OW.below (below_new _ _)).below hb
  replace OG := (OG.below (below_new _ _)).below hb
  replace OH := (OH.below (below_new _ _)).below hb
  replace HA := (HA.below (below_new _ _)).below hb
  have sw14 : Hid (w13.heap.size < w14.heap.size) := by have hq := hb.size; simp at hq; show w13.heap.size < w14.heap.size; omega
  clear hb
  have TG := BG
  obtain ⟨qG0, qG1, qG2, qG3⟩ := TG
  go_wp2_with fail
  refine (heldLogResult_any c u K _ _ cg cg2 _ hK1 hK2 OG.at).mono ?_
  rintro e w15 ⟨rfl, hb⟩
  clear qG0 qG1 qG2 qG3
  replace hB := below_then hB hb
  replace BA := BA.below hb
  replace BW := BW.below hb
  replace BX := BX.below hb
  replace BG := BG.below hb
  replace BH := BH.below hb
  replace OW := OW.below hb
  replace OG := OG.below hb
  replace OH := OH.below hb
  replace HA := HA.below hb
  have sw15 : Hid (w14.heap.size ≤ w15.heap.size) := by have hq := hb.size; show w14.heap.size ≤ w15.heap.size; omega
  clear hb
  go_wp2_with fail
  go_ret
  exact ⟨rfl, hB⟩
theorem crashLaw (L : Lo) (a1 a2 : Option Addr) (c1 c2 : Nat) (kept : Int) (w : World) (hn1 : L.n1 ≤ 9223372036854775807) (hn2 : L.n2 ≤ 9223372036854775807) (hby : LogByt L) (HA0 : LogAt w a1 a2 L) :
    Calls Try.prog 4 #[.agg #[.slice a1 L.n1 c1, .slice a2 L.n2 c2], .int .i64 kept] w fun e w' => e = .returned (.bool true) ∧ Below w.heap.size w w' := by
  have hk : (clL L kept).n1 ≤ 1048576 ∧ (clL L kept).n2 ≤ 1048576 := by
    unfold clL
    by_cases h : clC L kept = 0
    · rw [if_pos h]
      have h0 : lgC L = 0 := by
        by_cases e : lgC L = 0
        · exact e
        · rw [(cl_bad e).1] at h; exact h
      have h1 := (lgC_zero h0).1
      have hx : inB kept 0 (L.n2 : Int) = true := by
        obtain hx | hx := bool_or3 (inB kept 0 (L.n2 : Int))
        · exact hx
        · rw [(cl_range h0 hx).1] at h; omega
      have hxx := inB_iff.1 hx
      have h2 := clM_le L kept.toNat
      exact ⟨by show 13 * clM L kept.toNat ≤ 1048576; omega, by show 0 ≤ 1048576; omega⟩
    · rw [if_neg h]
      exact ⟨by show 0 ≤ 1048576; omega, by show 0 ≤ 1048576; omega⟩
  exact crashLaw_small L a1 a2 c1 c2 kept w hn1 hn2 HA0 (clC L kept) (clS L kept) (clL L kept) hk.1 hk.2 (fun h1 h2 a1 a2 w h => specCl_any L a1 a2 L.n1 L.n2 kept w h1 h2 (Nat.le_refl _) hby h) (fun h1 h2 a1 a2 w h => implCl_any L a1 a2 L.n1 L.n2 kept w h1 h2 (Nat.le_refl _) hby h)
end Go.Proofs.Ytodffoldhckbaaa
