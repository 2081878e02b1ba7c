/- Both FlushLogs, and the law FnExactFlushLog (Ln and Fll in one). -/
import Derived.Test.YtdanabecpmhjhaaLkm
namespace Go.Proofs.Ytdanabecpmhjhaa
open Go.RowKit Go.Deep
set_option linter.unusedVariables false
set_option maxRecDepth 20000

/-- The log that FlushLog leaves. -/
def flL (L : Lo) : Lo := if lgC L = 0 then ⟨L.n1 + L.n2, aZ L, 0, fun _ => 0⟩ else ⟨0, fun _ => 0, 0, fun _ => 0⟩
def flS (L : Lo) : Int := if lgC L = 0 then cnt (aZ L) (L.n1 + L.n2) else 0
/-- An answer that is a log. -/
def LRes (c s : Int) (L : Lo) (w : World) (e : Ending) (w' : World) : Prop :=
  ∃ a1 a2 c1 c2, e = .returned (.agg #[.int .i64 c, .int .i64 s, .slice a1 L.n1 c1, .slice a2 L.n2 c2]) ∧ Below w.heap.size w w' ∧ OwnG w' w.heap.size w'.heap.size a1 a2 L
theorem lres_bad {L : Lo} {w w' : World} (hb : Below w.heap.size w w') (hc : lgC L ≠ 0) : LRes (lgC L) (flS L) (flL L) w (.returned (.agg #[.int .i64 (lgC L), .int .i64 0, .slice none 0 0, .slice none 0 0])) w' := by
  unfold LRes flS flL
  rw [if_neg hc, if_neg hc]
  exact ⟨none, none, 0, 0, rfl, hb, Nat.le_refl _, w.heap.size, w.heap.size, w.heap.size, w.heap.size, Nat.le_refl _, hb.size, Nat.le_refl _, hb.size, .inl (Nat.le_refl _), ⟨hb.size, .inl rfl⟩, ⟨hb.size, .inl rfl⟩⟩
theorem lres_ok {L : Lo} {w wq w' : World} {a : Option Addr} {cap lo : Nat} (hc : lgC L = 0) (hB : Below w.heap.size w wq) (hlo : w.heap.size + 2 ≤ lo) (ho : OwnB wq lo wq.heap.size a (L.n1 + L.n2) (aZ L)) (hw : Writes (w.heap.size + 1) (w.heap.size + 2) wq w') (hs : w'.heap.size = wq.heap.size) :
    LRes (lgC L) (flS L) (flL L) w (.returned (.agg #[.int .i64 0, .int .i64 (cnt (aZ L) (L.n1 + L.n2)), .slice a (L.n1 + L.n2) cap, .slice none 0 0])) w' := by
  unfold LRes flS flL
  rw [if_pos hc, if_pos hc, hc]
  have hz := hB.size
  have h2 := (ho.writes hw (.inr hlo)).wide (lo' := w.heap.size) (hi' := wq.heap.size) (by omega) (Nat.le_refl _) (by omega)
  refine ⟨a, none, cap, 0, rfl, Writes.below hB hw (by omega), ?_⟩
  rw [hs]
  exact ⟨by omega, w.heap.size, wq.heap.size, w.heap.size, w.heap.size, Nat.le_refl _, Nat.le_refl _, Nat.le_refl _, hz, .inr (Nat.le_refl _), h2, ⟨by omega, .inl rfl⟩⟩
theorem lgC_zero {L : Lo} (h : lgC L = 0) : L.n1 + L.n2 ≤ 4000 ∧ 13 * cnt (aZ L) (L.n1 + L.n2) = L.n1 + L.n2 := by
  unfold lgC at h
  by_cases h1 : 4000 < L.n1 + L.n2
  · rw [if_pos h1] at h; omega
  · rw [if_neg h1] at h
    by_cases h2 : 13 * cnt (aZ L) (L.n1 + L.n2) = L.n1 + L.n2
    · exact ⟨by omega, h2⟩
    · rw [if_neg h2] at h; omega
theorem cells7 {w1 w2 : World} {B : Nat} {x0 x1 y0 y1 y2 y3 : Value} (hb : Below w1.heap.size w1 w2) (h0 : w1.cell? ⟨B, 0, none⟩ = some x0) (h1 : w1.cell? ⟨B, 1, none⟩ = some x1)
    (k0 : w1.cell? ⟨B + 1, 0, none⟩ = some y0) (k1 : w1.cell? ⟨B + 1, 1, none⟩ = some y1) (k2 : w1.cell? ⟨B + 1, 2, none⟩ = some y2) (k3 : w1.cell? ⟨B + 1, 3, none⟩ = some y3) (hf : ∀ i, w1.frozen? ⟨B + 1, i, none⟩ = false) :
    w2.cell? ⟨B, 0, none⟩ = some x0 ∧ w2.cell? ⟨B, 1, none⟩ = some x1 ∧ w2.cell? ⟨B + 1, 0, none⟩ = some y0 ∧ w2.cell? ⟨B + 1, 1, none⟩ = some y1 ∧ w2.cell? ⟨B + 1, 2, none⟩ = some y2 ∧ w2.cell? ⟨B + 1, 3, none⟩ = some y3 ∧ ∀ i, w2.frozen? ⟨B + 1, i, none⟩ = false :=
  ⟨cell_below h0 hb, cell_below h1 hb, cell_below k0 hb, cell_below k1 hb, cell_below k2 hb, cell_below k3 hb, fun i => (hb.frozen (p := ⟨B + 1, i, none⟩) (by have := Go.block_lt_of_cell k0; exact this)).trans (hf i)⟩
set_option maxHeartbeats 4000000 in
theorem specFl_any (L : Lo) (a1 a2 : Option Addr) (c1 c2 : Nat) (w : World) (hn1 : L.n1 ≤ 1048576) (hn2 : L.n2 ≤ 1048576) (hby : LogByt L) (h : LogAt w a1 a2 L) :
    Calls Try.prog 31 #[.agg #[.slice a1 L.n1 c1, .slice a2 L.n2 c2]] w (LRes (lgC L) (flS L) (flL L) w) := by
  have hb0 : ∀ o1 o2, Below w.heap.size w ((w.alloc o1).alloc o2) := fun o1 o2 => ((Below.refl _ _).alloc (Nat.le_refl _) _).alloc (by simp) _
  have HA : Hid (LogAt w a1 a2 L) := h
  have HY : Hid (LogByt L) := hby
  clear h hby
  go_enter Try.func31, Try.ntmps31
  go_wp2_with fail
  refine (specLf_any L a1 a2 c1 c2 _ hn1 hn2 HY.out (HA.out.below (hb0 _ _))).mono ?_
  rintro e w1 ⟨rfl, hb1⟩
  obtain ⟨hcc, hff⟩ := bcell hb1
  have hz1 : w.heap.size + 2 ≤ w1.heap.size := by have := hb1.size; simp at this; omega
  have q0 : w1.cell? ⟨w.heap.size, 0, none⟩ = some (.slice a1 L.n1 c1) := by rw [hcc _ _ (by simp <;> omega)]; simp [go_sem]
  have q1 : w1.cell? ⟨w.heap.size, 1, none⟩ = some (.slice a2 L.n2 c2) := by rw [hcc _ _ (by simp <;> omega)]; simp [go_sem]
  have r0 : w1.cell? ⟨w.heap.size + 1, 0, none⟩ = some (.int .i64 0) := by rw [hcc _ _ (by simp <;> omega)]; simp [go_sem]
  have r1 : w1.cell? ⟨w.heap.size + 1, 1, none⟩ = some (.int .i64 0) := by rw [hcc _ _ (by simp <;> omega)]; simp [go_sem]
  have r2 : w1.cell? ⟨w.heap.size + 1, 2, none⟩ = some (.slice none 0 0) := by rw [hcc _ _ (by simp <;> omega)]; simp [go_sem]
  have r3 : w1.cell? ⟨w.heap.size + 1, 3, none⟩ = some (.slice none 0 0) := by rw [hcc _ _ (by simp <;> omega)]; simp [go_sem]
  have fz : ∀ i, w1.frozen? ⟨w.heap.size + 1, i, none⟩ = false := fun i => by rw [hff _ _ (by simp <;> omega)]; simp [go_sem]
  have HB1 : Hid (Below w.heap.size w w1) := below_then (hb0 _ _) hb1
  clear hcc hff hb1 hb0
  by_cases hc : lgC L = 0
  · have HC : Hid (lgC L = 0) := hc
    obtain ⟨hle, hcnt⟩ := lgC_zero hc
    have HQ : Hid ((((L.n1 + L.n2) / 13 : Nat) : Int) = (cnt (aZ L) (L.n1 + L.n2) : Int)) := by show _ = _; omega
    have hle2 : L.n1 + L.n2 ≤ 1048576 := by omega
    have hle3 : L.n1 + L.n2 ≤ 90000 := by omega
    rw [hc]
    clear hc hcnt
    go_wp2_with fail
    go_region_law (first | (go_simp; go_at_call 58; refine (l3Count_any L a1 a2 c1 c2 _ hle2).mono ?_; rintro e wa ⟨rfl, hba⟩; rw [HQ.out]; first | (have hA1 := below_then hF1 hba; have hoA := ho2.below hba; obtain ⟨s0, s1, s2, s3, s4, s5, sf⟩ := cells7 hA1 q0 q1 r0 r1 r2 r3 fz; have HB3 : Hid (Below w.heap.size w wa) := below_then HB1.out hA1; have HO3 : Hid (OwnB wa w1.heap.size wa.heap.size ra (L.n1 + L.n2) (aZ L)) := hoA.wide (Nat.le_refl _) hba.size (Nat.le_refl _)) | (have hA1 := drewB6 hba; obtain ⟨s0, s1, s2, s3, s4, s5, sf⟩ := cells7 hA1 q0 q1 r0 r1 r2 r3 fz)) | (go_simp; go_at_call 62; refine (l3Flush_any L a1 a2 c1 c2 _ hle3 ?_).mono ?_; (first | exact HA.out.below (below_then HB1.out hA1) | exact HA.out.below HB1.out.drew); rintro e wb ⟨ra, rc, rfl, hbb, ho2⟩; first | (have hF2 := below_then hA1 hbb; obtain ⟨t0, t1, t2, t3, t4, t5, tf⟩ := cells7 hF2 q0 q1 r0 r1 r2 r3 fz; have HB3 : Hid (Below w.heap.size w wb) := below_then HB1.out hF2; have HO3 : Hid (OwnB wb w1.heap.size wb.heap.size ra (L.n1 + L.n2) (aZ L)) := ho2.wide hA1.size (Nat.le_refl _) (Nat.le_refl _)) | (have hF1 := drewB6 hbb; obtain ⟨t0, t1, t2, t3, t4, t5, tf⟩ := cells7 hF1 q0 q1 r0 r1 r2 r3 fz)))
    all_goals
      go_wp2_with fail
      refine bodyPost_ret (v := .agg #[.int .i64 0, .int .i64 (cnt (aZ L) (L.n1 + L.n2)), .slice ra (L.n1 + L.n2) rc, .slice none 0 0]) (by simp [results, Try.results31, go_sem, *]) rfl ?_
      refine lres_ok HC.out HB3.out hz1 HO3.out ?_ (by simp [World.setCell])
      repeat (first | exact Writes.refl _ _ _ | refine Writes.setCell ?_ (by first | omega | (simp <;> omega)) (by first | omega | (simp <;> omega)) _)
  · have hd : (lgC L != 0) = true := by simpa using hc
    have HN : Hid (lgC L ≠ 0) := hc
    have HX : Hid (∀ w', Below w.heap.size w w' → LRes (lgC L) (flS L) (flL L) w (.returned (.agg #[.int .i64 (lgC L), .int .i64 0, .slice none 0 0, .slice none 0 0])) w') := fun w' hb => lres_bad hb hc
    clear hc
    generalize lgC L = c at *
    go_wp2_with fail
    refine bodyPost_ret (v := .agg #[.int .i64 c, .int .i64 0, .slice none 0 0, .slice none 0 0]) (by simp [results, Try.results31, go_sem, *]) rfl ?_
    refine HX.out _ ?_
    repeat (first | exact HB1.out | refine Below.setCell ?_ (by first | omega | (simp <;> omega)) _)
theorem joined_twoG (L : Lo) (a1 a2 : Option Addr) (c1 c2 g : Nat) (w : World) (hs : L.n1 + L.n2 ≤ 90000) (h0 : w.cell? ⟨g, 0, none⟩ = some (.slice a1 L.n1 c1)) (h1 : w.cell? ⟨g, 1, none⟩ = some (.slice a2 L.n2 c2)) (h : LogAt w a1 a2 L) :
    Calls Try.prog 60 #[.slice (some ⟨g, 0, none⟩) 2 2] w fun e w' => ∃ ra rc, e = .returned (.slice ra (L.n1 + L.n2) rc) ∧ L.n1 + L.n2 ≤ rc ∧ Below w.heap.size w w' ∧ BytesAt w' ra (L.n1 + L.n2) (aZ L) := by
  refine (joined_any 2 (two' a1 a2) (two' L.n1 L.n2) (two' c1 c2) (two' L.z1 L.z2) g 0 2 _ (by simp [sumL, two']; omega) (Go.block_lt_of_cell h0) (fun i hi => ?_) (by omega)).mono ?_
  · rcases (by omega : i = 0 ∨ i = 1) with rfl | rfl
    · exact ⟨h0, h.1⟩
    · exact ⟨h1, h.2⟩
  · rintro e w' ⟨v, rfl, hb1, ho⟩
    rw [jn_two] at ho
    obtain ⟨ra, rc, rfl, hrc, hown⟩ := (allAt_of ho).own
    exact ⟨ra, rc, rfl, hrc, hb1, hown.at⟩
theorem two_at (X : World) (x y : Value) (t : TypeId) : (X.alloc (.cells #[x, y] t)).cell? ⟨X.heap.size, 0, none⟩ = some x ∧ (X.alloc (.cells #[x, y] t)).cell? ⟨X.heap.size, 1, none⟩ = some y := ⟨by simp, by simp⟩
theorem two_at2 (w : World) (o : Obj) (x y : Value) (t : TypeId) : ((w.alloc o).alloc (.cells #[x, y] t)).drew.cell? ⟨w.heap.size + 1, 0, none⟩ = some x ∧ ((w.alloc o).alloc (.cells #[x, y] t)).drew.cell? ⟨w.heap.size + 1, 1, none⟩ = some y := by
  have h := two_at (w.alloc o) x y t
  rw [World.size_alloc] at h
  exact h
theorem drewB7 {w : World} {o1 o2 : Obj} {w2 : World} (hb : Below ((w.alloc o1).alloc o2).drew.heap.size ((w.alloc o1).alloc o2).drew w2) : Below w.heap.size w w2 := below_then (below_then (below_new _ _) (below_new _ _)) (((Below.refl _ _).drew).trans hb)
theorem box3_at {w w2 : World} {x y z : Value} {t : TypeId} {o2 : Obj} (hb : Below ((w.alloc (.cells #[x, y, z] t)).alloc o2).drew.heap.size ((w.alloc (.cells #[x, y, z] t)).alloc o2).drew w2) :
    w2.cell? ⟨w.heap.size, 0, none⟩ = some x ∧ w2.cell? ⟨w.heap.size, 1, none⟩ = some y ∧ w2.cell? ⟨w.heap.size, 2, none⟩ = some z := by
  have h : Below (w.alloc (.cells #[x, y, z] t)).heap.size (w.alloc (.cells #[x, y, z] t)) w2 := below_then (below_new _ _) (((Below.refl _ _).drew).trans hb)
  exact ⟨cell_below (by simp) h, cell_below (by simp) h, cell_below (by simp) h⟩
set_option maxHeartbeats 4000000 in
theorem implFl_any (L : Lo) (a1 a2 : Option Addr) (c1 c2 : Nat) (w : World) (hn1 : L.n1 ≤ 1048576) (hn2 : L.n2 ≤ 1048576) (hby : LogByt L) (h : LogAt w a1 a2 L) :
    Calls Try.prog 32 #[.agg #[.slice a1 L.n1 c1, .slice a2 L.n2 c2]] w (LRes (lgC L) (flS L) (flL L) w) := by
  have hb0 : ∀ o1 o2, Below w.heap.size w ((w.alloc o1).alloc o2) := fun o1 o2 => ((Below.refl _ _).alloc (Nat.le_refl _) _).alloc (by simp) _
  have HA : Hid (LogAt w a1 a2 L) := h
  have HY : Hid (LogByt L) := hby
  clear h hby
  go_enter Try.func32, Try.ntmps32
  go_wp2_with fail
  refine (readLog_any L a1 a2 c1 c2 _ hn1 hn2 HY.out (HA.out.below (hb0 _ _))).mono ?_
  rintro e w1 ⟨rb, rcp, u, m, rfl, HE, hb1, -⟩
  obtain ⟨hcc, hff⟩ := bcell hb1
  have hz1 : w.heap.size + 2 ≤ w1.heap.size := by have := hb1.size; simp at this; omega
  have q0 : w1.cell? ⟨w.heap.size, 0, none⟩ = some (.slice a1 L.n1 c1) := by rw [hcc _ _ (by simp <;> omega)]; simp [go_sem]
  have q1 : w1.cell? ⟨w.heap.size, 1, none⟩ = some (.slice a2 L.n2 c2) := by rw [hcc _ _ (by simp <;> omega)]; simp [go_sem]
  have r0 : w1.cell? ⟨w.heap.size + 1, 0, none⟩ = some (.int .i64 0) := by rw [hcc _ _ (by simp <;> omega)]; simp [go_sem]
  have r1 : w1.cell? ⟨w.heap.size + 1, 1, none⟩ = some (.int .i64 0) := by rw [hcc _ _ (by simp <;> omega)]; simp [go_sem]
  have r2 : w1.cell? ⟨w.heap.size + 1, 2, none⟩ = some (.slice none 0 0) := by rw [hcc _ _ (by simp <;> omega)]; simp [go_sem]
  have r3 : w1.cell? ⟨w.heap.size + 1, 3, none⟩ = some (.slice none 0 0) := by rw [hcc _ _ (by simp <;> omega)]; simp [go_sem]
  have fz : ∀ i, w1.frozen? ⟨w.heap.size + 1, i, none⟩ = false := fun i => by rw [hff _ _ (by simp <;> omega)]; simp [go_sem]
  have p0 := fun o : Obj => cell_alloc q0 o
  have p1 := fun o : Obj => cell_alloc q1 o
  have s0 := fun o : Obj => cell_alloc r0 o
  have s1 := fun o : Obj => cell_alloc r1 o
  have s2 := fun o : Obj => cell_alloc r2 o
  have s3 := fun o : Obj => cell_alloc r3 o
  have sf : ∀ i c t, (w1.alloc (.cells c t)).frozen? ⟨w.heap.size + 1, i, none⟩ = false := fun i c t => by rw [frozen?_alloc_cells]; exact fz i
  have HB1 : Hid (Below w.heap.size w w1) := below_then (hb0 _ _) hb1
  clear hcc hff hb1 hb0
  by_cases hc : lgC L = 0
  · have HC : Hid (lgC L = 0) := hc
    obtain ⟨hle, hcnt⟩ := lgC_zero hc
    obtain ⟨hm, hu⟩ := HE.out
    rw [if_pos hc] at hm
    have hu2 : u = ((L.n1 + L.n2 : Nat) : Int) := by rw [hu, hm]; omega
    subst hu2
    have HM : Hid ((m : Int) = (cnt (aZ L) (L.n1 + L.n2) : Int)) := by show _ = _; rw [hm]
    have hle3 : L.n1 + L.n2 ≤ 90000 := by omega
    rw [hc]
    have HLA : Hid (∀ o1 o2, LogAt ((w1.alloc o1).alloc o2).drew a1 a2 L) := fun o1 o2 => (HA.out.below HB1.out).below (((Below.refl _ _).alloc (Nat.le_refl _) _).alloc (by simp) _).drew
    clear hc hcnt hm hu HE
    go_wp2_with fail
    go_region_law (first | (go_simp; go_at_call 60; refine (joined_twoG L a1 a2 c1 c2 (w1.heap.size + 1) _ hle3 (two_at2 w1 _ _ _ _).1 (two_at2 w1 _ _ _ _).2 (HLA.out _ _)).mono ?_; rintro e w5 ⟨ra, rc, rfl, hrc, hb5, hby5⟩; obtain ⟨y0, y1, y2⟩ := box3_at hb5; have hB5 := drewB7 hb5; obtain ⟨t0, t1, t2, t3, t4, t5, tf⟩ := cells7 hB5 q0 q1 r0 r1 r2 r3 fz) | (go_simp; go_at_call 63; refine (sureLog_any (L.n1 + L.n2) (L.n1 + L.n2) m (aZ L) ra rb rc rcp 0 w5 (Nat.le_refl _) hrc hle3 hby5).mono ?_; rintro e w6 ⟨a6, cp6, rfl, hb6, ho6⟩; obtain ⟨u0, u1, u2, u3, u4, u5, uf⟩ := cells7 hb6 t0 t1 t2 t3 t4 t5 tf; have HB6 : Hid (Below w.heap.size w w6) := below_then HB1.out (below_then hB5 hb6); have HO6 : Hid (OwnB w6 w5.heap.size w6.heap.size a6 (L.n1 + L.n2) (aZ L)) := ho6; have hz5 := Nat.le_trans hz1 hB5.size))
    all_goals
      clear hb5 hby5 hB5 t0 t1 t2 t3 t4 t5 tf hb6 ho6 y0 y1 y2
      rw [HM.out]
      go_wp2_with fail
      refine bodyPost_ret (v := .agg #[.int .i64 0, .int .i64 (cnt (aZ L) (L.n1 + L.n2)), .slice a6 (L.n1 + L.n2) cp6, .slice none 0 0]) (by simp [results, Try.results32, go_sem, *]) rfl ?_
      refine lres_ok HC.out HB6.out hz5 HO6.out ?_ (by simp [World.setCell])
      repeat (first | exact Writes.refl _ _ _ | refine Writes.setCell ?_ (by first | omega | (simp <;> omega)) (by first | omega | (simp <;> omega)) _)
  · have hd : (lgC L != 0) = true := by simpa using hc
    have HX : Hid (∀ w', Below w.heap.size w w' → LRes (lgC L) (flS L) (flL L) w (.returned (.agg #[.int .i64 (lgC L), .int .i64 0, .slice none 0 0, .slice none 0 0])) w') := fun w' hb => lres_bad hb hc
    clear hc HE
    generalize lgC L = c at *
    go_wp2_with fail
    refine bodyPost_ret (v := .agg #[.int .i64 c, .int .i64 0, .slice none 0 0, .slice none 0 0]) (by simp [results, Try.results32, go_sem, *]) rfl ?_
    refine HX.out _ ?_
    repeat (first | exact HB1.out.alloc HB1.out.size _ | refine Below.setCell ?_ (by first | omega | (simp <;> omega)) _)

set_option maxHeartbeats 8000000 in
theorem flushLaw_small (L : Lo) (a1 a2 : Option Addr) (c1 c2 : Nat) (w : World) (hn1 : L.n1 ≤ 9223372036854775807) (hn2 : L.n2 ≤ 9223372036854775807) (HA0 : LogAt w a1 a2 L) (c u : Int) (K : Lo) (hK1 : K.n1 ≤ 1048576) (hK2 : K.n2 ≤ 1048576)
    (HP : Hid (L.n1 ≤ 1048576 → L.n2 ≤ 1048576 → ∀ (a1 a2 : Option Addr) (w : World), LogAt w a1 a2 L → Calls Try.prog 31 #[.agg #[.slice a1 L.n1 L.n1, .slice a2 L.n2 L.n2]] w fun e w' => ∃ a a' cap cap', e = .returned (.agg #[.int .i64 c, .int .i64 u, .slice a K.n1 cap, .slice a' K.n2 cap']) ∧ Below w.heap.size w w' ∧ OwnG w' w.heap.size w'.heap.size a a' K))
    (HQ : Hid (L.n1 ≤ 1048576 → L.n2 ≤ 1048576 → ∀ (a1 a2 : Option Addr) (w : World), LogAt w a1 a2 L → Calls Try.prog 32 #[.agg #[.slice a1 L.n1 L.n1, .slice a2 L.n2 L.n2]] w fun e w' => ∃ a a' cap cap', e = .returned (.agg #[.int .i64 c, .int .i64 u, .slice a K.n1 cap, .slice a' K.n2 cap']) ∧ Below w.heap.size w w' ∧ OwnG w' w.heap.size w'.heap.size a a' K)) :
    Calls Try.prog 6 #[.agg #[.slice a1 L.n1 c1, .slice a2 L.n2 c2]] w fun e w' => e = .returned (.bool true) ∧ Below w.heap.size w w' := by
  go_enter Try.func6, Try.ntmps6
  go_wp2_with fail
  refine (szLog_any L a1 a2 c1 c2 _ hn1 hn2).mono ?_
  rintro e w1 ⟨hb, r, rfl, hr⟩
  have hB : Below w.heap.size w w1 := below_then (below_new _ _) hb
  rcases hr with rfl | ⟨hr0, hr1⟩
  · go_wp2_with fail
    go_ret
    exact ⟨rfl, hB⟩
  have hs1 : L.n1 ≤ 1048576 := by omega
  have hs2 : L.n2 ≤ 1048576 := by omega
  have HS : Hid (L.n1 ≤ 1048576 ∧ L.n2 ≤ 1048576) := ⟨hs1, hs2⟩
  have BA := (Box2.new w (.slice a1 L.n1 c1) (.slice a2 L.n2 c2) 34).below hb
  have HA := HA0.below hB
  have sw1 : Hid (w.heap.size < w1.heap.size) := by have hq := hb.size; simp at hq; show w.heap.size < w1.heap.size; omega
  have hneg : ¬ (r < 0) := by omega
  clear hb hr0 hr1 hn1 hn2
  have hneg2 : ¬ ((1 : Int) + ((L.n1 + L.n2 : Nat) : Int) < 0) := by omega
  have hneg3 : ¬ ((1 : Int) + ((K.n1 + K.n2 : Nat) : Int) < 0) := by omega
  have TA := BA
  obtain ⟨qA0, qA1⟩ := TA
  go_wp2_with fail
  refine (toLog_any L a1 a2 c1 c2 _ HS.out.1 HS.out.2 HA).mono ?_
  rintro e w2 ⟨b1, b2, rfl, hb, ho⟩
  clear qA0 qA1
  replace hB := below_then hB hb
  replace BA := BA.below hb
  replace HA := HA.below hb
  have sw2 : Hid (w1.heap.size ≤ w2.heap.size) := by have hq := hb.size; show w1.heap.size ≤ w2.heap.size; omega
  have OT := ho.wide (Nat.le_refl _) (Nat.le_refl _) (Nat.le_refl _)
  clear ho
  clear hb
  go_wp2_with fail
  refine (HP.out HS.out.1 HS.out.2 _ _ _ OT.at).mono ?_
  rintro e w3 ⟨aw, aw2, cw, cw2, rfl, hb, OW⟩
  replace hB := below_then hB hb
  replace BA := BA.below hb
  replace OT := OT.below hb
  replace HA := HA.below hb
  have sw3 : Hid (w2.heap.size ≤ w3.heap.size) := by have hq := hb.size; show w2.heap.size ≤ w3.heap.size; omega
  clear hb
  clear OT
  have TA := BA
  obtain ⟨qA0, qA1⟩ := TA
  have rA0 := fun o : Obj => cell_alloc qA0 o
  have rA1 := fun o : Obj => cell_alloc qA1 o
  go_wp2_with fail
  refine (toLog_any L a1 a2 c1 c2 _ HS.out.1 HS.out.2 (HA.below (below_new _ _))).mono ?_
  rintro e w4 ⟨bx, bx2, rfl, hb, ho⟩
  clear qA0 qA1 rA0 rA1
  replace hB := below_then hB (below_then (below_new _ _) hb)
  replace BA := (BA.alloc _).below hb
  have BW := (Box4.new w3 (.int .i64 c) (.int .i64 u) (.slice aw K.n1 cw) (.slice aw2 K.n2 cw2) 44).below hb
  replace OW := (OW.below (below_new _ _)).below hb
  replace HA := (HA.below (below_new _ _)).below hb
  have sw4 : Hid (w3.heap.size < w4.heap.size) := by have hq := hb.size; simp at hq; show w3.heap.size < w4.heap.size; omega
  have OX : OwnG w4 (w3.heap.size + 1) w4.heap.size _ _ L := ho.wide (by simp) (Nat.le_refl _) (Nat.le_refl _)
  clear ho
  clear hb
  go_wp2_with fail
  refine (HQ.out HS.out.1 HS.out.2 _ _ _ (OX.at.below (below_new _ _))).mono ?_
  rintro e w5 ⟨ag, ag2, cg, cg2, rfl, hb, ho⟩
  replace hB := below_then hB (below_then (below_new _ _) hb)
  replace BA := (BA.alloc _).below hb
  replace BW := (BW.alloc _).below hb
  have BX := (Box2.new w4 (.slice (some ⟨bx, 0, none⟩) L.n1 L.n1) (.slice (some ⟨bx2, 0, none⟩) L.n2 L.n2) 37).below hb
  replace OW := (OW.below (below_new _ _)).below hb
  replace OX := (OX.below (below_new _ _)).below hb
  replace HA := (HA.below (below_new _ _)).below hb
  have sw5 : Hid (w4.heap.size < w5.heap.size) := by have hq := hb.size; simp at hq; show w4.heap.size < w5.heap.size; omega
  have OG : OwnG w5 (w4.heap.size + 1) w5.heap.size ag ag2 K := ho.wide (by simp) (Nat.le_refl _) (Nat.le_refl _)
  clear ho
  clear hb
  have TW := BW
  obtain ⟨qW0, qW1, qW2, qW3⟩ := TW
  have rW0 := fun o : Obj => cell_alloc qW0 o
  have rW1 := fun o : Obj => cell_alloc qW1 o
  have rW2 := fun o : Obj => cell_alloc qW2 o
  have rW3 := fun o : Obj => cell_alloc qW3 o
  go_wp2_with fail
  refine (eqLogResult_same c u K ag ag2 aw aw2 cg cg2 cw cw2 _ hK1 hK2 (OG.at.below (below_new _ _)) (OW.at.below (below_new _ _))).mono ?_
  rintro e w6 ⟨rfl, hb⟩
  clear qW0 qW1 qW2 qW3 rW0 rW1 rW2 rW3
  replace hB := below_then hB (below_then (below_new _ _) hb)
  replace BA := (BA.alloc _).below hb
  replace BW := (BW.alloc _).below hb
  replace BX := (BX.alloc _).below hb
  have BG := (Box4.new w5 (.int .i64 c) (.int .i64 u) (.slice ag K.n1 cg) (.slice ag2 K.n2 cg2) 44).below hb
  replace OW := (OW.below (below_new _ _)).below hb
  replace OX := (OX.below (below_new _ _)).below hb
  replace OG := (OG.below (below_new _ _)).below hb
  replace HA := (HA.below (below_new _ _)).below hb
  have sw6 : Hid (w5.heap.size < w6.heap.size) := by have hq := hb.size; simp at hq; show w5.heap.size < w6.heap.size; omega
  clear hb
  have TX := BX
  obtain ⟨qX0, qX1⟩ := TX
  have TA := BA
  obtain ⟨qA0, qA1⟩ := TA
  go_wp2_with fail
  have hb0 : Below w6.heap.size w6 w6.drew := (Below.refl _ _).drew
  go_region_held3 (fun w' => Below w6.heap.size w6 w' ∧ w'.cell? ⟨w4.heap.size, 0, none⟩ = some (.slice (some ⟨bx, 0, none⟩) L.n1 L.n1) ∧ w'.cell? ⟨w4.heap.size, 1, none⟩ = some (.slice (some ⟨bx2, 0, none⟩) L.n2 L.n2) ∧ w'.cell? ⟨w.heap.size, 0, none⟩ = some (.slice a1 L.n1 c1) ∧ w'.cell? ⟨w.heap.size, 1, none⟩ = some (.slice a2 L.n2 c2)) (go_keep)
    (first | (go_at_call 21; refine (toLog_any L a1 a2 c1 c2 _ HS.out.1 HS.out.2 (HA.below (by simp [*]))).mono ?_; rintro e wq ⟨bq, bq2, rfl, hbq, hoq⟩; have hU := below_then (w := w6) (by simp [*]) hbq; have hU0 := cell_below (B := w4.heap.size) (o := 0) (v := .slice (some ⟨bx, 0, none⟩) L.n1 L.n1) (by simp [*]) hbq; have hU1 := cell_below (B := w4.heap.size) (o := 1) (v := .slice (some ⟨bx2, 0, none⟩) L.n2 L.n2) (by simp [*]) hbq; have hU2 := cell_below (B := w.heap.size) (o := 0) (v := .slice a1 L.n1 c1) (by simp [*]) hbq; have hU3 := cell_below (B := w.heap.size) (o := 1) (v := .slice a2 L.n2 c2) (by simp [*]) hbq) | (go_at_call 23; refine (eqLog_same L _ _ _ _ L.n1 L.n2 L.n1 L.n2 _ HS.out.1 HS.out.2 (OX.at.below (by simp [*])) hoq.at).mono ?_; rintro e w7 ⟨rfl, hbz⟩; have hS := below_then (w := w6) (by simp [*]) hbz; have hS0 := cell_below (B := w4.heap.size) (o := 0) (v := .slice (some ⟨bx, 0, none⟩) L.n1 L.n1) (by simp [*]) hbz; have hS1 := cell_below (B := w4.heap.size) (o := 1) (v := .slice (some ⟨bx2, 0, none⟩) L.n2 L.n2) (by simp [*]) hbz; have hS2 := cell_below (B := w.heap.size) (o := 0) (v := .slice a1 L.n1 c1) (by simp [*]) hbz; have hS3 := cell_below (B := w.heap.size) (o := 1) (v := .slice a2 L.n2 c2) (by simp [*]) hbz))
  clear qX0 qX1 qA0 qA1
  clear hb0 hU hU0 hU1 hU2 hU3 hS0 hS1 hS2 hS3 hbq hoq hbz
  replace hB := below_then hB hS
  replace BA := BA.below hS
  replace BW := BW.below hS
  replace BX := BX.below hS
  replace BG := BG.below hS
  replace OW := OW.below hS
  replace OX := OX.below hS
  replace OG := OG.below hS
  replace HA := HA.below hS
  have sw7 : Hid (w6.heap.size ≤ w7.heap.size) := by have hq := hS.size; show w6.heap.size ≤ w7.heap.size; omega
  clear hS
  have TX := BX
  obtain ⟨qX0, qX1⟩ := TX
  go_wp2_with fail
  refine (markLog_any L _ _ L.n1 L.n2 (w3.heap.size + 1) w4.heap.size 1 _ HS.out.1 HS.out.2 (by omega) (by omega) OX).mono ?_
  rintro e w8 ⟨rfl, hw, hox⟩
  clear qX0 qX1
  replace hB := Writes.below hB hw (by have t0 := sw1.out; have t1 := sw2.out; have t2 := sw3.out; have t3 := sw4.out; have t4 := sw5.out; have t5 := sw6.out; have t6 := sw7.out; omega)
  replace BA := BA.writes hw (by have t0 := sw1.out; have t1 := sw2.out; have t2 := sw3.out; have t3 := sw4.out; have t4 := sw5.out; have t5 := sw6.out; have t6 := sw7.out; omega)
  replace BW := BW.writes hw (by have t0 := sw1.out; have t1 := sw2.out; have t2 := sw3.out; have t3 := sw4.out; have t4 := sw5.out; have t5 := sw6.out; have t6 := sw7.out; omega)
  replace BX := BX.writes hw (by have t0 := sw1.out; have t1 := sw2.out; have t2 := sw3.out; have t3 := sw4.out; have t4 := sw5.out; have t5 := sw6.out; have t6 := sw7.out; omega)
  replace BG := BG.writes hw (by have t0 := sw1.out; have t1 := sw2.out; have t2 := sw3.out; have t3 := sw4.out; have t4 := sw5.out; have t5 := sw6.out; have t6 := sw7.out; omega)
  replace OW := OW.writes hw (by have t0 := sw1.out; have t1 := sw2.out; have t2 := sw3.out; have t3 := sw4.out; have t4 := sw5.out; have t5 := sw6.out; have t6 := sw7.out; omega)
  replace OG := OG.writes hw (by have t0 := sw1.out; have t1 := sw2.out; have t2 := sw3.out; have t3 := sw4.out; have t4 := sw5.out; have t5 := sw6.out; have t6 := sw7.out; omega)
  replace HA := HA0.below hB
  have sw8 : Hid (w7.heap.size ≤ w8.heap.size) := by have hq := hw.size; show w7.heap.size ≤ w8.heap.size; omega
  clear hw
  clear hox OX
  have TG := BG
  obtain ⟨qG0, qG1, qG2, qG3⟩ := TG
  have TW := BW
  obtain ⟨qW0, qW1, qW2, qW3⟩ := TW
  go_wp2_with fail
  refine (eqLogResult_same c u K ag ag2 aw aw2 cg cg2 cw cw2 _ hK1 hK2 OG.at OW.at).mono ?_
  rintro e w9 ⟨rfl, hb⟩
  clear qG0 qG1 qG2 qG3 qW0 qW1 qW2 qW3
  replace hB := below_then hB hb
  replace BA := BA.below hb
  replace BW := BW.below hb
  replace BX := BX.below hb
  replace BG := BG.below hb
  replace OW := OW.below hb
  replace OG := OG.below hb
  replace HA := HA.below hb
  have sw9 : Hid (w8.heap.size ≤ w9.heap.size) := by have hq := hb.size; show w8.heap.size ≤ w9.heap.size; omega
  clear hb
  have TG := BG
  obtain ⟨qG0, qG1, qG2, qG3⟩ := TG
  go_wp2_with fail
  refine (markLogResult_any c u K _ _ cg cg2 (w4.heap.size + 1) w5.heap.size _ hK1 hK2 OG).mono ?_
  rintro e w10 ⟨rfl, hw, hog⟩
  clear qG0 qG1 qG2 qG3
  replace hB := Writes.below hB hw (by have t0 := sw1.out; have t1 := sw2.out; have t2 := sw3.out; have t3 := sw4.out; have t4 := sw5.out; have t5 := sw6.out; have t6 := sw7.out; have t7 := sw8.out; have t8 := sw9.out; omega)
  replace BA := BA.writes hw (by have t0 := sw1.out; have t1 := sw2.out; have t2 := sw3.out; have t3 := sw4.out; have t4 := sw5.out; have t5 := sw6.out; have t6 := sw7.out; have t7 := sw8.out; have t8 := sw9.out; omega)
  replace BW := BW.writes hw (by have t0 := sw1.out; have t1 := sw2.out; have t2 := sw3.out; have t3 := sw4.out; have t4 := sw5.out; have t5 := sw6.out; have t6 := sw7.out; have t7 := sw8.out; have t8 := sw9.out; omega)
  replace BX := BX.writes hw (by have t0 := sw1.out; have t1 := sw2.out; have t2 := sw3.out; have t3 := sw4.out; have t4 := sw5.out; have t5 := sw6.out; have t6 := sw7.out; have t7 := sw8.out; have t8 := sw9.out; omega)
  replace BG := BG.writes hw (by have t0 := sw1.out; have t1 := sw2.out; have t2 := sw3.out; have t3 := sw4.out; have t4 := sw5.out; have t5 := sw6.out; have t6 := sw7.out; have t7 := sw8.out; have t8 := sw9.out; omega)
  replace OW := OW.writes hw (by have t0 := sw1.out; have t1 := sw2.out; have t2 := sw3.out; have t3 := sw4.out; have t4 := sw5.out; have t5 := sw6.out; have t6 := sw7.out; have t7 := sw8.out; have t8 := sw9.out; omega)
  replace HA := HA0.below hB
  have sw10 : Hid (w9.heap.size ≤ w10.heap.size) := by have hq := hw.size; show w9.heap.size ≤ w10.heap.size; omega
  clear hw
  clear OG
  have OG := hog
  clear hog
  have TG := BG
  obtain ⟨qG0, qG1, qG2, qG3⟩ := TG
  go_wp2_with fail
  refine (heldLogResult_any c u K _ _ cg cg2 _ hK1 hK2 OG.at).mono ?_
  rintro e w11 ⟨rfl, hb⟩
  clear qG0 qG1 qG2 qG3
  replace hB := below_then hB hb
  replace BA := BA.below hb
  replace BW := BW.below hb
  replace BX := BX.below hb
  replace BG := BG.below hb
  replace OW := OW.below hb
  replace OG := OG.below hb
  replace HA := HA.below hb
  have sw11 : Hid (w10.heap.size ≤ w11.heap.size) := by have hq := hb.size; show w10.heap.size ≤ w11.heap.size; omega
  clear hb
  have TA := BA
  obtain ⟨qA0, qA1⟩ := TA
  go_wp2_with fail
  refine (toLog_any L a1 a2 c1 c2 _ HS.out.1 HS.out.2 HA).mono ?_
  rintro e w12 ⟨bv, bv2, rfl, hb, ho⟩
  clear qA0 qA1
  replace hB := below_then hB hb
  replace BA := BA.below hb
  replace BW := BW.below hb
  replace BX := BX.below hb
  replace BG := BG.below hb
  replace OW := OW.below hb
  replace OG := OG.below hb
  replace HA := HA.below hb
  have sw12 : Hid (w11.heap.size ≤ w12.heap.size) := by have hq := hb.size; show w11.heap.size ≤ w12.heap.size; omega
  have OT := ho.wide (Nat.le_refl _) (Nat.le_refl _) (Nat.le_refl _)
  clear ho
  clear hb
  go_wp2_with fail
  refine (HQ.out HS.out.1 HS.out.2 _ _ _ OT.at).mono ?_
  rintro e w13 ⟨ah, ah2, ch, ch2, rfl, hb, OH⟩
  replace hB := below_then hB hb
  replace BA := BA.below hb
  replace BW := BW.below hb
  replace BX := BX.below hb
  replace BG := BG.below hb
  replace OW := OW.below hb
  replace OG := OG.below hb
  replace OT := OT.below hb
  replace HA := HA.below hb
  have sw13 : Hid (w12.heap.size ≤ w13.heap.size) := by have hq := hb.size; show w12.heap.size ≤ w13.heap.size; omega
  clear hb
  clear OT
  have TW := BW
  obtain ⟨qW0, qW1, qW2, qW3⟩ := TW
  have rW0 := fun o : Obj => cell_alloc qW0 o
  have rW1 := fun o : Obj => cell_alloc qW1 o
  have rW2 := fun o : Obj => cell_alloc qW2 o
  have rW3 := fun o : Obj => cell_alloc qW3 o
  go_wp2_with fail
  refine (eqLogResult_same c u K ah ah2 aw aw2 ch ch2 cw cw2 _ hK1 hK2 (OH.at.below (below_new _ _)) (OW.at.below (below_new _ _))).mono ?_
  rintro e w14 ⟨rfl, hb⟩
  clear qW0 qW1 qW2 qW3 rW0 rW1 rW2 rW3
  replace hB := below_then hB (below_then (below_new _ _) hb)
  replace BA := (BA.alloc _).below hb
  replace BW := (BW.alloc _).below hb
  replace BX := (BX.alloc _).below hb
  replace BG := (BG.alloc _).below hb
  have BH := (Box4.new w13 (.int .i64 c) (.int .i64 u) (.slice ah K.n1 ch) (.slice ah2 K.n2 ch2) 44).below hb
  replace OW := (OW.below (below_new _ _)).below hb
  replace OG := (OG.below (below_new _ _)).below hb
  replace OH := (OH.below (below_new _ _)).below hb
  replace HA := (HA.below (below_new _ _)).below hb
  have sw14 : Hid (w13.heap.size < w14.heap.size) := by have hq := hb.size; simp at hq; show w13.heap.size < w14.heap.size; omega
  clear hb
  have TG := BG
  obtain ⟨qG0, qG1, qG2, qG3⟩ := TG
  go_wp2_with fail
  refine (heldLogResult_any c u K _ _ cg cg2 _ hK1 hK2 OG.at).mono ?_
  rintro e w15 ⟨rfl, hb⟩
  clear qG0 qG1 qG2 qG3
  replace hB := below_then hB hb
  replace BA := BA.below hb
  replace BW := BW.below hb
  replace BX := BX.below hb
  replace BG := BG.below hb
  replace BH := BH.below hb
  replace OW := OW.below hb
  replace OG := OG.below hb
  replace OH := OH.below hb
  replace HA := HA.below hb
  have sw15 : Hid (w14.heap.size ≤ w15.heap.size) := by have hq := hb.size; show w14.heap.size ≤ w15.heap.size; omega
  clear hb
  go_wp2_with fail
  go_ret
  exact ⟨rfl, hB⟩
theorem flushLaw (L : Lo) (a1 a2 : Option Addr) (c1 c2 : Nat) (w : World) (hn1 : L.n1 ≤ 9223372036854775807) (hn2 : L.n2 ≤ 9223372036854775807) (hby : LogByt L) (HA0 : LogAt w a1 a2 L) :
    Calls Try.prog 6 #[.agg #[.slice a1 L.n1 c1, .slice a2 L.n2 c2]] w fun e w' => e = .returned (.bool true) ∧ Below w.heap.size w w' := by
  have hk : (flL L).n1 ≤ 1048576 ∧ (flL L).n2 ≤ 1048576 := by
    unfold flL
    by_cases h : lgC L = 0
    · rw [if_pos h]
      have := (lgC_zero h).1
      exact ⟨by show L.n1 + L.n2 ≤ 1048576; omega, by show 0 ≤ 1048576; omega⟩
    · rw [if_neg h]
      exact ⟨by show 0 ≤ 1048576; omega, by show 0 ≤ 1048576; omega⟩
  exact flushLaw_small L a1 a2 c1 c2 w hn1 hn2 HA0 (lgC L) (flS L) (flL L) hk.1 hk.2 (fun h1 h2 a1 a2 w h => specFl_any L a1 a2 L.n1 L.n2 w h1 h2 hby h) (fun h1 h2 a1 a2 w h => implFl_any L a1 a2 L.n1 L.n2 w h1 h2 hby h)
end Go.Proofs.Ytdanabecpmhjhaa
