/- CrashLog: what it answers; spec.l3Crash. -/
import Derived.Test.YtaokclhcmgbgnaaGreatQLm
namespace Go.Proofs.YtaokclhcmgbgnaaGreat
open Go.RowKit Go.Deep
set_option linter.unusedVariables false
set_option maxRecDepth 20000

/-- The log that FlushLog leaves. -/
def flL (L : Lo) : Lo := if lgC L = 0 then ⟨L.n1 + L.n2, aZ L, 0, fun _ => 0⟩ else ⟨0, fun _ => 0, 0, fun _ => 0⟩
def flS (L : Lo) : Int := if lgC L = 0 then cnt (aZ L) (L.n1 + L.n2) else 0
/-- An answer that is a log. -/
def LRes (c s : Int) (L : Lo) (w : World) (e : Ending) (w' : World) : Prop :=
  ∃ a1 a2 c1 c2, e = .returned (.agg #[.int .i64 c, .int .i64 s, .slice a1 L.n1 c1, .slice a2 L.n2 c2]) ∧ Below w.heap.size w w' ∧ OwnG w' w.heap.size w'.heap.size a1 a2 L
theorem lres_bad {L : Lo} {w w' : World} (hb : Below w.heap.size w w') (hc : lgC L ≠ 0) : LRes (lgC L) (flS L) (flL L) w (.returned (.agg #[.int .i64 (lgC L), .int .i64 0, .slice none 0 0, .slice none 0 0])) w' := by
  unfold LRes flS flL
  rw [if_neg hc, if_neg hc]
  exact ⟨none, none, 0, 0, rfl, hb, Nat.le_refl _, w.heap.size, w.heap.size, w.heap.size, w.heap.size, Nat.le_refl _, hb.size, Nat.le_refl _, hb.size, .inl (Nat.le_refl _), ⟨hb.size, .inl rfl⟩, ⟨hb.size, .inl rfl⟩⟩
theorem lres_ok {L : Lo} {w wq w' : World} {a : Option Addr} {cap lo : Nat} (hc : lgC L = 0) (hB : Below w.heap.size w wq) (hlo : w.heap.size + 2 ≤ lo) (ho : OwnB wq lo wq.heap.size a (L.n1 + L.n2) (aZ L)) (hw : Writes (w.heap.size + 1) (w.heap.size + 2) wq w') (hs : w'.heap.size = wq.heap.size) :
    LRes (lgC L) (flS L) (flL L) w (.returned (.agg #[.int .i64 0, .int .i64 (cnt (aZ L) (L.n1 + L.n2)), .slice a (L.n1 + L.n2) cap, .slice none 0 0])) w' := by
  unfold LRes flS flL
  rw [if_pos hc, if_pos hc, hc]
  have hz := hB.size
  have h2 := (ho.writes hw (.inr hlo)).wide (lo' := w.heap.size) (hi' := wq.heap.size) (by omega) (Nat.le_refl _) (by omega)
  refine ⟨a, none, cap, 0, rfl, Writes.below hB hw (by omega), ?_⟩
  rw [hs]
  exact ⟨by omega, w.heap.size, wq.heap.size, w.heap.size, w.heap.size, Nat.le_refl _, Nat.le_refl _, Nat.le_refl _, hz, .inr (Nat.le_refl _), h2, ⟨by omega, .inl rfl⟩⟩
theorem lgC_zero {L : Lo} (h : lgC L = 0) : L.n1 + L.n2 ≤ 4000 ∧ 13 * cnt (aZ L) (L.n1 + L.n2) = L.n1 + L.n2 := by
  unfold lgC at h
  by_cases h1 : 4000 < L.n1 + L.n2
  · rw [if_pos h1] at h; omega
  · rw [if_neg h1] at h
    by_cases h2 : 13 * cnt (aZ L) (L.n1 + L.n2) = L.n1 + L.n2
    · exact ⟨by omega, h2⟩
    · rw [if_neg h2] at h; omega
theorem cells7 {w1 w2 : World} {B : Nat} {x0 x1 y0 y1 y2 y3 : Value} (hb : Below w1.heap.size w1 w2) (h0 : w1.cell? ⟨B, 0, none⟩ = some x0) (h1 : w1.cell? ⟨B, 1, none⟩ = some x1)
    (k0 : w1.cell? ⟨B + 1, 0, none⟩ = some y0) (k1 : w1.cell? ⟨B + 1, 1, none⟩ = some y1) (k2 : w1.cell? ⟨B + 1, 2, none⟩ = some y2) (k3 : w1.cell? ⟨B + 1, 3, none⟩ = some y3) (hf : ∀ i, w1.frozen? ⟨B + 1, i, none⟩ = false) :
    w2.cell? ⟨B, 0, none⟩ = some x0 ∧ w2.cell? ⟨B, 1, none⟩ = some x1 ∧ w2.cell? ⟨B + 1, 0, none⟩ = some y0 ∧ w2.cell? ⟨B + 1, 1, none⟩ = some y1 ∧ w2.cell? ⟨B + 1, 2, none⟩ = some y2 ∧ w2.cell? ⟨B + 1, 3, none⟩ = some y3 ∧ ∀ i, w2.frozen? ⟨B + 1, i, none⟩ = false :=
  ⟨cell_below h0 hb, cell_below h1 hb, cell_below k0 hb, cell_below k1 hb, cell_below k2 hb, cell_below k3 hb, fun i => (hb.frozen (p := ⟨B + 1, i, none⟩) (by have := Go.block_lt_of_cell k0; exact this)).trans (hf i)⟩
theorem joined_twoG (L : Lo) (a1 a2 : Option Addr) (c1 c2 g : Nat) (w : World) (hs : L.n1 + L.n2 ≤ 90000) (h0 : w.cell? ⟨g, 0, none⟩ = some (.slice a1 L.n1 c1)) (h1 : w.cell? ⟨g, 1, none⟩ = some (.slice a2 L.n2 c2)) (h : LogAt w a1 a2 L) :
    Calls Tryz.prog 162 #[.slice (some ⟨g, 0, none⟩) 2 2] w fun e w' => ∃ ra rc, e = .returned (.slice ra (L.n1 + L.n2) rc) ∧ L.n1 + L.n2 ≤ rc ∧ Below w.heap.size w w' ∧ BytesAt w' ra (L.n1 + L.n2) (aZ L) := by
  refine (joined_any 2 (two' a1 a2) (two' L.n1 L.n2) (two' c1 c2) (two' L.z1 L.z2) g 0 2 _ (by simp [sumL, two']; omega) (Go.block_lt_of_cell h0) (fun i hi => ?_) (by omega)).mono ?_
  · rcases (by omega : i = 0 ∨ i = 1) with rfl | rfl
    · exact ⟨h0, h.1⟩
    · exact ⟨h1, h.2⟩
  · rintro e w' ⟨v, rfl, hb1, ho⟩
    rw [jn_two] at ho
    obtain ⟨ra, rc, rfl, hrc, hown⟩ := (allAt_of ho).own
    exact ⟨ra, rc, rfl, hrc, hb1, hown.at⟩
theorem two_at (X : World) (x y : Value) (t : TypeId) : (X.alloc (.cells #[x, y] t)).cell? ⟨X.heap.size, 0, none⟩ = some x ∧ (X.alloc (.cells #[x, y] t)).cell? ⟨X.heap.size, 1, none⟩ = some y := ⟨by simp, by simp⟩
theorem two_at2 (w : World) (o : Obj) (x y : Value) (t : TypeId) : ((w.alloc o).alloc (.cells #[x, y] t)).drew.cell? ⟨w.heap.size + 1, 0, none⟩ = some x ∧ ((w.alloc o).alloc (.cells #[x, y] t)).drew.cell? ⟨w.heap.size + 1, 1, none⟩ = some y := by
  have h := two_at (w.alloc o) x y t
  rw [World.size_alloc] at h
  exact h
theorem drewB7 {w : World} {o1 o2 : Obj} {w2 : World} (hb : Below ((w.alloc o1).alloc o2).drew.heap.size ((w.alloc o1).alloc o2).drew w2) : Below w.heap.size w w2 := below_then (below_then (below_new _ _) (below_new _ _)) (((Below.refl _ _).drew).trans hb)
theorem box3_at {w w2 : World} {x y z : Value} {t : TypeId} {o2 : Obj} (hb : Below ((w.alloc (.cells #[x, y, z] t)).alloc o2).drew.heap.size ((w.alloc (.cells #[x, y, z] t)).alloc o2).drew w2) :
    w2.cell? ⟨w.heap.size, 0, none⟩ = some x ∧ w2.cell? ⟨w.heap.size, 1, none⟩ = some y ∧ w2.cell? ⟨w.heap.size, 2, none⟩ = some z := by
  have h : Below (w.alloc (.cells #[x, y, z] t)).heap.size (w.alloc (.cells #[x, y, z] t)) w2 := below_then (below_new _ _) (((Below.refl _ _).drew).trans hb)
  exact ⟨cell_below (by simp) h, cell_below (by simp) h, cell_below (by simp) h⟩
set_option maxHeartbeats 4000000 in
theorem implFl_any (L : Lo) (a1 a2 : Option Addr) (c1 c2 : Nat) (w : World) (hn1 : L.n1 ≤ 1048576) (hn2 : L.n2 ≤ 1048576) (hby : LogByt L) (h : LogAt w a1 a2 L) :
    Calls Tryz.prog 100 #[.agg #[.slice a1 L.n1 c1, .slice a2 L.n2 c2]] w (LRes (lgC L) (flS L) (flL L) w) := by
  have hb0 : ∀ o1 o2, Below w.heap.size w ((w.alloc o1).alloc o2) := fun o1 o2 => ((Below.refl _ _).alloc (Nat.le_refl _) _).alloc (by simp) _
  have HA : Hid (LogAt w a1 a2 L) := h
  have HY : Hid (LogByt L) := hby
  clear h hby
  go_enter Tryz.func100, Tryz.ntmps100
  go_wp2_with fail
  refine (readLog_any L a1 a2 c1 c2 _ hn1 hn2 HY.out (HA.out.below (hb0 _ _))).mono ?_
  rintro e w1 ⟨rb, rcp, u, m, rfl, HE, hb1, -⟩
  obtain ⟨hcc, hff⟩ := bcell hb1
  have hz1 : w.heap.size + 2 ≤ w1.heap.size := by have := hb1.size; simp at this; omega
  have q0 : w1.cell? ⟨w.heap.size, 0, none⟩ = some (.slice a1 L.n1 c1) := by rw [hcc _ _ (by simp <;> omega)]; simp [go_sem]
  have q1 : w1.cell? ⟨w.heap.size, 1, none⟩ = some (.slice a2 L.n2 c2) := by rw [hcc _ _ (by simp <;> omega)]; simp [go_sem]
  have r0 : w1.cell? ⟨w.heap.size + 1, 0, none⟩ = some (.int .i64 0) := by rw [hcc _ _ (by simp <;> omega)]; simp [go_sem]
  have r1 : w1.cell? ⟨w.heap.size + 1, 1, none⟩ = some (.int .i64 0) := by rw [hcc _ _ (by simp <;> omega)]; simp [go_sem]
  have r2 : w1.cell? ⟨w.heap.size + 1, 2, none⟩ = some (.slice none 0 0) := by rw [hcc _ _ (by simp <;> omega)]; simp [go_sem]
  have r3 : w1.cell? ⟨w.heap.size + 1, 3, none⟩ = some (.slice none 0 0) := by rw [hcc _ _ (by simp <;> omega)]; simp [go_sem]
  have fz : ∀ i, w1.frozen? ⟨w.heap.size + 1, i, none⟩ = false := fun i => by rw [hff _ _ (by simp <;> omega)]; simp [go_sem]
  have p0 := fun o : Obj => cell_alloc q0 o
  have p1 := fun o : Obj => cell_alloc q1 o
  have s0 := fun o : Obj => cell_alloc r0 o
  have s1 := fun o : Obj => cell_alloc r1 o
  have s2 := fun o : Obj => cell_alloc r2 o
  have s3 := fun o : Obj => cell_alloc r3 o
  have sf : ∀ i c t, (w1.alloc (.cells c t)).frozen? ⟨w.heap.size + 1, i, none⟩ = false := fun i c t => by rw [frozen?_alloc_cells]; exact fz i
  have HB1 : Hid (Below w.heap.size w w1) := below_then (hb0 _ _) hb1
  clear hcc hff hb1 hb0
  by_cases hc : lgC L = 0
  · have HC : Hid (lgC L = 0) := hc
    obtain ⟨hle, hcnt⟩ := lgC_zero hc
    obtain ⟨hm, hu⟩ := HE.out
    rw [if_pos hc] at hm
    have hu2 : u = ((L.n1 + L.n2 : Nat) : Int) := by rw [hu, hm]; omega
    subst hu2
    have HM : Hid ((m : Int) = (cnt (aZ L) (L.n1 + L.n2) : Int)) := by show _ = _; rw [hm]
    have hle3 : L.n1 + L.n2 ≤ 90000 := by omega
    rw [hc]
    have HLA : Hid (∀ o1 o2, LogAt ((w1.alloc o1).alloc o2).drew a1 a2 L) := fun o1 o2 => (HA.out.below HB1.out).below (((Below.refl _ _).alloc (Nat.le_refl _) _).alloc (by simp) _).drew
    clear hc hcnt hm hu HE
    go_wp2_with fail
    go_region_law (first | (go_simp; go_at_call 162; refine (joined_twoG L a1 a2 c1 c2 (w1.heap.size + 1) _ hle3 (two_at2 w1 _ _ _ _).1 (two_at2 w1 _ _ _ _).2 (HLA.out _ _)).mono ?_; rintro e w5 ⟨ra, rc, rfl, hrc, hb5, hby5⟩; obtain ⟨y0, y1, y2⟩ := box3_at hb5; have hB5 := drewB7 hb5; obtain ⟨t0, t1, t2, t3, t4, t5, tf⟩ := cells7 hB5 q0 q1 r0 r1 r2 r3 fz) | (go_simp; go_at_call 161; refine (sureLog_any (L.n1 + L.n2) (L.n1 + L.n2) m (aZ L) ra rb rc rcp 0 w5 (Nat.le_refl _) hrc hle3 hby5).mono ?_; rintro e w6 ⟨a6, cp6, rfl, hb6, ho6⟩; obtain ⟨u0, u1, u2, u3, u4, u5, uf⟩ := cells7 hb6 t0 t1 t2 t3 t4 t5 tf; have HB6 : Hid (Below w.heap.size w w6) := below_then HB1.out (below_then hB5 hb6); have HO6 : Hid (OwnB w6 w5.heap.size w6.heap.size a6 (L.n1 + L.n2) (aZ L)) := ho6; have hz5 := Nat.le_trans hz1 hB5.size))
    all_goals
      clear hb5 hby5 hB5 t0 t1 t2 t3 t4 t5 tf hb6 ho6 y0 y1 y2
      rw [HM.out]
      go_wp2_with fail
      refine bodyPost_ret (v := .agg #[.int .i64 0, .int .i64 (cnt (aZ L) (L.n1 + L.n2)), .slice a6 (L.n1 + L.n2) cp6, .slice none 0 0]) (by simp [results, Tryz.results100, go_sem, *]) rfl ?_
      refine lres_ok HC.out HB6.out hz5 HO6.out ?_ (by simp [World.setCell])
      repeat (first | exact Writes.refl _ _ _ | refine Writes.setCell ?_ (by first | omega | (simp <;> omega)) (by first | omega | (simp <;> omega)) _)
  · have hd : (lgC L != 0) = true := by simpa using hc
    have HX : Hid (∀ w', Below w.heap.size w w' → LRes (lgC L) (flS L) (flL L) w (.returned (.agg #[.int .i64 (lgC L), .int .i64 0, .slice none 0 0, .slice none 0 0])) w') := fun w' hb => lres_bad hb hc
    clear hc HE
    generalize lgC L = c at *
    go_wp2_with fail
    refine bodyPost_ret (v := .agg #[.int .i64 c, .int .i64 0, .slice none 0 0, .slice none 0 0]) (by simp [results, Tryz.results100, go_sem, *]) rfl ?_
    refine HX.out _ ?_
    repeat (first | exact HB1.out.alloc HB1.out.size _ | refine Below.setCell ?_ (by first | omega | (simp <;> omega)) _)
/-- Behind the append to an empty list that was just made. -/
theorem below_grow0 {W w6 : World} {o : Obj} (hg : (W.alloc o).drew.grownBy w6 (some W.heap.size)) : Below W.heap.size W w6 :=
  ((below_new W o).drew).grown hg (by show _ ≤ (W.alloc o).heap.size; rw [World.size_alloc]; omega) (fun q hq => by simp at hq; omega)
theorem ownB_zL {w : World} {lo hi u : Nat} {a : Option Addr} {z : Nat → Int} (h : OwnB w lo hi a u (zOf (zL z u))) : OwnB w lo hi a u z := by
  obtain ⟨h0, h1 | ⟨b, off, ha, hl, hh, hcl, hfr⟩⟩ := h
  · exact ⟨h0, .inl h1⟩
  · exact ⟨h0, .inr ⟨b, off, ha, hl, hh, fun i hi => by rw [hcl i hi]; unfold zOf; rw [zL_get z u i hi], hfr⟩⟩
end Go.Proofs.YtaokclhcmgbgnaaGreat
