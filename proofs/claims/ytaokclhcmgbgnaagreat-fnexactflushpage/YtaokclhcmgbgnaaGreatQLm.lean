/- spec.NewStore. -/
import Derived.Test.YtaokclhcmgbgnaaGreatQLh
import Derived.Test.YtaokclhcmgbgnaaGreatQDg
namespace Go.Proofs.YtaokclhcmgbgnaaGreat
open Go.RowKit Go.Deep
set_option linter.unusedVariables false
set_option maxRecDepth 20000
open Go.ChangeShapes Go.WideShapes Go.ChangeAt Go.RowKit Go.Deep Go.Joins

theorem AllAt.own {w : World} {base : Nat} {v : Value} {L : Lo} (h : AllAt w base v L) : ∃ ra rc, v = .slice ra (L.n1 + L.n2) rc ∧ L.n1 + L.n2 ≤ rc ∧ OwnB w base w.heap.size ra (L.n1 + L.n2) (aZ L) := by
  obtain ⟨ra, rc, rfl, hrc, ho, hcond⟩ := h
  refine ⟨ra, rc, rfl, hrc, Nat.le_refl _, ?_⟩
  rcases hcond with h0 | ⟨g, rfl, hbg, hlt, hba⟩
  · exact .inl h0
  · rw [aL_len] at ho
    exact .inr ⟨g, 0, rfl, hbg, hlt, hba, fun i hi => ho.frozenAt _⟩
set_option maxHeartbeats 1000000 in
theorem l3Flush_any (L : Lo) (a1 a2 : Option Addr) (c1 c2 : Nat) (w : World) (hs : L.n1 + L.n2 ≤ 90000) (h : LogAt w a1 a2 L) :
    Calls Tryz.prog 28 #[.agg #[.slice a1 L.n1 c1, .slice a2 L.n2 c2]] w fun e w' => ∃ ra rc, e = .returned (.agg #[.slice ra (L.n1 + L.n2) rc, .slice none 0 0]) ∧ Below w.heap.size w w' ∧ OwnB w' w.heap.size w'.heap.size ra (L.n1 + L.n2) (aZ L) := by
  have hb0 : ∀ o1 o2, Below w.heap.size w ((w.alloc o1).alloc o2) := fun o1 o2 => ((Below.refl _ _).alloc (Nat.le_refl _) _).alloc (by simp) _
  have HA : Hid (∀ o1 o2, LogAt ((w.alloc o1).alloc o2) a1 a2 L) := fun o1 o2 => h.below (hb0 o1 o2)
  clear h
  go_enter Tryz.func28, Tryz.ntmps28
  go_wp2_with fail
  refine (l3All_any L a1 a2 c1 c2 _ hs (HA.out _ _)).mono ?_
  rintro e w1 ⟨v1, rfl, hb1, hall⟩
  obtain ⟨ra, rc, rfl, hrc, ho1⟩ := hall.own
  obtain ⟨hcc, hff⟩ := bcell hb1
  have hsz : ∀ o1 o2 : Obj, ((w.alloc o1).alloc o2).heap.size = w.heap.size + 2 := fun _ _ => by simp
  have hz1 : w.heap.size + 2 ≤ w1.heap.size := by have := hb1.size; rw [hsz] at this; exact this
  have r0 : w1.cell? ⟨w.heap.size + 1, 0, none⟩ = some (.slice none 0 0) := by rw [hcc _ _ (by simp <;> omega)]; simp [go_sem]
  have r1 : w1.cell? ⟨w.heap.size + 1, 1, none⟩ = some (.slice none 0 0) := by rw [hcc _ _ (by simp <;> omega)]; simp [go_sem]
  have fz : ∀ i, w1.frozen? ⟨w.heap.size + 1, i, none⟩ = false := fun i => by rw [hff _ _ (by simp <;> omega)]; simp [go_sem]
  have HB1 : Hid (Below w.heap.size w w1) := below_then (hb0 _ _) hb1
  rw [hsz] at ho1
  have HO : Hid (OwnB w1 (w.heap.size + 2) w1.heap.size ra (L.n1 + L.n2) (aZ L)) := ho1
  generalize ht : L.n1 + L.n2 = t at *
  have HT : Hid (L.n1 + L.n2 = t) := ht
  clear hcc hff hb1 hall ho1 hb0 hsz ht
  go_wp2_with fail
  refine bodyPost_ret (v := .agg #[.slice ra t rc, .slice none 0 0]) (by simp [results, Tryz.results28, go_sem, *]) rfl ?_
  have hw : ∀ w7, Writes (w.heap.size + 1) (w.heap.size + 2) w1 w7 → w7.heap.size = w1.heap.size → Below w.heap.size w w7 ∧ OwnB w7 w.heap.size w7.heap.size ra t (aZ L) := fun w7 h7 e7 => by
    refine ⟨Writes.below HB1.out h7 (by omega), ?_⟩
    rw [e7]
    exact (HO.out.writes h7 (.inr (Nat.le_refl _))).wide (by omega) (Nat.le_refl _) (by omega)
  rw [HT.out]
  refine ⟨ra, rc, rfl, ?_⟩
  refine hw _ ?_ (by simp [World.setCell])
  repeat (first | exact Writes.refl _ _ _ | refine Writes.setCell ?_ (by first | omega | (simp <;> omega)) (by first | omega | (simp <;> omega)) _)
/-- joined of one piece that stands in cell 0 of block g. -/
theorem joined_one (g : Nat) (ra : Option Addr) (u rc : Nat) (z : Nat → Int) (w : World) (hu : u ≤ 90000) (hc : w.cell? ⟨g, 0, none⟩ = some (.slice ra u rc)) (hb : BytesAt w ra u z) :
    Calls Tryz.prog 162 #[.slice (some ⟨g, 0, none⟩) 1 1] w fun e w' => ∃ a cap, e = .returned (.slice a u cap) ∧ Below w.heap.size w w' ∧ OwnB w' w.heap.size w'.heap.size a u z := by
  refine (joined_any 1 (fun _ => ra) (fun _ => u) (fun _ => rc) (fun _ => z) g 0 1 w (by show 0 + u ≤ 90000; omega) (Go.block_lt_of_cell hc) (fun i hi => ⟨?_, hb⟩) (by omega)).mono ?_
  · obtain rfl : i = 0 := by omega
    exact hc
  · rintro e w' ⟨v, rfl, hb1, ho⟩
    have hj : jn (fun _ => u) (fun _ => z) 1 = zL z u := List.nil_append _
    rw [hj] at ho
    obtain ⟨a, cap, e, h⟩ := ownB_of_row ho
    rw [zL_len] at h e
    refine ⟨a, cap, by rw [e], hb1, ?_⟩
    obtain ⟨h0, h1 | ⟨b, off, ha, hl, hh, hcl, hfr⟩⟩ := h
    · exact ⟨h0, .inl h1⟩
    · exact ⟨h0, .inr ⟨b, off, ha, hl, hh, fun i hi => by rw [hcl i hi]; unfold zOf; rw [zL_get z u i hi], hfr⟩⟩
theorem sure_cells {w W w5 : World} {x0 x1 x2 : Value} (hb : Below W.heap.size W w5) (h0 : W.cell? ⟨w.heap.size, 0, none⟩ = some x0) (h1 : W.cell? ⟨w.heap.size, 1, none⟩ = some x1) (h2 : W.cell? ⟨w.heap.size, 2, none⟩ = some x2)
    (k0 : W.cell? ⟨w.heap.size + 1, 0, none⟩ = some (.int .i64 0)) (k1 : W.cell? ⟨w.heap.size + 1, 1, none⟩ = some (.int .i64 0)) (k2 : W.cell? ⟨w.heap.size + 1, 2, none⟩ = some (.slice none 0 0)) (k3 : W.cell? ⟨w.heap.size + 1, 3, none⟩ = some (.slice none 0 0)) (hf : ∀ i, W.frozen? ⟨w.heap.size + 1, i, none⟩ = false) :
    w5.cell? ⟨w.heap.size, 0, none⟩ = some x0 ∧ w5.cell? ⟨w.heap.size, 1, none⟩ = some x1 ∧ w5.cell? ⟨w.heap.size, 2, none⟩ = some x2 ∧ w5.cell? ⟨w.heap.size + 1, 0, none⟩ = some (.int .i64 0) ∧ w5.cell? ⟨w.heap.size + 1, 1, none⟩ = some (.int .i64 0) ∧ w5.cell? ⟨w.heap.size + 1, 2, none⟩ = some (.slice none 0 0) ∧ w5.cell? ⟨w.heap.size + 1, 3, none⟩ = some (.slice none 0 0) ∧ ∀ i, w5.frozen? ⟨w.heap.size + 1, i, none⟩ = false :=
  ⟨cell_below h0 hb, cell_below h1 hb, cell_below h2 hb, cell_below k0 hb, cell_below k1 hb, cell_below k2 hb, cell_below k3 hb, fun i => (hb.frozen (p := ⟨w.heap.size + 1, i, none⟩) (by have := Go.block_lt_of_cell k0; exact this)).trans (hf i)⟩
theorem sureB {W w5 : World} (hb : Below W.drew.heap.size W.drew w5) : Below W.heap.size W w5 := ((Below.refl _ _).drew).trans hb
theorem sureO {w w5 : World} {o1 o2 o3 : Obj} {a : Option Addr} {u : Nat} {z : Nat → Int} (h : OwnB w5 (((w.alloc o1).alloc o2).alloc o3).drew.heap.size w5.heap.size a u z) : OwnB w5 (w.heap.size + 3) w5.heap.size a u z := by
  have e : (((w.alloc o1).alloc o2).alloc o3).drew.heap.size = w.heap.size + 3 := by show (((w.alloc o1).alloc o2).alloc o3).heap.size = _; simp
  rw [e] at h
  exact h
theorem one_at (X : World) (x : Value) (t : TypeId) : (X.alloc (.cells #[x] t)).cell? ⟨X.heap.size, 0, none⟩ = some x := by simp
theorem new_cell3 (w : World) (o1 o2 : Obj) (x : Value) (t : TypeId) : (((w.alloc o1).alloc o2).alloc (.cells #[x] t)).drew.cell? ⟨w.heap.size + 1 + 1, 0, none⟩ = some x := by
  have h := one_at ((w.alloc o1).alloc o2) x t
  rw [World.size_alloc, World.size_alloc] at h
  exact h
theorem box_cells3 (w : World) (c u : Int) (x : Value) (t1 t2 : TypeId) (o3 : Obj) {W : World} (hW : W = ((w.alloc (.cells #[.int .i64 c, .int .i64 u, x] t1)).alloc (.cells #[.int .i64 0, .int .i64 0, .slice none 0 0, .slice none 0 0] t2))) :
    ((W.alloc o3).drew.cell? ⟨w.heap.size, 0, none⟩ = some (.int .i64 c) ∧ (W.alloc o3).drew.cell? ⟨w.heap.size, 1, none⟩ = some (.int .i64 u) ∧ (W.alloc o3).drew.cell? ⟨w.heap.size, 2, none⟩ = some x) ∧
    (W.alloc o3).drew.cell? ⟨w.heap.size + 1, 0, none⟩ = some (.int .i64 0) ∧ (W.alloc o3).drew.cell? ⟨w.heap.size + 1, 1, none⟩ = some (.int .i64 0) ∧ (W.alloc o3).drew.cell? ⟨w.heap.size + 1, 2, none⟩ = some (.slice none 0 0) ∧ (W.alloc o3).drew.cell? ⟨w.heap.size + 1, 3, none⟩ = some (.slice none 0 0) := by
  have e : ∀ b i v, W.cell? ⟨b, i, none⟩ = some v → (W.alloc o3).drew.cell? ⟨b, i, none⟩ = some v := fun b i v h => cell_alloc h o3
  subst hW
  exact ⟨⟨e _ _ _ (by simp), e _ _ _ (by simp), e _ _ _ (by simp)⟩, e _ _ _ (by simp), e _ _ _ (by simp), e _ _ _ (by simp), e _ _ _ (by simp)⟩
theorem box_frozen3 (w : World) (c1 c2 c3 : Array Value) (t1 t2 t3 : TypeId) : ∀ i, (((w.alloc (.cells c1 t1)).alloc (.cells c2 t2)).alloc (.cells c3 t3)).drew.frozen? ⟨w.heap.size + 1, i, none⟩ = false := fun i => by
  show (((w.alloc (.cells c1 t1)).alloc (.cells c2 t2)).alloc (.cells c3 t3)).frozen? ⟨w.heap.size + 1, i, none⟩ = false
  rw [frozen?_alloc_cells]; simp
set_option maxHeartbeats 2000000 in
theorem sureLog_any (n u m : Nat) (z : Nat → Int) (ra rb : Option Addr) (rc rcp : Nat) (c : Int) (w : World) (hu : u ≤ n) (hn : n ≤ rc) (hn9 : n ≤ 90000) (hb : BytesAt w ra n z) :
    Calls Tryz.prog 161 #[.slice ra n rc, .agg #[.int .i64 c, .int .i64 u, .slice rb m rcp]] w fun e w' => ∃ a cap, e = .returned (.agg #[.int .i64 0, .int .i64 m, .slice a u cap, .slice none 0 0]) ∧ Below w.heap.size w w' ∧ OwnB w' w.heap.size w'.heap.size a u z := by
  have hbu : BytesAt w ra u z := by
    rcases hb with h | ⟨b, off, h1, h2, h3⟩
    · exact .inl (by omega)
    · exact .inr ⟨b, off, h1, h2, fun i hi => h3 i (by omega)⟩
  have hb0 : ∀ o1 o2 o3, Below w.heap.size w (((w.alloc o1).alloc o2).alloc o3) := fun o1 o2 o3 => (((Below.refl _ _).alloc (Nat.le_refl _) _).alloc (by simp) _).alloc (by simp; omega) _
  have HA : Hid (∀ o1 o2 o3, BytesAt (((w.alloc o1).alloc o2).alloc o3) ra u z) := fun o1 o2 o3 => hbu.below (hb0 o1 o2 o3)
  have HB0 : Hid (∀ o1 o2 o3, Below w.heap.size w (((w.alloc o1).alloc o2).alloc o3)) := hb0
  have hu1 : (u : Int) ≤ (rc : Int) := by omega
  have hu2 : (0 : Int) ≤ (u : Int) := by omega
  have hu9 : u ≤ 90000 := by omega
  clear hb hbu hb0
  go_enter Tryz.func161, Tryz.ntmps161
  go_wp2_with fail
  go_region_law (first | (go_simp; go_at_call 162; refine (joined_one (w.heap.size + 1 + 1) ra u rc z _ hu9 (new_cell3 w _ _ _ _) (HA.out _ _ _)).mono ?_; rintro e w5 ⟨a5, cp5, rfl, hb5, ho5⟩; obtain ⟨⟨y0, y1, y2⟩, y3, y4, y5, y6⟩ := box_cells3 w c u (.slice rb m rcp) 199 153 (.cells #[.slice ra u rc] 27) rfl; obtain ⟨x0, x1, x2, k0, k1, k2, k3, kf⟩ := sure_cells (w := w) hb5 y0 y1 y2 y3 y4 y5 y6 (box_frozen3 w _ _ _ _ _ _); have HB5 : Hid (Below w.heap.size w w5) := below_then (HB0.out _ _ _) (sureB hb5); have HO5 : Hid (OwnB w5 (w.heap.size + 3) w5.heap.size a5 u z) := sureO ho5))
  all_goals
    clear hb5 ho5 y0 y1 y2 y3 y4 y5 y6
    go_wp2_with fail
    refine bodyPost_ret (v := .agg #[.int .i64 0, .int .i64 m, .slice a5 u cp5, .slice none 0 0]) (by simp [results, Tryz.results161, go_sem, *]) rfl ?_
    have hw : ∀ w7, Writes (w.heap.size + 1) (w.heap.size + 2) w5 w7 → w7.heap.size = w5.heap.size → Below w.heap.size w w7 ∧ OwnB w7 w.heap.size w7.heap.size a5 u z := fun w7 h7 e7 => by
      refine ⟨Writes.below HB5.out h7 (by omega), ?_⟩
      rw [e7]
      exact (HO5.out.writes h7 (.inr (by omega))).wide (by omega) (Nat.le_refl _) (by omega)
    refine ⟨a5, cp5, rfl, ?_⟩
    refine hw _ ?_ (by simp [World.setCell])
    repeat (first | exact Writes.refl _ _ _ | refine Writes.setCell ?_ (by first | omega | (simp <;> omega)) (by first | omega | (simp <;> omega)) _)
theorem l12Bad_any (c : Int) (w : World) : Calls Tryz.prog 25 #[.int .i64 c] w fun e w' => e = .returned (.agg #[.int .i64 c, .int .i64 0, .int .i64 0, .slice none 0 0, .slice none 0 0, .slice none 0 0, .slice none 0 0, .slice none 0 0, .slice none 0 0, .slice none 0 0]) ∧ Below w.heap.size w w' := by
  go_enter Tryz.func25, Tryz.ntmps25
  go_wp2_with fail
  refine bodyPost_ret (v := .agg #[.int .i64 c, .int .i64 0, .int .i64 0, .slice none 0 0, .slice none 0 0, .slice none 0 0, .slice none 0 0, .slice none 0 0, .slice none 0 0, .slice none 0 0]) (by simp [results, Tryz.results25, go_sem]) rfl ⟨rfl, ?_⟩
  repeat (first | with_reducible exact below_new _ _ | refine Below.setCell ?_ (by first | omega | (simp <;> omega)) _)
theorem WritesP.setCell {P : Nat → Prop} {w w' : World} (h : WritesP P w w') {p : Addr} (hp : P p.block) (v : Value) : WritesP P w (w'.setCell p v) :=
  ⟨h.os, h.tape, h.output, by simpa [World.setCell] using h.size, fun k hk hn => (Below.heap_setCell _ _ _ _ (fun e => hn (by rw [e]; exact hp))).trans (h.block k hk hn)⟩
end Go.Proofs.YtaokclhcmgbgnaaGreat
