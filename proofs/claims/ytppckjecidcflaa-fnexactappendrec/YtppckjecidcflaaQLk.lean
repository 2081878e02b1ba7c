/- CrashLog: what it answers; spec.l3Crash. -/
import Derived.Test.YtppckjecidcflaaQLh
import Derived.Test.YtppckjecidcflaaQLi
namespace Go.Proofs.Ytppckjecidcflaa
open Go.RowKit Go.Deep
set_option linter.unusedVariables false
set_option maxRecDepth 20000

theorem heldLog_any (L : Lo) (a1 a2 : Option Addr) (c1 c2 : Nat) (m : Int) (w : World) (hn1 : L.n1 ≤ 1048576) (hn2 : L.n2 ≤ 1048576) (hm1 : 0 ≤ m) (hm2 : m ≤ 1048576) (h : LogAt w a1 a2 (mG m L)) :
    Calls Try.prog 39 #[.agg #[.slice a1 L.n1 c1, .slice a2 L.n2 c2], .int .i64 m] w fun e w' => e = .returned (.int .i64 (m + (L.n1 + L.n2 : Nat))) ∧ Below w.heap.size w w' := by
  obtain ⟨n, z, k, y⟩ := L
  unfold mG at h
  obtain ⟨hp, hl⟩ := h
  dsimp only at *
  have HP : Hid (BytesAt w a1 n (bk m)) := hp
  have HL : Hid (BytesAt w a2 k (bk (m + n))) := hl
  have hneg : ¬ (m + (n : Int) < 0) := by omega
  have hneg2 : ¬ (m + (n : Int) + (k : Int) < 0) := by omega
  clear hp hl
  go_enter Try.func39, Try.ntmps39
  go_wp2_with fail
  refine (heldByteS_any n a1 c1 m _ (by omega) hm1 (by omega) (HP.out.below (below_new _ _))).mono ?_
  rintro e w1 ⟨rfl, rfl⟩
  go_wp2_with fail
  refine (heldByteS_any k a2 c2 (m + n) _ (by omega) (by omega) (by omega) (HL.out.below (below_new _ _))).mono ?_
  rintro e w2 ⟨rfl, rfl⟩
  go_wp2_with fail
  go_ret
  exact ⟨ret_int (by omega), below_new _ _⟩
theorem eqLogResult_same (c s : Int) (L : Lo) (a1 a2 b1 b2 : Option Addr) (c1 c2 d1 d2 : Nat) (w : World) (hn1 : L.n1 ≤ 1048576) (hn2 : L.n2 ≤ 1048576) (h : LogAt w a1 a2 L) (h' : LogAt w b1 b2 L) :
    Calls Try.prog 11 #[.agg #[.int .i64 c, .int .i64 s, .slice a1 L.n1 c1, .slice a2 L.n2 c2], .agg #[.int .i64 c, .int .i64 s, .slice b1 L.n1 d1, .slice b2 L.n2 d2]] w fun e w' => e = .returned (.bool true) ∧ Below w.heap.size w w' := by
  have hb0 : ∀ o1 o2, Below w.heap.size w ((w.alloc o1).alloc o2) := fun o1 o2 => ((Below.refl _ _).alloc (Nat.le_refl _) _).alloc (by simp) _
  have H1 : Hid (LogAt w a1 a2 L) := h
  have H2 : Hid (LogAt w b1 b2 L) := h'
  clear h h'
  go_enter Try.func11, Try.ntmps11
  go_wp2_with fail
  refine (eqLog_same L a1 a2 b1 b2 c1 c2 d1 d2 _ hn1 hn2 (H1.out.below (hb0 _ _)) (H2.out.below (hb0 _ _))).mono ?_
  rintro e w1 ⟨rfl, hb1⟩
  go_wp2_with fail
  go_ret
  exact ⟨rfl, below_then (hb0 _ _) hb1⟩
theorem markLogResult_any (c s : Int) (L : Lo) (a1 a2 : Option Addr) (c1 c2 lo hi : Nat) (w : World) (hn1 : L.n1 ≤ 1048576) (hn2 : L.n2 ≤ 1048576) (h : OwnG w lo hi a1 a2 L) :
    Calls Try.prog 14 #[.agg #[.int .i64 c, .int .i64 s, .slice a1 L.n1 c1, .slice a2 L.n2 c2], .int .i64 1] w fun e w' => e = .returned (.int .i64 (1 + (L.n1 + L.n2 : Nat))) ∧ Writes lo hi w w' ∧ OwnG w' lo hi a1 a2 (mG 1 L) := by
  have HO : Hid (OwnG w lo hi a1 a2 L) := h
  clear h
  go_enter Try.func14, Try.ntmps14
  go_wp2_with fail
  refine (markLog_any L a1 a2 c1 c2 lo hi 1 _ hn1 hn2 (by omega) (by omega) (HO.out.below (below_new _ _))).mono ?_
  rintro e w1 ⟨rfl, hw, ho⟩
  go_wp2_with fail
  go_ret
  exact ⟨rfl, (Writes.of_below (below_new _ _)).trans hw, ho⟩
theorem heldLogResult_any (c s : Int) (L : Lo) (a1 a2 : Option Addr) (c1 c2 : Nat) (w : World) (hn1 : L.n1 ≤ 1048576) (hn2 : L.n2 ≤ 1048576) (h : LogAt w a1 a2 (mG 1 L)) :
    Calls Try.prog 15 #[.agg #[.int .i64 c, .int .i64 s, .slice a1 L.n1 c1, .slice a2 L.n2 c2], .int .i64 1] w fun e w' => e = .returned (.int .i64 (1 + (L.n1 + L.n2 : Nat))) ∧ Below w.heap.size w w' := by
  have HO : Hid (LogAt w a1 a2 (mG 1 L)) := h
  have hneg : ¬ ((1 : Int) + ((L.n1 + L.n2 : Nat) : Int) < 0) := by omega
  clear h
  go_enter Try.func15, Try.ntmps15
  go_wp2_with fail
  refine (heldLog_any L a1 a2 c1 c2 1 _ hn1 hn2 (by omega) (by omega) (HO.out.below (below_new _ _))).mono ?_
  rintro e w1 ⟨rfl, hb⟩
  go_wp2_with fail
  go_ret
  exact ⟨rfl, below_then (below_new _ _) hb⟩
theorem l3Count_any (L : Lo) (a1 a2 : Option Addr) (c1 c2 : Nat) (w : World) (hn : L.n1 + L.n2 ≤ 1048576) :
    Calls Try.prog 32 #[.agg #[.slice a1 L.n1 c1, .slice a2 L.n2 c2]] w fun e w' => e = .returned (.int .i64 ((L.n1 + L.n2 : Nat) / 13 : Nat)) ∧ Below w.heap.size w w' := by
  have hwr : IntKind.i64.wrap ((L.n1 : Int) + (L.n2 : Int)) = ((L.n1 + L.n2 : Nat) : Int) := by rw [IntKind.wrap_i64]; omega
  have hq : (((L.n1 + L.n2 : Nat) : Int)).tdiv 13 = (((L.n1 + L.n2) / 13 : Nat) : Int) := by rw [Int.tdiv_eq_ediv_of_nonneg (by omega)]; omega
  have hw2 : IntKind.i64.wrap (((L.n1 + L.n2) / 13 : Nat) : Int) = (((L.n1 + L.n2) / 13 : Nat) : Int) := by rw [IntKind.wrap_i64]; omega
  generalize L.n1 + L.n2 = t at *
  go_enter Try.func32, Try.ntmps32
  go_wp2_with fail
  go_ret
  exact ⟨rfl, below_new _ _⟩
theorem AllAt.own {w : World} {base : Nat} {v : Value} {L : Lo} (h : AllAt w base v L) : ∃ ra rc, v = .slice ra (L.n1 + L.n2) rc ∧ L.n1 + L.n2 ≤ rc ∧ OwnB w base w.heap.size ra (L.n1 + L.n2) (aZ L) := by
  obtain ⟨ra, rc, rfl, hrc, ho, hcond⟩ := h
  refine ⟨ra, rc, rfl, hrc, Nat.le_refl _, ?_⟩
  rcases hcond with h0 | ⟨g, rfl, hbg, hlt, hba⟩
  · exact .inl h0
  · rw [aL_len] at ho
    exact .inr ⟨g, 0, rfl, hbg, hlt, hba, fun i hi => ho.frozenAt _⟩
/-- joined of one piece that stands in cell 0 of block g. -/
theorem joined_one (g : Nat) (ra : Option Addr) (u rc : Nat) (z : Nat → Int) (w : World) (hu : u ≤ 90000) (hc : w.cell? ⟨g, 0, none⟩ = some (.slice ra u rc)) (hb : BytesAt w ra u z) :
    Calls Try.prog 36 #[.slice (some ⟨g, 0, none⟩) 1 1] w fun e w' => ∃ a cap, e = .returned (.slice a u cap) ∧ Below w.heap.size w w' ∧ OwnB w' w.heap.size w'.heap.size a u z := by
  refine (joined_any 1 (fun _ => ra) (fun _ => u) (fun _ => rc) (fun _ => z) g 0 1 w (by show 0 + u ≤ 90000; omega) (Go.block_lt_of_cell hc) (fun i hi => ⟨?_, hb⟩) (by omega)).mono ?_
  · obtain rfl : i = 0 := by omega
    exact hc
  · rintro e w' ⟨v, rfl, hb1, ho⟩
    have hj : jn (fun _ => u) (fun _ => z) 1 = zL z u := List.nil_append _
    rw [hj] at ho
    obtain ⟨a, cap, e, h⟩ := ownB_of_row ho
    rw [zL_len] at h e
    refine ⟨a, cap, by rw [e], hb1, ?_⟩
    obtain ⟨h0, h1 | ⟨b, off, ha, hl, hh, hcl, hfr⟩⟩ := h
    · exact ⟨h0, .inl h1⟩
    · exact ⟨h0, .inr ⟨b, off, ha, hl, hh, fun i hi => by rw [hcl i hi]; unfold zOf; rw [zL_get z u i hi], hfr⟩⟩
theorem sure_cells {w W w5 : World} {x0 x1 x2 : Value} (hb : Below W.heap.size W w5) (h0 : W.cell? ⟨w.heap.size, 0, none⟩ = some x0) (h1 : W.cell? ⟨w.heap.size, 1, none⟩ = some x1) (h2 : W.cell? ⟨w.heap.size, 2, none⟩ = some x2)
    (k0 : W.cell? ⟨w.heap.size + 1, 0, none⟩ = some (.int .i64 0)) (k1 : W.cell? ⟨w.heap.size + 1, 1, none⟩ = some (.int .i64 0)) (k2 : W.cell? ⟨w.heap.size + 1, 2, none⟩ = some (.slice none 0 0)) (k3 : W.cell? ⟨w.heap.size + 1, 3, none⟩ = some (.slice none 0 0)) (hf : ∀ i, W.frozen? ⟨w.heap.size + 1, i, none⟩ = false) :
    w5.cell? ⟨w.heap.size, 0, none⟩ = some x0 ∧ w5.cell? ⟨w.heap.size, 1, none⟩ = some x1 ∧ w5.cell? ⟨w.heap.size, 2, none⟩ = some x2 ∧ w5.cell? ⟨w.heap.size + 1, 0, none⟩ = some (.int .i64 0) ∧ w5.cell? ⟨w.heap.size + 1, 1, none⟩ = some (.int .i64 0) ∧ w5.cell? ⟨w.heap.size + 1, 2, none⟩ = some (.slice none 0 0) ∧ w5.cell? ⟨w.heap.size + 1, 3, none⟩ = some (.slice none 0 0) ∧ ∀ i, w5.frozen? ⟨w.heap.size + 1, i, none⟩ = false :=
  ⟨cell_below h0 hb, cell_below h1 hb, cell_below h2 hb, cell_below k0 hb, cell_below k1 hb, cell_below k2 hb, cell_below k3 hb, fun i => (hb.frozen (p := ⟨w.heap.size + 1, i, none⟩) (by have := Go.block_lt_of_cell k0; exact this)).trans (hf i)⟩
theorem sureB {W w5 : World} (hb : Below W.drew.heap.size W.drew w5) : Below W.heap.size W w5 := ((Below.refl _ _).drew).trans hb
theorem sureO {w w5 : World} {o1 o2 o3 : Obj} {a : Option Addr} {u : Nat} {z : Nat → Int} (h : OwnB w5 (((w.alloc o1).alloc o2).alloc o3).drew.heap.size w5.heap.size a u z) : OwnB w5 (w.heap.size + 3) w5.heap.size a u z := by
  have e : (((w.alloc o1).alloc o2).alloc o3).drew.heap.size = w.heap.size + 3 := by show (((w.alloc o1).alloc o2).alloc o3).heap.size = _; simp
  rw [e] at h
  exact h
theorem one_at (X : World) (x : Value) (t : TypeId) : (X.alloc (.cells #[x] t)).cell? ⟨X.heap.size, 0, none⟩ = some x := by simp
theorem new_cell3 (w : World) (o1 o2 : Obj) (x : Value) (t : TypeId) : (((w.alloc o1).alloc o2).alloc (.cells #[x] t)).drew.cell? ⟨w.heap.size + 1 + 1, 0, none⟩ = some x := by
  have h := one_at ((w.alloc o1).alloc o2) x t
  rw [World.size_alloc, World.size_alloc] at h
  exact h
theorem box_cells3 (w : World) (c u : Int) (x : Value) (t1 t2 : TypeId) (o3 : Obj) {W : World} (hW : W = ((w.alloc (.cells #[.int .i64 c, .int .i64 u, x] t1)).alloc (.cells #[.int .i64 0, .int .i64 0, .slice none 0 0, .slice none 0 0] t2))) :
    ((W.alloc o3).drew.cell? ⟨w.heap.size, 0, none⟩ = some (.int .i64 c) ∧ (W.alloc o3).drew.cell? ⟨w.heap.size, 1, none⟩ = some (.int .i64 u) ∧ (W.alloc o3).drew.cell? ⟨w.heap.size, 2, none⟩ = some x) ∧
    (W.alloc o3).drew.cell? ⟨w.heap.size + 1, 0, none⟩ = some (.int .i64 0) ∧ (W.alloc o3).drew.cell? ⟨w.heap.size + 1, 1, none⟩ = some (.int .i64 0) ∧ (W.alloc o3).drew.cell? ⟨w.heap.size + 1, 2, none⟩ = some (.slice none 0 0) ∧ (W.alloc o3).drew.cell? ⟨w.heap.size + 1, 3, none⟩ = some (.slice none 0 0) := by
  have e : ∀ b i v, W.cell? ⟨b, i, none⟩ = some v → (W.alloc o3).drew.cell? ⟨b, i, none⟩ = some v := fun b i v h => cell_alloc h o3
  subst hW
  exact ⟨⟨e _ _ _ (by simp), e _ _ _ (by simp), e _ _ _ (by simp)⟩, e _ _ _ (by simp), e _ _ _ (by simp), e _ _ _ (by simp), e _ _ _ (by simp)⟩
theorem box_frozen3 (w : World) (c1 c2 c3 : Array Value) (t1 t2 t3 : TypeId) : ∀ i, (((w.alloc (.cells c1 t1)).alloc (.cells c2 t2)).alloc (.cells c3 t3)).drew.frozen? ⟨w.heap.size + 1, i, none⟩ = false := fun i => by
  show (((w.alloc (.cells c1 t1)).alloc (.cells c2 t2)).alloc (.cells c3 t3)).frozen? ⟨w.heap.size + 1, i, none⟩ = false
  rw [frozen?_alloc_cells]; simp
/-- The log that FlushLog leaves. -/
def flL (L : Lo) : Lo := if lgC L = 0 then ⟨L.n1 + L.n2, aZ L, 0, fun _ => 0⟩ else ⟨0, fun _ => 0, 0, fun _ => 0⟩
def flS (L : Lo) : Int := if lgC L = 0 then cnt (aZ L) (L.n1 + L.n2) else 0
/-- An answer that is a log. -/
def LRes (c s : Int) (L : Lo) (w : World) (e : Ending) (w' : World) : Prop :=
  ∃ a1 a2 c1 c2, e = .returned (.agg #[.int .i64 c, .int .i64 s, .slice a1 L.n1 c1, .slice a2 L.n2 c2]) ∧ Below w.heap.size w w' ∧ OwnG w' w.heap.size w'.heap.size a1 a2 L
theorem lres_bad {L : Lo} {w w' : World} (hb : Below w.heap.size w w') (hc : lgC L ≠ 0) : LRes (lgC L) (flS L) (flL L) w (.returned (.agg #[.int .i64 (lgC L), .int .i64 0, .slice none 0 0, .slice none 0 0])) w' := by
  unfold LRes flS flL
  rw [if_neg hc, if_neg hc]
  exact ⟨none, none, 0, 0, rfl, hb, Nat.le_refl _, w.heap.size, w.heap.size, w.heap.size, w.heap.size, Nat.le_refl _, hb.size, Nat.le_refl _, hb.size, .inl (Nat.le_refl _), ⟨hb.size, .inl rfl⟩, ⟨hb.size, .inl rfl⟩⟩
theorem lres_ok {L : Lo} {w wq w' : World} {a : Option Addr} {cap lo : Nat} (hc : lgC L = 0) (hB : Below w.heap.size w wq) (hlo : w.heap.size + 2 ≤ lo) (ho : OwnB wq lo wq.heap.size a (L.n1 + L.n2) (aZ L)) (hw : Writes (w.heap.size + 1) (w.heap.size + 2) wq w') (hs : w'.heap.size = wq.heap.size) :
    LRes (lgC L) (flS L) (flL L) w (.returned (.agg #[.int .i64 0, .int .i64 (cnt (aZ L) (L.n1 + L.n2)), .slice a (L.n1 + L.n2) cap, .slice none 0 0])) w' := by
  unfold LRes flS flL
  rw [if_pos hc, if_pos hc, hc]
  have hz := hB.size
  have h2 := (ho.writes hw (.inr hlo)).wide (lo' := w.heap.size) (hi' := wq.heap.size) (by omega) (Nat.le_refl _) (by omega)
  refine ⟨a, none, cap, 0, rfl, Writes.below hB hw (by omega), ?_⟩
  rw [hs]
  exact ⟨by omega, w.heap.size, wq.heap.size, w.heap.size, w.heap.size, Nat.le_refl _, Nat.le_refl _, Nat.le_refl _, hz, .inr (Nat.le_refl _), h2, ⟨by omega, .inl rfl⟩⟩
theorem lgC_zero {L : Lo} (h : lgC L = 0) : L.n1 + L.n2 ≤ 4000 ∧ 13 * cnt (aZ L) (L.n1 + L.n2) = L.n1 + L.n2 := by
  unfold lgC at h
  by_cases h1 : 4000 < L.n1 + L.n2
  · rw [if_pos h1] at h; omega
  · rw [if_neg h1] at h
    by_cases h2 : 13 * cnt (aZ L) (L.n1 + L.n2) = L.n1 + L.n2
    · exact ⟨by omega, h2⟩
    · rw [if_neg h2] at h; omega
theorem cells7 {w1 w2 : World} {B : Nat} {x0 x1 y0 y1 y2 y3 : Value} (hb : Below w1.heap.size w1 w2) (h0 : w1.cell? ⟨B, 0, none⟩ = some x0) (h1 : w1.cell? ⟨B, 1, none⟩ = some x1)
    (k0 : w1.cell? ⟨B + 1, 0, none⟩ = some y0) (k1 : w1.cell? ⟨B + 1, 1, none⟩ = some y1) (k2 : w1.cell? ⟨B + 1, 2, none⟩ = some y2) (k3 : w1.cell? ⟨B + 1, 3, none⟩ = some y3) (hf : ∀ i, w1.frozen? ⟨B + 1, i, none⟩ = false) :
    w2.cell? ⟨B, 0, none⟩ = some x0 ∧ w2.cell? ⟨B, 1, none⟩ = some x1 ∧ w2.cell? ⟨B + 1, 0, none⟩ = some y0 ∧ w2.cell? ⟨B + 1, 1, none⟩ = some y1 ∧ w2.cell? ⟨B + 1, 2, none⟩ = some y2 ∧ w2.cell? ⟨B + 1, 3, none⟩ = some y3 ∧ ∀ i, w2.frozen? ⟨B + 1, i, none⟩ = false :=
  ⟨cell_below h0 hb, cell_below h1 hb, cell_below k0 hb, cell_below k1 hb, cell_below k2 hb, cell_below k3 hb, fun i => (hb.frozen (p := ⟨B + 1, i, none⟩) (by have := Go.block_lt_of_cell k0; exact this)).trans (hf i)⟩
theorem joined_twoG (L : Lo) (a1 a2 : Option Addr) (c1 c2 g : Nat) (w : World) (hs : L.n1 + L.n2 ≤ 90000) (h0 : w.cell? ⟨g, 0, none⟩ = some (.slice a1 L.n1 c1)) (h1 : w.cell? ⟨g, 1, none⟩ = some (.slice a2 L.n2 c2)) (h : LogAt w a1 a2 L) :
    Calls Try.prog 36 #[.slice (some ⟨g, 0, none⟩) 2 2] w fun e w' => ∃ ra rc, e = .returned (.slice ra (L.n1 + L.n2) rc) ∧ L.n1 + L.n2 ≤ rc ∧ Below w.heap.size w w' ∧ BytesAt w' ra (L.n1 + L.n2) (aZ L) := by
  refine (joined_any 2 (two' a1 a2) (two' L.n1 L.n2) (two' c1 c2) (two' L.z1 L.z2) g 0 2 _ (by simp [sumL, two']; omega) (Go.block_lt_of_cell h0) (fun i hi => ?_) (by omega)).mono ?_
  · rcases (by omega : i = 0 ∨ i = 1) with rfl | rfl
    · exact ⟨h0, h.1⟩
    · exact ⟨h1, h.2⟩
  · rintro e w' ⟨v, rfl, hb1, ho⟩
    rw [jn_two] at ho
    obtain ⟨ra, rc, rfl, hrc, hown⟩ := (allAt_of ho).own
    exact ⟨ra, rc, rfl, hrc, hb1, hown.at⟩
theorem two_at (X : World) (x y : Value) (t : TypeId) : (X.alloc (.cells #[x, y] t)).cell? ⟨X.heap.size, 0, none⟩ = some x ∧ (X.alloc (.cells #[x, y] t)).cell? ⟨X.heap.size, 1, none⟩ = some y := ⟨by simp, by simp⟩
theorem two_at2 (w : World) (o : Obj) (x y : Value) (t : TypeId) : ((w.alloc o).alloc (.cells #[x, y] t)).drew.cell? ⟨w.heap.size + 1, 0, none⟩ = some x ∧ ((w.alloc o).alloc (.cells #[x, y] t)).drew.cell? ⟨w.heap.size + 1, 1, none⟩ = some y := by
  have h := two_at (w.alloc o) x y t
  rw [World.size_alloc] at h
  exact h
theorem drewB7 {w : World} {o1 o2 : Obj} {w2 : World} (hb : Below ((w.alloc o1).alloc o2).drew.heap.size ((w.alloc o1).alloc o2).drew w2) : Below w.heap.size w w2 := below_then (below_then (below_new _ _) (below_new _ _)) (((Below.refl _ _).drew).trans hb)
theorem box3_at {w w2 : World} {x y z : Value} {t : TypeId} {o2 : Obj} (hb : Below ((w.alloc (.cells #[x, y, z] t)).alloc o2).drew.heap.size ((w.alloc (.cells #[x, y, z] t)).alloc o2).drew w2) :
    w2.cell? ⟨w.heap.size, 0, none⟩ = some x ∧ w2.cell? ⟨w.heap.size, 1, none⟩ = some y ∧ w2.cell? ⟨w.heap.size, 2, none⟩ = some z := by
  have h : Below (w.alloc (.cells #[x, y, z] t)).heap.size (w.alloc (.cells #[x, y, z] t)) w2 := below_then (below_new _ _) (((Below.refl _ _).drew).trans hb)
  exact ⟨cell_below (by simp) h, cell_below (by simp) h, cell_below (by simp) h⟩
theorem bool_or3 (b : Bool) : b = true ∨ b = false := by cases b <;> simp
/-- A log of which only the first k of the loose bytes are kept. -/
def cutL (L : Lo) (k : Nat) : Lo := ⟨L.n1, L.z1, k, L.z2⟩
theorem BytesAt.cut {w : World} {a : Option Addr} {n k : Nat} {z : Nat → Int} (h : BytesAt w a n z) (hk : k ≤ n) : BytesAt w a k z := by
  rcases h with h | ⟨b, off, h1, h2, h3⟩
  · exact .inl (by omega)
  · exact .inr ⟨b, off, h1, h2, fun i hi => h3 i (by omega)⟩
theorem LogAt.cut {w : World} {a1 a2 : Option Addr} {L : Lo} {k : Nat} (h : LogAt w a1 a2 L) (hk : k ≤ L.n2) : LogAt w a1 a2 (cutL L k) := ⟨h.1, h.2.cut hk⟩
theorem LogByt.cut {L : Lo} {k : Nat} (h : LogByt L) (hk : k ≤ L.n2) : LogByt (cutL L k) := ⟨h.p, fun i hi => h.q i (by have : i < k := hi; omega)⟩
/-- How many records are left. -/
def clM (L : Lo) (k : Nat) : Nat := cnt (aZ (cutL L k)) (L.n1 + k)
theorem clM_le (L : Lo) (k : Nat) : 13 * clM L k ≤ L.n1 + k := cnt_le _ _
def clC (L : Lo) (x : Int) : Int := if lgC L = 0 then (if inB x 0 (L.n2 : Int) = true then 0 else 3) else lgC L
def clS (L : Lo) (x : Int) : Int := if clC L x = 0 then (clM L x.toNat : Int) else 0
def clL (L : Lo) (x : Int) : Lo := if clC L x = 0 then ⟨13 * clM L x.toNat, aZ (cutL L x.toNat), 0, fun _ => 0⟩ else ⟨0, fun _ => 0, 0, fun _ => 0⟩
theorem cl_bad {L : Lo} {x : Int} (h : lgC L ≠ 0) : clC L x = lgC L ∧ clS L x = 0 ∧ clL L x = ⟨0, fun _ => 0, 0, fun _ => 0⟩ := by
  have e : clC L x = lgC L := if_neg h
  exact ⟨e, if_neg (by rw [e]; exact h), if_neg (by rw [e]; exact h)⟩
theorem cl_range {L : Lo} {x : Int} (h : lgC L = 0) (hx : inB x 0 (L.n2 : Int) = false) : clC L x = 3 ∧ clS L x = 0 ∧ clL L x = ⟨0, fun _ => 0, 0, fun _ => 0⟩ := by
  have e : clC L x = 3 := by unfold clC; rw [if_pos h, if_neg (by simp [hx])]
  exact ⟨e, if_neg (by rw [e]; omega), if_neg (by rw [e]; omega)⟩
theorem cl_ok {L : Lo} {k : Nat} (h : lgC L = 0) (hx : inB (k : Int) 0 (L.n2 : Int) = true) : clC L k = 0 ∧ clS L k = (clM L k : Int) ∧ clL L k = ⟨13 * clM L k, aZ (cutL L k), 0, fun _ => 0⟩ := by
  have e : clC L k = 0 := by unfold clC; rw [if_pos h, if_pos hx]
  refine ⟨e, ?_, ?_⟩
  · unfold clS; rw [if_pos e, Int.toNat_natCast]
  · unfold clL; rw [if_pos e, Int.toNat_natCast]
theorem lres_none {c : Int} {w w' : World} (hb : Below w.heap.size w w') : LRes c 0 ⟨0, fun _ => 0, 0, fun _ => 0⟩ w (.returned (.agg #[.int .i64 c, .int .i64 0, .slice none 0 0, .slice none 0 0])) w' :=
  ⟨none, none, 0, 0, rfl, hb, Nat.le_refl _, w.heap.size, w.heap.size, w.heap.size, w.heap.size, Nat.le_refl _, hb.size, Nat.le_refl _, hb.size, .inl (Nat.le_refl _), ⟨hb.size, .inl rfl⟩, ⟨hb.size, .inl rfl⟩⟩
theorem lres_some {s : Int} {n : Nat} {z : Nat → Int} {w wq w' : World} {a : Option Addr} {cap lo : Nat} (hB : Below w.heap.size w wq) (hlo : w.heap.size + 2 ≤ lo) (ho : OwnB wq lo wq.heap.size a n z) (hw : Writes (w.heap.size + 1) (w.heap.size + 2) wq w') (hs : w'.heap.size = wq.heap.size) :
    LRes 0 s ⟨n, z, 0, fun _ => 0⟩ w (.returned (.agg #[.int .i64 0, .int .i64 s, .slice a n cap, .slice none 0 0])) w' := by
  have hz := hB.size
  have h2 := (ho.writes hw (.inr hlo)).wide (lo' := w.heap.size) (hi' := wq.heap.size) (by omega) (Nat.le_refl _) (by omega)
  refine ⟨a, none, cap, 0, rfl, Writes.below hB hw (by omega), ?_⟩
  rw [hs]
  exact ⟨by omega, w.heap.size, wq.heap.size, w.heap.size, w.heap.size, Nat.le_refl _, Nat.le_refl _, Nat.le_refl _, hz, .inr (Nat.le_refl _), h2, ⟨by omega, .inl rfl⟩⟩
/-- Behind the append to an empty list that was just made. -/
theorem below_grow0 {W w6 : World} {o : Obj} (hg : (W.alloc o).drew.grownBy w6 (some W.heap.size)) : Below W.heap.size W w6 :=
  ((below_new W o).drew).grown hg (by show _ ≤ (W.alloc o).heap.size; rw [World.size_alloc]; omega) (fun q hq => by simp at hq; omega)
theorem own_made0 (W : World) : (W.alloc (.cells #[] 5)).drew.ownsRow W.heap.size 5 1 (.slice (some ⟨W.heap.size, 0, none⟩) 0 0) ([] : List Int).length (bl []) :=
  World.ownsRow_lit (base := W.heap.size) (size := 1) (e := 5) W #[] 0 (Nat.le_refl _) (by unfold maxLen; omega) rfl
theorem ownB_zL {w : World} {lo hi u : Nat} {a : Option Addr} {z : Nat → Int} (h : OwnB w lo hi a u (zOf (zL z u))) : OwnB w lo hi a u z := by
  obtain ⟨h0, h1 | ⟨b, off, ha, hl, hh, hcl, hfr⟩⟩ := h
  · exact ⟨h0, .inl h1⟩
  · exact ⟨h0, .inr ⟨b, off, ha, hl, hh, fun i hi => by rw [hcl i hi]; unfold zOf; rw [zL_get z u i hi], hfr⟩⟩
theorem ownB_row_zL {w : World} {base u : Nat} {v : Value} {z : Nat → Int} (h : w.ownsRow base 5 1 v ([] ++ zL z u).length (bl ([] ++ zL z u))) : ∃ a cap, v = .slice a u cap ∧ OwnB w base w.heap.size a u z := by
  rw [List.nil_append] at h
  obtain ⟨a, cap, e, h2⟩ := ownB_of_row h
  rw [zL_len] at h2 e
  exact ⟨a, cap, e, ownB_zL h2⟩
theorem bytes_of_cond {w : World} {n b : Nat} {ra : Option Addr} {z : Nat → Int} (h : n = 0 ∨ ra = some ⟨b, 0, none⟩ ∧ b < w.heap.size ∧ BA w b 0 n z) : BytesAt w ra n z := by
  rcases h with h | ⟨h1, h2, h3⟩
  · exact .inl h
  · exact .inr ⟨b, 0, h1, h2, h3⟩
end Go.Proofs.Ytppckjecidcflaa
