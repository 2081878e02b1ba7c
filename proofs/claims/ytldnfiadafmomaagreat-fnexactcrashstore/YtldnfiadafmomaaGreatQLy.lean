/- Both CrashLogs. -/
import Derived.Test.YtldnfiadafmomaaGreatQLx
namespace Go.Proofs.YtldnfiadafmomaaGreat
open Go.RowKit Go.Deep
set_option linter.unusedVariables false
set_option maxRecDepth 20000

set_option maxHeartbeats 4000000 in
theorem specCl_any (L : Lo) (a1 a2 : Option Addr) (c1 c2 : Nat) (x : Int) (w : World) (hn1 : L.n1 ≤ 1048576) (hn2 : L.n2 ≤ 1048576) (hcap : L.n2 ≤ c2) (hby : LogByt L) (h : LogAt w a1 a2 L) :
    Calls Tryz.prog 22 #[.agg #[.slice a1 L.n1 c1, .slice a2 L.n2 c2], .int .i64 x] w (LRes (clC L x) (clS L x) (clL L x) w) := by
  have hb0 : ∀ o1 o2, Below w.heap.size w ((w.alloc o1).alloc o2) := fun o1 o2 => ((Below.refl _ _).alloc (Nat.le_refl _) _).alloc (by simp) _
  have HA : Hid (LogAt w a1 a2 L) := h
  have HY : Hid (LogByt L) := hby
  clear h hby
  go_enter Tryz.func22, Tryz.ntmps22
  go_wp2_with fail
  refine (specLf_any L a1 a2 c1 c2 _ hn1 hn2 HY.out (HA.out.below (hb0 _ _))).mono ?_
  rintro e w1 ⟨rfl, hb1⟩
  obtain ⟨hcc, hff⟩ := bcell hb1
  have hz1 : w.heap.size + 2 ≤ w1.heap.size := by have := hb1.size; simp at this; omega
  have q0 : w1.cell? ⟨w.heap.size, 0, none⟩ = some (.slice a1 L.n1 c1) := by rw [hcc _ _ (by simp <;> omega)]; simp [go_sem]
  have q1 : w1.cell? ⟨w.heap.size, 1, none⟩ = some (.slice a2 L.n2 c2) := by rw [hcc _ _ (by simp <;> omega)]; simp [go_sem]
  have r0 : w1.cell? ⟨w.heap.size + 1, 0, none⟩ = some (.int .i64 0) := by rw [hcc _ _ (by simp <;> omega)]; simp [go_sem]
  have r1 : w1.cell? ⟨w.heap.size + 1, 1, none⟩ = some (.int .i64 0) := by rw [hcc _ _ (by simp <;> omega)]; simp [go_sem]
  have r2 : w1.cell? ⟨w.heap.size + 1, 2, none⟩ = some (.slice none 0 0) := by rw [hcc _ _ (by simp <;> omega)]; simp [go_sem]
  have r3 : w1.cell? ⟨w.heap.size + 1, 3, none⟩ = some (.slice none 0 0) := by rw [hcc _ _ (by simp <;> omega)]; simp [go_sem]
  have fz : ∀ i, w1.frozen? ⟨w.heap.size + 1, i, none⟩ = false := fun i => by rw [hff _ _ (by simp <;> omega)]; simp [go_sem]
  have HB1 : Hid (Below w.heap.size w w1) := below_then (hb0 _ _) hb1
  clear hcc hff hb1 hb0
  by_cases hc : lgC L = 0
  case neg =>
    have hd : (lgC L != 0) = true := by simpa using hc
    have HX : Hid (∀ w', Below w.heap.size w w' → LRes (clC L x) (clS L x) (clL L x) w (.returned (.agg #[.int .i64 (lgC L), .int .i64 0, .slice none 0 0, .slice none 0 0])) w') := fun w' hb => by
      obtain ⟨e1, e2, e3⟩ := cl_bad (x := x) hc
      rw [e1, e2, e3]; exact lres_none hb
    clear hc
    generalize lgC L = c at *
    go_wp2_with fail
    refine bodyPost_ret (v := .agg #[.int .i64 c, .int .i64 0, .slice none 0 0, .slice none 0 0]) (by simp [results, Tryz.results22, go_sem, *]) rfl ?_
    refine HX.out _ ?_
    repeat (first | exact HB1.out | refine Below.setCell ?_ (by first | omega | (simp <;> omega)) _)
  obtain hx | hx := bool_or3 (inB x 0 (L.n2 : Int))
  case inr =>
    have HX : Hid (∀ w', Below w.heap.size w w' → LRes (clC L x) (clS L x) (clL L x) w (.returned (.agg #[.int .i64 3, .int .i64 0, .slice none 0 0, .slice none 0 0])) w') := fun w' hb => by
      obtain ⟨e1, e2, e3⟩ := cl_range hc hx
      rw [e1, e2, e3]; exact lres_none hb
    rw [hc]
    clear hc
    go_wp2_with (first | (go_at_call 50; refine (l1In_any _ _ _ _).mono ?_; rintro e w' ⟨rfl, hw'⟩; rw [hw']; clear hw'))
    refine bodyPost_ret (v := .agg #[.int .i64 3, .int .i64 0, .slice none 0 0, .slice none 0 0]) (by simp [results, Tryz.results22, go_sem, *]) rfl ?_
    refine HX.out _ ?_
    repeat (first | exact HB1.out | refine Below.setCell ?_ (by first | omega | (simp <;> omega)) _)
  have hle := (lgC_zero hc).1
  have hxx := inB_iff.1 hx
  obtain ⟨k, rfl⟩ : ∃ k : Nat, x = (k : Int) := ⟨x.toNat, by omega⟩
  have hk2 : k ≤ L.n2 := by omega
  have HOK : Hid (clC L k = 0 ∧ clS L k = (clM L k : Int) ∧ clL L k = ⟨13 * clM L k, aZ (cutL L k), 0, fun _ => 0⟩) := cl_ok hc hx
  rw [hc]
  clear hc hxx
  go_wp2_with (first | (go_at_call 50; refine (l1In_any _ _ _ _).mono ?_; rintro e w' ⟨rfl, hw'⟩; rw [hw']; clear hw'))
  refine (l3Crash_any L a1 a2 c1 c2 k w1 hle hk2 hcap HY.out (HA.out.below HB1.out)).mono ?_
  rintro e w2 ⟨ra, rc, rfl, hb2, ho2⟩
  have HB2 : Hid (Below w.heap.size w w2) := below_then HB1.out hb2
  obtain ⟨s0, s1, t0, t1, t2, t3, tf⟩ := cells7 hb2 q0 q1 r0 r1 r2 r3 fz
  obtain ⟨u, HU⟩ : ∃ u, Hid (13 * clM L k = u) := ⟨_, rfl⟩
  rw [HU.out] at ho2
  rw [HU.out]
  have hz2 := hb2.size
  clear hb2 q0 q1 r0 r1 r2 r3 fz s0 s1
  have hu7 : u ≤ 1048576 := by have := clM_le L k; have := HU.out; omega
  have HUD : Hid (((u + 0) / 13 : Nat) = clM L k) := by have := HU.out; show _ = _; omega
  have HO2 : Hid (∀ o : Obj, OwnB (w2.alloc o) w1.heap.size w2.heap.size ra u (aZ (cutL L k))) := fun o => ho2.below (below_new _ _)
  have HBB : Hid (∀ o : Obj, Below w.heap.size w (w2.alloc o)) := fun o => below_then HB2.out (below_new _ _)
  have T0 := fun o : Obj => cell_alloc t0 o
  have T1 := fun o : Obj => cell_alloc t1 o
  have T2 := fun o : Obj => cell_alloc t2 o
  have T3 := fun o : Obj => cell_alloc t3 o
  have TF : ∀ i c t, (w2.alloc (.cells c t)).frozen? ⟨w.heap.size + 1, i, none⟩ = false := fun i c t => by rw [frozen?_alloc_cells]; exact tf i
  clear ho2
  go_upto_region 7 with fail
  obtain ⟨W, hW⟩ : ∃ y, y = w2.alloc (.cells #[.slice ra u rc, .slice none 0 0] 38) := ⟨_, rfl⟩
  have HOW : Hid (OwnB W w1.heap.size w2.heap.size ra u (aZ (cutL L k))) := by rw [hW]; exact HO2.out _
  have HBW : Hid (Below w.heap.size w W) := by rw [hW]; exact HBB.out _
  have hzW : W.heap.size = w2.heap.size + 1 := by rw [hW]; exact World.size_alloc _ _
  have x0 : W.cell? ⟨w2.heap.size, 0, none⟩ = some (.slice ra u rc) := by rw [hW]; simp [go_sem]
  have x1 : W.cell? ⟨w2.heap.size, 1, none⟩ = some (.slice none 0 0) := by rw [hW]; simp [go_sem]
  replace T0 : W.cell? ⟨w.heap.size + 1, 0, none⟩ = some (.int .i64 0) := by rw [hW]; exact T0 _
  replace T1 : W.cell? ⟨w.heap.size + 1, 1, none⟩ = some (.int .i64 0) := by rw [hW]; exact T1 _
  replace T2 : W.cell? ⟨w.heap.size + 1, 2, none⟩ = some (.slice none 0 0) := by rw [hW]; exact T2 _
  replace T3 : W.cell? ⟨w.heap.size + 1, 3, none⟩ = some (.slice none 0 0) := by rw [hW]; exact T3 _
  replace TF : ∀ i, W.frozen? ⟨w.heap.size + 1, i, none⟩ = false := fun i => by rw [hW]; exact TF _ _ _
  rw [← hW]
  clear hW HO2 HBB t0 t1 t2 t3 tf
  go_region_law (first | (go_simp; go_at_call 52; refine (l3Count_any ⟨u, aZ (cutL L k), 0, fun _ => 0⟩ ra none rc 0 _ (by show u + 0 ≤ 1048576; omega)).mono ?_; rintro e wa ⟨rfl, hba⟩; have hB := drewB6 hba; have y0 := cell_below x0 hB; have y1 := cell_below x1 hB; have d0 := cell_below T0 hB; have d1 := cell_below T1 hB; have d2 := cell_below T2 hB; have d3 := cell_below T3 hB; have df := fun i : Nat => (hB.frozen (p := ⟨w.heap.size + 1, i, none⟩) (by have := Go.block_lt_of_cell T0; exact this)).trans (TF i); have HBA : Hid (Below w.heap.size w wa) := below_then HBW.out hB; have HOA : Hid (OwnB wa w1.heap.size wa.heap.size ra u (aZ (cutL L k))) := (HOW.out.below hB).wide (Nat.le_refl _) (by have := hB.size; omega) (Nat.le_refl _)))
  all_goals
    have hud : (u : Int) / 13 = (clM L k : Int) := by have := HU.out; omega
    clear hba hB
    go_wp2_with fail
    refine bodyPost_ret (v := .agg #[.int .i64 0, .int .i64 (clM L k : Int), .slice ra u rc, .slice none 0 0]) (by simp [results, Tryz.results22, go_sem, *]) rfl ?_
    obtain ⟨e1, e2, e3⟩ := HOK.out
    rw [e1, e2, e3, HU.out]
    refine lres_some HBA.out hz1 HOA.out ?_ (by simp [World.setCell])
    repeat (first | exact Writes.refl _ _ _ | refine Writes.setCell ?_ (by first | omega | (simp <;> omega)) (by first | omega | (simp <;> omega)) _)
theorem two_atd (X : World) (x y : Value) (t : TypeId) : (X.alloc (.cells #[x, y] t)).drew.cell? ⟨X.heap.size, 0, none⟩ = some x ∧ (X.alloc (.cells #[x, y] t)).drew.cell? ⟨X.heap.size, 1, none⟩ = some y := two_at X x y t
theorem drewBn {w : World} {o : Obj} {w2 : World} (hb : Below (w.alloc o).drew.heap.size (w.alloc o).drew w2) : Below w.heap.size w w2 := below_then (below_new _ _) (((Below.refl _ _).drew).trans hb)
theorem implUr_B (n : Nat) (z : Nat → Int) (a : Option Addr) (cap : Nat) (w : World) (hcap : n ≤ cap) (hn : n ≤ 4000) (hz : Byt n z) (h : BytesAt w a n z) :
    Calls Tryz.prog 69 #[.slice a n cap] w (RcR 0 (13 * (cnt z n : Int)) (cnt z n) z w) := by
  rcases h with h | ⟨b, off, h1, h2, h3⟩
  · exact implUr_any n z a 0 0 cap w hcap hn hz (.inl h)
  · exact implUr_any n z a b off cap w hcap hn hz (.inr ⟨h1, h2, h3⟩)
set_option maxHeartbeats 4000000 in
theorem implCl_any (L : Lo) (a1 a2 : Option Addr) (c1 c2 : Nat) (x : Int) (w : World) (hn1 : L.n1 ≤ 1048576) (hn2 : L.n2 ≤ 1048576) (hcap : L.n2 ≤ c2) (hby : LogByt L) (h : LogAt w a1 a2 L) :
    Calls Tryz.prog 29 #[.agg #[.slice a1 L.n1 c1, .slice a2 L.n2 c2], .int .i64 x] w (LRes (clC L x) (clS L x) (clL L x) w) := by
  have hb0 : ∀ o1 o2, Below w.heap.size w ((w.alloc o1).alloc o2) := fun o1 o2 => ((Below.refl _ _).alloc (Nat.le_refl _) _).alloc (by simp) _
  have HA : Hid (LogAt w a1 a2 L) := h
  have HY : Hid (LogByt L) := hby
  clear h hby
  go_enter Tryz.func29, Tryz.ntmps29
  go_wp2_with fail
  refine (implLf_any L a1 a2 c1 c2 _ hn1 hn2 HY.out (HA.out.below (hb0 _ _))).mono ?_
  rintro e w1 ⟨rfl, hb1⟩
  obtain ⟨hcc, hff⟩ := bcell hb1
  have hz1 : w.heap.size + 2 ≤ w1.heap.size := by have := hb1.size; simp at this; omega
  have q0 : w1.cell? ⟨w.heap.size, 0, none⟩ = some (.slice a1 L.n1 c1) := by rw [hcc _ _ (by simp <;> omega)]; simp [go_sem]
  have q1 : w1.cell? ⟨w.heap.size, 1, none⟩ = some (.slice a2 L.n2 c2) := by rw [hcc _ _ (by simp <;> omega)]; simp [go_sem]
  have r0 : w1.cell? ⟨w.heap.size + 1, 0, none⟩ = some (.int .i64 0) := by rw [hcc _ _ (by simp <;> omega)]; simp [go_sem]
  have r1 : w1.cell? ⟨w.heap.size + 1, 1, none⟩ = some (.int .i64 0) := by rw [hcc _ _ (by simp <;> omega)]; simp [go_sem]
  have r2 : w1.cell? ⟨w.heap.size + 1, 2, none⟩ = some (.slice none 0 0) := by rw [hcc _ _ (by simp <;> omega)]; simp [go_sem]
  have r3 : w1.cell? ⟨w.heap.size + 1, 3, none⟩ = some (.slice none 0 0) := by rw [hcc _ _ (by simp <;> omega)]; simp [go_sem]
  have fz : ∀ i, w1.frozen? ⟨w.heap.size + 1, i, none⟩ = false := fun i => by rw [hff _ _ (by simp <;> omega)]; simp [go_sem]
  have HB1 : Hid (Below w.heap.size w w1) := below_then (hb0 _ _) hb1
  clear hcc hff hb1 hb0
  by_cases hc : lgC L = 0
  case neg =>
    have hd : (lgC L != 0) = true := by simpa using hc
    have HX : Hid (∀ w', Below w.heap.size w w' → LRes (clC L x) (clS L x) (clL L x) w (.returned (.agg #[.int .i64 (lgC L), .int .i64 0, .slice none 0 0, .slice none 0 0])) w') := fun w' hb => by
      obtain ⟨e1, e2, e3⟩ := cl_bad (x := x) hc
      rw [e1, e2, e3]; exact lres_none hb
    clear hc
    generalize lgC L = c at *
    go_wp2_with fail
    refine bodyPost_ret (v := .agg #[.int .i64 c, .int .i64 0, .slice none 0 0, .slice none 0 0]) (by simp [results, Tryz.results29, go_sem, *]) rfl ?_
    refine HX.out _ ?_
    repeat (first | exact HB1.out | refine Below.setCell ?_ (by first | omega | (simp <;> omega)) _)
  obtain hx | hx := bool_or3 (inB x 0 (L.n2 : Int))
  case inr =>
    have HX : Hid (∀ w', Below w.heap.size w w' → LRes (clC L x) (clS L x) (clL L x) w (.returned (.agg #[.int .i64 3, .int .i64 0, .slice none 0 0, .slice none 0 0])) w') := fun w' hb => by
      obtain ⟨e1, e2, e3⟩ := cl_range hc hx
      rw [e1, e2, e3]; exact lres_none hb
    rw [hc]
    clear hc
    go_wp2_with (first | (go_at_call 66; refine (within_any _ _ _ _).mono ?_; rintro e w' ⟨rfl, hw'⟩; rw [hw']; clear hw'))
    refine bodyPost_ret (v := .agg #[.int .i64 3, .int .i64 0, .slice none 0 0, .slice none 0 0]) (by simp [results, Tryz.results29, go_sem, *]) rfl ?_
    refine HX.out _ ?_
    repeat (first | exact HB1.out | refine Below.setCell ?_ (by first | omega | (simp <;> omega)) _)
  have hle := (lgC_zero hc).1
  have hxx := inB_iff.1 hx
  obtain ⟨k, rfl⟩ : ∃ k : Nat, x = (k : Int) := ⟨x.toNat, by omega⟩
  have hk2 : k ≤ L.n2 := by omega
  have HOK : Hid (clC L k = 0 ∧ clS L k = (clM L k : Int) ∧ clL L k = ⟨13 * clM L k, aZ (cutL L k), 0, fun _ => 0⟩) := cl_ok hc hx
  rw [hc]
  clear hc hxx
  have HLC : Hid (LogAt w1 a1 a2 (cutL L k)) := (HA.out.below HB1.out).cut hk2
  have HYC : Hid (LogByt (cutL L k)) := HY.out.cut hk2
  have hkc : (k : Int) ≤ (c2 : Int) := by omega
  have hk0 : (0 : Int) ≤ (k : Int) := by omega
  have hnk : (cutL L k).n1 + (cutL L k).n2 ≤ 90000 := by show L.n1 + k ≤ 90000; omega
  have HLA : Hid (∀ o, LogAt (w1.alloc o).drew a1 a2 (cutL L k)) := fun o => HLC.out.below (below_new w1 o).drew
  go_upto_region 6 with (first | (go_at_call 66; refine (within_any _ _ _ _).mono ?_; rintro e w' ⟨rfl, hw'⟩; rw [hw']; clear hw'))
  have e12 : (cutL L k).n1 + (cutL L k).n2 = L.n1 + k := rfl
  have HE12 : Hid ((cutL L k).n1 + (cutL L k).n2 = L.n1 + k) := e12
  clear e12
  go_region_law (first | (go_simp; go_at_call 67; refine (joined_twoG (cutL L k) a1 a2 c1 c2 w1.heap.size _ hnk (two_atd w1 _ _ _).1 (two_atd w1 _ _ _).2 (HLA.out _)).mono ?_; rintro e w5 ⟨ra, rc, rfl, hrc, hb5, hby5⟩; have hB5 := drewBn hb5; rw [HE12.out] at hrc hby5; rw [HE12.out]; have HRC : Hid (L.n1 + k ≤ rc) := hrc; have HBY : Hid (BytesAt w5 ra (L.n1 + k) (aZ (cutL L k))) := hby5; have HB5 : Hid (Below w1.heap.size w1 w5) := hB5; clear hrc hb5 hby5 hB5))
  all_goals
    clear q0 q1
    go_wp2_with fail
    refine (implUr_B (L.n1 + k) (aZ (cutL L k)) ra rc w5 HRC.out (by omega) (aZ_byt HYC.out) HBY.out).mono ?_
    rintro e w6 ⟨rb, rcp, rfl, hb6, -⟩
    obtain ⟨u, HU⟩ : ∃ u, Hid (13 * clM L k = u) := ⟨_, rfl⟩
    obtain ⟨m, HM⟩ : ∃ m, Hid (clM L k = m) := ⟨_, rfl⟩
    have hm : cnt (aZ (cutL L k)) (L.n1 + k) = m := HM.out
    have hue : 13 * (m : Int) = (u : Int) := by have := HU.out; have := HM.out; omega
    have hule : u ≤ L.n1 + k := by rw [← HU.out]; exact clM_le L k
    have HB6 : Hid (Below w1.heap.size w1 w6) := below_then HB5.out hb6
    have HBY6 : Hid (BytesAt w6 ra (L.n1 + k) (aZ (cutL L k))) := HBY.out.below hb6
    rw [hm, hue]
    clear hb6 hm hue HBY HB5
    go_wp2_with fail
    refine (sureLog_any (L.n1 + k) u m (aZ (cutL L k)) ra rb rc rcp 0 w6 hule HRC.out (by omega) HBY6.out).mono ?_
    rintro e w7 ⟨a7, cp7, rfl, hb7, ho7⟩
    have HB7 : Hid (Below w1.heap.size w1 w7) := below_then HB6.out hb7
    have hz6 := HB6.out.size
    have HO7 : Hid (OwnB w7 w6.heap.size w7.heap.size a7 u (aZ (cutL L k))) := ho7
    have t0 := cell_below r0 HB7.out
    have t1 := cell_below r1 HB7.out
    have t2 := cell_below r2 HB7.out
    have t3 := cell_below r3 HB7.out
    have tf : ∀ i, w7.frozen? ⟨w.heap.size + 1, i, none⟩ = false := fun i => (HB7.out.frozen (p := ⟨w.heap.size + 1, i, none⟩) (by have := Go.block_lt_of_cell r0; exact this)).trans (fz i)
    clear hb7 ho7 r0 r1 r2 r3 fz HBY6 HB6
    go_wp2_with fail
    refine bodyPost_ret (v := .agg #[.int .i64 0, .int .i64 (m : Int), .slice a7 u cp7, .slice none 0 0]) (by simp [results, Tryz.results29, go_sem, *]) rfl ?_
    obtain ⟨e1, e2, e3⟩ := HOK.out
    rw [e1, e2, e3, HU.out, HM.out]
    refine lres_some (below_then HB1.out HB7.out) (lo := w6.heap.size) (by omega) HO7.out ?_ (by simp [World.setCell])
    repeat (first | exact Writes.refl _ _ _ | refine Writes.setCell ?_ (by first | omega | (simp <;> omega)) (by first | omega | (simp <;> omega)) _)
end Go.Proofs.YtldnfiadafmomaaGreat
