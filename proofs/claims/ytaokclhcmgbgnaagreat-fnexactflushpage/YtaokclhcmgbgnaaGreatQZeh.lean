/- A store at work and its answer; what turnStore defers. -/
import Derived.Test.YtaokclhcmgbgnaaGreatQLh
import Derived.Test.YtaokclhcmgbgnaaGreatQLn
import Derived.Test.YtaokclhcmgbgnaaGreatQZpg
import Derived.Test.YtaokclhcmgbgnaaGreatQZeb
import Derived.Test.YtaokclhcmgbgnaaGreatQZec
import Derived.Test.YtaokclhcmgbgnaaGreatQAo
import Derived.Deep.AppendLies
import Derived.Defers
namespace Go.Proofs.YtaokclhcmgbgnaaGreat
open Go.ChangeShapes Go.WideShapes Go.ChangeAt Go.RowKit Go.Deep Go.Joins
set_option linter.unusedVariables false
set_option maxRecDepth 20000
set_option linter.unusedSimpArgs false

/-- The records of a log without fault, as a row. -/
def RlW (L : Lo) (w : World) (e : Ending) (w' : World) : Prop :=
  ∃ a cap u, e = .returned (.agg #[.int .i64 0, .int .i64 u, .slice a (cnt (aZ L) (L.n1 + L.n2)) cap]) ∧ Below w.heap.size w w' ∧ w'.ownsRow w.heap.size 105 8 (.slice a (cnt (aZ L) (L.n1 + L.n2)) cap) (cnt (aZ L) (L.n1 + L.n2)) (rvs (aZ L) (cnt (aZ L) (L.n1 + L.n2)))
theorem row_down8 {w w' : World} {l l' n s lo hi : Nat} {e : TypeId} {v : Value} {xs : List Value} (h : w.ownsRow l e s v n xs) (hl : l' ≤ l) (hw : Writes lo hi w w') (hd : hi ≤ l) : w'.ownsRow l' e s v n xs := by
  have h2 := ownsRow_of (w' := w') h fun q hq => hw.block q (h.lt q hq).2 (by have := (h.lt q hq).1; omega)
  exact ⟨h2.1, h2.2.imp id fun ⟨g, cap, cur, q1, q2, q3⟩ => ⟨g, cap, cur, q1, Nat.le_trans hl q2, q3⟩⟩
set_option maxHeartbeats 8000000 in
theorem readLog_row (L : Lo) (a1 a2 : Option Addr) (c1 c2 : Nat) (w : World) (hg : lgC L = 0) (hby : LogByt L) (h : LogAt w a1 a2 L) :
    Calls Tryz.prog 160 #[.agg #[.slice a1 L.n1 c1, .slice a2 L.n2 c2]] w (RlW L w) := by
  have hb0 : ∀ o1 o2, Below w.heap.size w ((w.alloc o1).alloc o2) := fun o1 o2 => ((Below.refl _ _).alloc (Nat.le_refl _) _).alloc (by simp) _
  have HA : Hid (∀ o1 o2, LogAt ((w.alloc o1).alloc o2) a1 a2 L) := fun o1 o2 => h.below (hb0 o1 o2)
  have HY : Hid (LogByt L) := hby
  have hm := (lgC_zero hg).1
  have hc := (lgC_zero hg).2
  have hwr : IntKind.i64.wrap ((L.n1 : Int) + (L.n2 : Int)) = (L.n1 : Int) + (L.n2 : Int) := by rw [IntKind.wrap_i64]; omega
  clear h hby hg
  have hm' : ¬ (4000 < (L.n1 : Int) + (L.n2 : Int)) := by omega
  unfold RlW
  go_enter Tryz.func160, Tryz.ntmps160
  go_wp2_with fail
  refine (joined_two L a1 a2 c1 c2 _ _ ?_ (by omega) (HA.out _ _)).mono ?_
  · simp
  rintro e w1 ⟨v1, rfl, hb1, hall⟩
  obtain ⟨ra, rc, rfl, hrc, ho1, hcond⟩ := hall
  obtain ⟨b, hcd⟩ := AllAt.cond (rc := rc) hcond
  have hz1 : w.heap.size + 2 ≤ w1.heap.size := by have := hb1.size; simp at this; omega
  obtain ⟨hcc, hff⟩ := bcell hb1
  have r0 : w1.cell? ⟨w.heap.size + 1, 0, none⟩ = some (.int .i64 0) := by rw [hcc _ _ (by simp <;> omega)]; simp [go_sem]
  have r1 : w1.cell? ⟨w.heap.size + 1, 1, none⟩ = some (.int .i64 0) := by rw [hcc _ _ (by simp <;> omega)]; simp [go_sem]
  have r2 : w1.cell? ⟨w.heap.size + 1, 2, none⟩ = some (.slice none 0 0) := by rw [hcc _ _ (by simp <;> omega)]; simp [go_sem]
  have fz : ∀ i, w1.frozen? ⟨w.heap.size + 1, i, none⟩ = false := fun i => by rw [hff _ _ (by simp <;> omega)]; simp [go_sem]
  have HB1 : Hid (Below w.heap.size w w1) := below_then (hb0 _ _) hb1
  have HCD : Hid (L.n1 + L.n2 = 0 ∨ ra = some ⟨b, 0, none⟩ ∧ b < w1.heap.size ∧ BA w1 b 0 (L.n1 + L.n2) (aZ L)) := hcd
  clear hcc hff hb1 hb0 ho1 hcond hcd
  go_wp2_with fail
  refine (implUr_any (L.n1 + L.n2) (aZ L) ra b 0 rc w1 hrc (by omega) (aZ_byt HY.out) HCD.out).mono ?_
  rintro e w2 ⟨rb, rcp, rfl, hb2, ho2⟩
  have s0 := cell_below r0 hb2
  have s1 := cell_below r1 hb2
  have s2 := cell_below r2 hb2
  have sf : ∀ i, w2.frozen? ⟨w.heap.size + 1, i, none⟩ = false := fun i => (hb2.frozen (p := ⟨w.heap.size + 1, i, none⟩) (by show w.heap.size + 1 < _; omega)).trans (fz i)
  have t0 := fun o : Obj => cell_alloc s0 o
  have t1 := fun o : Obj => cell_alloc s1 o
  have t2 := fun o : Obj => cell_alloc s2 o
  have tf : ∀ i c t, (w2.alloc (.cells c t)).frozen? ⟨w.heap.size + 1, i, none⟩ = false := fun i c t => by rw [frozen?_alloc_cells]; exact sf i
  have HB2 : Hid (Below w.heap.size w w2) := below_then HB1.out hb2
  have hd : (13 * (cnt (aZ L) (L.n1 + L.n2) : Int) != ((L.n1 + L.n2 : Nat) : Int)) = false := by simp; omega
  generalize hcn : cnt (aZ L) (L.n1 + L.n2) = m at *
  have HM : Hid (cnt (aZ L) (L.n1 + L.n2) = m) := hcn
  have HO2 : Hid (w2.ownsRow (w1.heap.size + 1) 105 8 (.slice rb m rcp) m (rvs (aZ L) m)) := ho2
  clear hcn hc hb2 ho2 s0 s1 s2 sf r0 r1 r2 fz
  go_wp2_with fail
  refine bodyPost_ret (v := .agg #[.int .i64 0, .int .i64 (13 * (m : Int)), .slice rb m rcp]) (by simp [results, Tryz.results160, go_sem, *]) rfl ?_
  have hw : ∀ w7, Writes (w.heap.size + 1) (w.heap.size + 2) (w2.alloc (.cells #[.int .i64 0, .int .i64 (13 * (m : Int)), .slice rb m rcp] 199)) w7 → (∃ a cap u, Ending.returned (.agg #[.int .i64 0, .int .i64 (13 * (m : Int)), .slice rb m rcp]) = .returned (.agg #[.int .i64 0, .int .i64 u, .slice a m cap]) ∧ Below w.heap.size w w7 ∧ w7.ownsRow w.heap.size 105 8 (.slice a m cap) m (rvs (aZ L) m)) := fun w7 h7 => by
    refine ⟨rb, rcp, 13 * (m : Int), rfl, Writes.below (HB2.out.alloc HB2.out.size _) h7 (by omega), ?_⟩
    have ho := ownsRow_of (w' := (w2.alloc (.cells #[.int .i64 0, .int .i64 (13 * (m : Int)), .slice rb m rcp] 199))) HO2.out fun q hq => (below_new _ _).block q (HO2.out.lt q hq).2
    exact row_down8 ho (by omega) h7 (by omega)
  rw [HM.out]
  refine hw _ ?_
  repeat (first | exact Writes.refl _ _ _ | apply Writes.drew | refine Writes.setCell ?_ (by first | omega | (simp <;> omega)) (by first | omega | (simp <;> omega)) _)
set_option maxHeartbeats 8000000 in
theorem recsOf_row (L : Lo) (a1 a2 : Option Addr) (c1 c2 : Nat) (w : World) (hg : lgC L = 0) (hby : LogByt L) (h : LogAt w a1 a2 L) :
    Calls Tryz.prog 157 #[.agg #[.slice a1 L.n1 c1, .slice a2 L.n2 c2]] w (RlW L w) := by
  have hb0 : ∀ o1 o2, Below w.heap.size w ((w.alloc o1).alloc o2) := fun o1 o2 => ((Below.refl _ _).alloc (Nat.le_refl _) _).alloc (by simp) _
  have HA : Hid (∀ o1 o2, LogAt ((w.alloc o1).alloc o2) a1 a2 L) := fun o1 o2 => h.below (hb0 o1 o2)
  have HY : Hid (LogByt L) := hby
  clear h hby
  unfold RlW
  go_enter Tryz.func157, Tryz.ntmps157
  go_wp2_with fail
  refine (readLog_row L a1 a2 c1 c2 _ hg HY.out (HA.out _ _)).mono ?_
  rintro e w1 ⟨ra, rcp, u, rfl, hb1, ho1⟩
  obtain ⟨hcc, hff⟩ := bcell hb1
  have hsz : ∀ o1 o2 : Obj, ((w.alloc o1).alloc o2).heap.size = w.heap.size + 2 := fun _ _ => by simp
  have hz1 : w.heap.size + 2 ≤ w1.heap.size := by have := hb1.size; rw [hsz] at this; exact this
  have r0 : w1.cell? ⟨w.heap.size + 1, 0, none⟩ = some (.int .i64 0) := by rw [hcc _ _ (by simp <;> omega)]; simp [go_sem]
  have r1 : w1.cell? ⟨w.heap.size + 1, 1, none⟩ = some (.int .i64 0) := by rw [hcc _ _ (by simp <;> omega)]; simp [go_sem]
  have r2 : w1.cell? ⟨w.heap.size + 1, 2, none⟩ = some (.slice none 0 0) := by rw [hcc _ _ (by simp <;> omega)]; simp [go_sem]
  have fz : ∀ i, w1.frozen? ⟨w.heap.size + 1, i, none⟩ = false := fun i => by rw [hff _ _ (by simp <;> omega)]; simp [go_sem]
  have HB1 : Hid (Below w.heap.size w w1) := below_then (hb0 _ _) hb1
  rw [hsz] at ho1
  generalize hcn : cnt (aZ L) (L.n1 + L.n2) = m at *
  have HM : Hid (cnt (aZ L) (L.n1 + L.n2) = m) := hcn
  have HO : Hid (w1.ownsRow (w.heap.size + 2) 105 8 (.slice ra m rcp) m (rvs (aZ L) m)) := ho1
  clear hcc hff hb1 ho1 hb0 hsz hcn hg
  go_wp2_with fail
  refine bodyPost_ret (v := .agg #[.int .i64 0, .int .i64 u, .slice ra m rcp]) (by simp [results, Tryz.results157, go_sem, *]) rfl ?_
  rw [HM.out]
  have hw : ∀ w7, Writes (w.heap.size + 1) (w.heap.size + 2) w1 w7 → (∃ a cap u', Ending.returned (.agg #[.int .i64 0, .int .i64 u, .slice ra m rcp]) = .returned (.agg #[.int .i64 0, .int .i64 u', .slice a m cap]) ∧ Below w.heap.size w w7 ∧ w7.ownsRow w.heap.size 105 8 (.slice a m cap) m (rvs (aZ L) m)) := fun w7 h7 =>
    ⟨ra, rcp, u, rfl, Writes.below HB1.out h7 (by omega), row_down8 HO.out (by omega) h7 (by omega)⟩
  refine hw _ ?_
  repeat (first | exact Writes.refl _ _ _ | refine Writes.setCell ?_ (by first | omega | (simp <;> omega)) (by first | omega | (simp <;> omega)) _)
/-- What a copied store's pieces look like. -/
theorem Pce.forms {t : Sto} {lo : Nat} {col : Nat → Nat} {v s1 s2 s3 s4 hv ov : Value} {w : World} (H : Pce t lo col true true t.pn v s1 s2 s3 s4 hv ov w) : ∃ b0 e0 b1 e1 b2 e2 b3 e3 b4 e4 b5 e5 b6 e6, v = .slice b0 t.pn e0 ∧ s1 = .slice b1 t.d.n e1 ∧ s2 = .slice b2 t.d.m e2 ∧ s3 = .slice b3 t.g.n1 e3 ∧ s4 = .slice b4 t.g.n2 e4 ∧ hv = .slice b5 t.hn e5 ∧ ov = .slice b6 t.on e6 := by
  obtain ⟨h1, ⟨q1, q2⟩, ⟨r1, r2⟩, ⟨M, top, m1, m2, m3, m4⟩, hd, hg⟩ := H
  obtain ⟨b0, e0, p0, -⟩ := m4.own
  obtain ⟨b1, e1, b2, e2, _, _, p1, p2, -⟩ := hd rfl
  obtain ⟨b3, e3, b4, e4, _, _, p3, p4, -⟩ := hg rfl
  obtain ⟨b5, e5, p5, -⟩ := row_form q1
  obtain ⟨b6, e6, p6, -⟩ := row_form r1
  exact ⟨b0, e0, b1, e1, b2, e2, b3, e3, b4, e4, b5, e5, b6, e6, p0, p1, p2, p3, p4, p5, p6⟩
/-- A store's copy at work: the copy, its records and how a record is appended, in one box. -/
def WRes (t : Sto) (w : World) (e : Ending) (w' : World) : Prop :=
  ∃ B b0 e0 b1 e1 b2 e2 b3 e3 b4 e4 b5 e5 b6 e6 ra rc col, e = .returned (.pointer (some ⟨B, 0, none⟩)) ∧ Below w.heap.size w w' ∧ w.heap.size ≤ B ∧ BoxS w' B (.int .i64 t.nx) (.slice b0 t.pn e0) (.slice b1 t.d.n e1) (.slice b2 t.d.m e2) (.slice b3 t.g.n1 e3) (.slice b4 t.g.n2 e4) (.slice b5 t.hn e5) (.slice b6 t.on e6) ∧ w'.cell? ⟨B, 8, none⟩ = some (.slice ra (cnt (aZ t.g) (t.g.n1 + t.g.n2)) rc) ∧ w'.cell? ⟨B, 9, none⟩ = some (.func (Fn.func 158) #[] #[]) ∧ (∀ i, w'.frozen? ⟨B, i, none⟩ = false) ∧ col B = 0 ∧ Pce t w.heap.size col true true t.pn (.slice b0 t.pn e0) (.slice b1 t.d.n e1) (.slice b2 t.d.m e2) (.slice b3 t.g.n1 e3) (.slice b4 t.g.n2 e4) (.slice b5 t.hn e5) (.slice b6 t.on e6) w' ∧ w'.ownsRow w.heap.size 105 8 (.slice ra (cnt (aZ t.g) (t.g.n1 + t.g.n2)) rc) (cnt (aZ t.g) (t.g.n1 + t.g.n2)) (rvs (aZ t.g) (cnt (aZ t.g) (t.g.n1 + t.g.n2))) ∧ t.g.n1 ≤ e3 ∧ ∀ q, (Value.slice ra (cnt (aZ t.g) (t.g.n1 + t.g.n2)) rc).ownBlock = some q → col q = 6
set_option maxHeartbeats 16000000 in
theorem workOn_any (t : Sto) (a0 : Option Addr) (c0 : Nat) (a1 : Option Addr) (c1 : Nat) (a2 : Option Addr) (c2 : Nat) (a3 : Option Addr) (c3 : Nat) (a4 : Option Addr) (c4 : Nat) (a5 : Option Addr) (c5 : Nat) (a6 : Option Addr) (c6 : Nat) (w : World) (hS : SmSt t) (hG : GoodSt t) (hby : LogByt t.g) (h : InSt w a0 a1 a2 a3 a4 a5 a6 t) :
    Calls Tryz.prog 98 #[.agg #[.int .i64 t.nx, .slice a0 t.pn c0, .slice a1 t.d.n c1, .slice a2 t.d.m c2, .slice a3 t.g.n1 c3, .slice a4 t.g.n2 c4, .slice a5 t.hn c5, .slice a6 t.on c6]] w (WRes t w) := by
  have HA : Hid (InSt w a0 a1 a2 a3 a4 a5 a6 t) := h
  have HS : Hid (SmSt t) := hS
  have HGD : Hid (GoodSt t) := hG
  have HBY : Hid (LogByt t.g) := hby
  clear h hS hG hby
  go_enter Tryz.func98, Tryz.ntmps98
  go_upto_region 1 with fail
  obtain ⟨W, hW⟩ : ∃ x, x = w.alloc (.cells #[.int .i64 t.nx, .slice a0 t.pn c0, .slice a1 t.d.n c1, .slice a2 t.d.m c2, .slice a3 t.g.n1 c3, .slice a4 t.g.n2 c4, .slice a5 t.hn c5, .slice a6 t.on c6] 42) := ⟨_, rfl⟩
  have hbW : Below w.heap.size w W := by rw [hW]; exact below_new _ _
  have BX : BoxS W w.heap.size (.int .i64 t.nx) (.slice a0 t.pn c0) (.slice a1 t.d.n c1) (.slice a2 t.d.m c2) (.slice a3 t.g.n1 c3) (.slice a4 t.g.n2 c4) (.slice a5 t.hn c5) (.slice a6 t.on c6) := by rw [hW]; exact BoxS.new _ _ _ _ _ _ _ _ _ _
  rw [← hW]
  clear hW
  refine wp_region_E 8 (S := fun u => BoxS u w.heap.size (.int .i64 t.nx) (.slice a0 t.pn c0) (.slice a1 t.d.n c1) (.slice a2 t.d.m c2) (.slice a3 t.g.n1 c3) (.slice a4 t.g.n2 c4) (.slice a5 t.hn c5) (.slice a6 t.on c6)) (by kernel_rfl) (BX.below ((Below.refl _ _).drew)) (fun hS => ?_)
  obtain ⟨y0, hy0⟩ : ∃ y, y = W.drew := ⟨_, rfl⟩
  have hby : Below W.heap.size W y0 := by rw [hy0]; exact (Below.refl _ _).drew
  rw [← hy0] at hS ⊢
  clear hy0 BX
  have HBY0 : Hid (Below w.heap.size w y0) := below_then hbW hby
  replace HA : Hid (InSt y0 a0 a1 a2 a3 a4 a5 a6 t) := HA.out.below HBY0.out
  clear hby hbW
  refine wpAnyE_takeD (L := 8) (i := 0) (v := .agg #[.int .i64 t.nx, .slice a0 t.pn c0, .slice a1 t.d.n c1, .slice a2 t.d.m c2, .slice a3 t.g.n1 c3, .slice a4 t.g.n2 c4, .slice a5 t.hn c5, .slice a6 t.on c6]) (some 3) rfl rfl (by kernel_rfl) (by kernel_rfl) (by kernel_rfl) (by kernel_rfl) (fun _ _ _ h => h) (Or.inl ⟨by kernel_rfl, by intro u hSu; obtain ⟨h0, h1, h2, h3, h4, h5, h6, h7⟩ := hSu; go_simp⟩) hS ?_
  try simp only [Act.put, List.setIfInBounds_toArray, List.set_cons_zero, List.set_cons_succ]
  refine wpAnyE_takeD (L := 8) (i := 2) (v := .pointer (some ⟨w.heap.size, 4, none⟩)) (some 5) rfl rfl (by kernel_rfl) (by kernel_rfl) (by kernel_rfl) (by kernel_rfl) (fun _ _ _ h => h) (Or.inl ⟨by kernel_rfl, by intro u hSu; go_simp⟩) hS ?_
  try simp only [Act.put, List.setIfInBounds_toArray, List.set_cons_zero, List.set_cons_succ]
  refine wpAnyE_takeD (L := 8) (i := 3) (v := .agg #[.slice a3 t.g.n1 c3, .slice a4 t.g.n2 c4]) (some 6) rfl rfl (by kernel_rfl) (by kernel_rfl) (by kernel_rfl) (by kernel_rfl) (fun _ _ _ h => h) (Or.inl ⟨by kernel_rfl, by intro u hSu; obtain ⟨h0, h1, h2, h3, h4, h5, h6, h7⟩ := hSu; go_simp⟩) hS ?_
  try simp only [Act.put, List.setIfInBounds_toArray, List.set_cons_zero, List.set_cons_succ]
  refine wpAnyE_ready (rs := [1]) (by kernel_rfl) (by simp) ?_
  refine AllReadyE.cons rfl (fun K9 hK => ?_) AllReadyE.nil
  go_simp
  refine (copyStore_any t a0 c0 a1 c1 a2 c2 a3 c3 a4 c4 a5 c5 a6 c6 y0 HS.out HGD.out HA.out).mono ?_
  rintro e w1 ⟨v, s1, s2, s3, s4, hv, ov, col, ⟨ag, cg, hga, hgc⟩, rfl, hb1, hpc⟩
  obtain ⟨b0, e0, b1, e1, b2, e2, b3, e3, b4, e4, b5, e5, b6, e6, rfl, rfl, rfl, rfl, rfl, rfl, rfl⟩ := hpc.forms
  have HCP : Hid (t.g.n1 ≤ e3) := by
    injection hga with _ _ q3
    rw [q3]; exact hgc
  clear hga hgc
  have HPC : Hid (Pce t y0.heap.size col true true t.pn (.slice b0 t.pn e0) (.slice b1 t.d.n e1) (.slice b2 t.d.m e2) (.slice b3 t.g.n1 e3) (.slice b4 t.g.n2 e4) (.slice b5 t.hn e5) (.slice b6 t.on e6) w1) := hpc
  have HB1 : Hid (Below y0.heap.size y0 w1) := hb1
  clear hpc
  refine hK.out _ _ (hS.below hb1) (fun hS9 => ?_)
  try simp only [Act.put, List.setIfInBounds_toArray, List.set_cons_zero, List.set_cons_succ]
  clear hK K9 hS
  have hS := hS9
  clear hS9
  clear hb1
  refine wpAnyE_ready (rs := [4]) (by kernel_rfl) (by simp) ?_
  refine AllReadyE.cons rfl (fun K9 hK => ?_) AllReadyE.nil
  go_simp
  refine (recsOf_row t.g a3 a4 c3 c4 w1 HGD.out.lg HBY.out (HA.out.2.2.1.below HB1.out)).mono ?_
  rintro e w2 ⟨ra, rc, us, rfl, hb2, ho2⟩
  have HB2 : Hid (Below w1.heap.size w1 w2) := hb2
  have HO2 : Hid (w2.ownsRow w1.heap.size 105 8 (.slice ra (cnt (aZ t.g) (t.g.n1 + t.g.n2)) rc) (cnt (aZ t.g) (t.g.n1 + t.g.n2)) (rvs (aZ t.g) (cnt (aZ t.g) (t.g.n1 + t.g.n2)))) := ho2
  clear ho2
  refine hK.out _ _ (hS.below hb2) (fun hS9 => ?_)
  try simp only [Act.put, List.setIfInBounds_toArray, List.set_cons_zero, List.set_cons_succ]
  clear hK K9 hS
  have hS := hS9
  clear hS9
  clear hb2
  have hf : ∀ (us : Int) (ra : Option Addr) (n rc : Nat) (u : World), (Instr.field 199 (.agg #[.int .i64 0, .int .i64 us, .slice ra n rc]) 2).run Tryz.prog u = .ok (.slice ra n rc) u := fun _ _ _ _ _ => by kernel_rfl
  refine wpAnyE_ready (rs := [5]) (by kernel_rfl) (by simp) ?_
  refine AllReadyE.cons rfl (fun K9 hK => ?_) AllReadyE.nil
  go_simp
  refine hK.out _ _ (hS) (fun hS9 => ?_)
  try simp only [Act.put, List.setIfInBounds_toArray, List.set_cons_zero, List.set_cons_succ]
  clear hK K9 hS
  have hS := hS9
  clear hS9
  clear hf
  refine wpAnyE_ready (rs := [6]) (by kernel_rfl) (by simp) ?_
  refine AllReadyE.cons rfl (fun K9 hK => ?_) AllReadyE.nil
  go_simp
  refine hK.out _ _ (hS) (fun hS9 => ?_)
  try simp only [Act.put, List.setIfInBounds_toArray, List.set_cons_zero, List.set_cons_succ]
  clear hK K9 hS
  have hS := hS9
  clear hS9
  refine wpAnyE_ready (rs := [7]) (by kernel_rfl) (by simp) ?_
  refine AllReadyE.cons rfl (fun K9 hK => ?_) AllReadyE.nil
  go_simp
  refine hK.out _ _ (hS.below (below_new _ _)) (fun hS9 => ?_)
  try simp only [Act.put, List.setIfInBounds_toArray, List.set_cons_zero, List.set_cons_succ]
  clear hK K9 hS
  have hS := hS9
  clear hS9
  refine wpAnyE_ready (rs := [8]) (by kernel_rfl) (by simp) ?_
  refine AllReadyE.last rfl (fun K9 hK => ?_)
  go_simp
  refine hK.out _ _ ?_
  try simp only [Act.put, List.setIfInBounds_toArray, List.set_cons_zero, List.set_cons_succ]
  clear hK K9 hS
  refine wpAnyE_done (by kernel_rfl) ?_ _
  go_simp
  obtain ⟨W4, hW4⟩ : ∃ x, x = w2.alloc (.cells #[.int .i64 t.nx, .slice b0 t.pn e0, .slice b1 t.d.n e1, .slice b2 t.d.m e2, .slice b3 t.g.n1 e3, .slice b4 t.g.n2 e4, .slice b5 t.hn e5, .slice b6 t.on e6, .slice ra (cnt (aZ t.g) (t.g.n1 + t.g.n2)) rc, .func (Fn.func 158) #[] #[]] 86) := ⟨_, rfl⟩
  have hb4 : Below w2.heap.size w2 W4 := by rw [hW4]; exact below_new _ _
  have hs4 : W4.heap.size = w2.heap.size + 1 := by rw [hW4]; simp
  have hs0 := HBY0.out.size
  have hs1 := HB1.out.size
  have hs2 := HB2.out.size
  have hb14 := below_then HB2.out hb4
  have hfin : WRes t w (.returned (.pointer (some ⟨w2.heap.size, 0, none⟩))) W4 := by
    have hc0 := HPC.out.hc
    have c0 : col w2.heap.size = 0 := by
      by_cases e : col w2.heap.size = 0
      · exact e
      · have := (hc0 _ e).2; omega
    refine ⟨w2.heap.size, b0, e0, b1, e1, b2, e2, b3, e3, b4, e4, b5, e5, b6, e6, ra, rc, colr col w1.heap.size w2.heap.size 6, rfl, below_then (below_then HBY0.out HB1.out) hb14, by omega, by rw [hW4]; simp [BoxS], by rw [hW4]; simp [go_sem], by rw [hW4]; simp [go_sem], fun i => by rw [hW4]; simp [go_sem], by unfold colr; rw [if_neg (by omega)]; exact c0, ?_, ?_, HCP.out, fun q hq => colr_new (HO2.out.lt q hq).1 (HO2.out.lt q hq).2⟩
    · have p1 := HPC.out.keep hb14.size fun x _ hl => hb14.block x hl
      refine (p1.recol (col' := colr col w1.heap.size w2.heap.size 6) (fun x hx => ?_) (fun x hx => colr_old (hc0 x hx).2)).low hs0
      by_cases q : w1.heap.size ≤ x ∧ x < w2.heap.size
      · omega
      · unfold colr at hx; rw [if_neg q] at hx; have := hc0 x hx; omega
    · exact row_low (ownsRow_of HO2.out fun q hq => hb4.block q (HO2.out.lt q hq).2) (by omega)
  have HFIN : Hid (WRes t w (.returned (.pointer (some ⟨w2.heap.size, 0, none⟩))) W4) := hfin
  rw [← hW4]
  clear hW4 hfin hb4 hb14 HPC HO2
  go_wp2_with fail
  go_ret
  exact HFIN.out
theorem cellB {w w' : World} {b o : Nat} (e : w'.heap[b]? = w.heap[b]?) : w'.cell? ⟨b, o, none⟩ = w.cell? ⟨b, o, none⟩ := World.cell?_of_block (w := w) (a := ⟨b, o, none⟩) e
theorem frozB {w w' : World} {b o : Nat} (e : w'.heap[b]? = w.heap[b]?) : w'.frozen? ⟨b, o, none⟩ = w.frozen? ⟨b, o, none⟩ := World.frozen?_of_block (w := w) (a := ⟨b, o, none⟩) e
/-- A store's copy at work in the box B: its lists in blocks of colours, its records as a row, and how a record is appended. -/
def Wk (s : Sto) (n : Nat) (xs : List Value) (lo : Nat) (col : Nat → Nat) (B : Nat) (w : World) : Prop :=
  ∃ b0 e0 b1 e1 b2 e2 b3 e3 b4 e4 b5 e5 b6 e6 ra rc, lo ≤ B ∧ BoxS w B (.int .i64 s.nx) (.slice b0 s.pn e0) (.slice b1 s.d.n e1) (.slice b2 s.d.m e2) (.slice b3 s.g.n1 e3) (.slice b4 s.g.n2 e4) (.slice b5 s.hn e5) (.slice b6 s.on e6) ∧ w.cell? ⟨B, 8, none⟩ = some (.slice ra n rc) ∧ w.cell? ⟨B, 9, none⟩ = some (.func (Fn.func 158) #[] #[]) ∧ (∀ i, w.frozen? ⟨B, i, none⟩ = false) ∧ col B = 0 ∧ Pce s lo col true true s.pn (.slice b0 s.pn e0) (.slice b1 s.d.n e1) (.slice b2 s.d.m e2) (.slice b3 s.g.n1 e3) (.slice b4 s.g.n2 e4) (.slice b5 s.hn e5) (.slice b6 s.on e6) w ∧ w.ownsRow lo 105 8 (.slice ra n rc) n xs ∧ ∀ q, (Value.slice ra n rc).ownBlock = some q → col q = 6
theorem Wk.lt {s : Sto} {n : Nat} {xs : List Value} {lo : Nat} {col : Nat → Nat} {B : Nat} {w : World} (H : Wk s n xs lo col B w) : lo ≤ B ∧ B < w.heap.size ∧ ∀ x, col x ≠ 0 → lo ≤ x ∧ x < w.heap.size := by
  obtain ⟨b0, e0, b1, e1, b2, e2, b3, e3, b4, e4, b5, e5, b6, e6, ra, rc, h1, h2, _, _, _, _, h3, _⟩ := H
  exact ⟨h1, h2.lt, h3.hc⟩
theorem Wk.keep {s : Sto} {n : Nat} {xs : List Value} {lo : Nat} {col : Nat → Nat} {B : Nat} {w w' : World} (H : Wk s n xs lo col B w) (hs : w.heap.size ≤ w'.heap.size) (hk : ∀ x, x = B ∨ col x ≠ 0 → x < w.heap.size → w'.heap[x]? = w.heap[x]?) : Wk s n xs lo col B w' := by
  obtain ⟨b0, e0, b1, e1, b2, e2, b3, e3, b4, e4, b5, e5, b6, e6, ra, rc, h1, ⟨h2, h3, h4, h5, h6, h7, h8, h9⟩, g1, g2, g3, g4, g5, g6, g7⟩ := H
  have hB : B < w.heap.size := Go.block_lt_of_cell h2
  have e : w'.heap[B]? = w.heap[B]? := hk B (.inl rfl) hB
  have ec : ∀ o, w'.cell? ⟨B, o, none⟩ = w.cell? ⟨B, o, none⟩ := fun o => cellB e
  refine ⟨b0, e0, b1, e1, b2, e2, b3, e3, b4, e4, b5, e5, b6, e6, ra, rc, h1, ⟨by rw [ec]; exact h2, by rw [ec]; exact h3, by rw [ec]; exact h4, by rw [ec]; exact h5, by rw [ec]; exact h6, by rw [ec]; exact h7, by rw [ec]; exact h8, by rw [ec]; exact h9⟩, by rw [ec]; exact g1, by rw [ec]; exact g2, fun i => (frozB e).trans (g3 i), g4, g5.keep hs fun x hx hl => hk x (.inr hx) hl, ownsRow_of g6 fun q hq => hk q (.inr (by rw [g7 q hq]; omega)) (g6.lt q hq).2, g7⟩
theorem Wk.below {s : Sto} {n : Nat} {xs : List Value} {lo : Nat} {col : Nat → Nat} {B : Nat} {w w' : World} (H : Wk s n xs lo col B w) (hb : Below w.heap.size w w') : Wk s n xs lo col B w' := H.keep hb.size fun x _ hl => hb.block x hl
/-- The room of the log's sure bytes in the box. -/
def LgCap (n1 B : Nat) (w : World) : Prop := ∀ a c, w.cell? ⟨B, 4, none⟩ = some (.slice a n1 c) → n1 ≤ c
theorem WRes.wk2 {t : Sto} {w w' : World} {e : Ending} (H : WRes t w e w') : ∃ B col, e = .returned (.pointer (some ⟨B, 0, none⟩)) ∧ Below w.heap.size w w' ∧ Wk t (cnt (aZ t.g) (t.g.n1 + t.g.n2)) (rvs (aZ t.g) (cnt (aZ t.g) (t.g.n1 + t.g.n2))) w.heap.size col B w' ∧ LgCap t.g.n1 B w' := by
  obtain ⟨B, b0, e0, b1, e1, b2, e2, b3, e3, b4, e4, b5, e5, b6, e6, ra, rc, col, h1, h2, h3, h4, h5, h6, h7, h8, h9, h10, h12, h11⟩ := H
  refine ⟨B, col, h1, h2, ⟨b0, e0, b1, e1, b2, e2, b3, e3, b4, e4, b5, e5, b6, e6, ra, rc, h3, h4, h5, h6, h7, h8, h9, h10, h11⟩, fun a c hq => ?_⟩
  have q := h4.2.2.2.2.1
  rw [hq] at q
  injection q with q
  injection q with _ _ q3
  rw [q3]
  exact h12
/-- What may turn while the copy is worked on. -/
def WkF (col : Nat → Nat) (B : Nat) (w w' : World) : Prop := WritesP (fun x => x = B ∨ col x ≠ 0) w w'
/-! ### one record as a slice, and appended -/
/-! ### AppendRec in these words -/
/-- What is told, in its box d. -/
def TA (L : Lo) (rs : List Int) (W wx : World) (d : Nat) (c su : Int) (x1 : Option Addr) (m1 d1 : Nat) (x2 : Option Addr) (m2 d2 : Nat) : Prop :=
  W.heap.size ≤ d ∧ Below W.heap.size W wx ∧ Box4 wx d (.int .i64 c) (.int .i64 su) (.slice x1 m1 d1) (.slice x2 m2 d2) ∧ (c = 2 ∧ 4000 < L.n1 + L.n2 + 13 ∨ c = 0 ∧ L.n1 + L.n2 + 13 ≤ 4000 ∧ m1 = L.n1 ∧ m2 = L.n2 + 13 ∧ ∃ l h, W.heap.size ≤ l ∧ l ≤ h ∧ h ≤ wx.heap.size ∧ (d < l ∨ h ≤ d) ∧ OwnG wx l h x1 x2 (apR L rs))
section
variable {L : Lo} {rs : List Int} {W y0 w1 : World} {c su : Int} {x1 x2 : Option Addr} {m1 d1 m2 d2 : Nat}
end
/-- What turns a store at work answers: code c and, where that is 0, value v and the store R. -/
def CbR (c v : Int) (R : Sto) (lo B : Nat) (col : Nat → Nat) (w : World) (e : Ending) (w' : World) : Prop :=
  ∃ vv R' n' xs' col', e = .returned (.agg #[.int .i64 c, .int .i64 vv]) ∧ (c = 0 → vv = v ∧ R' = R) ∧ (∀ x, x < w.heap.size → col' x ≠ 0 → col x ≠ 0) ∧ WkF col B w w' ∧ Wk R' n' xs' lo col' B w'
theorem WkF.of_below {col : Nat → Nat} {B : Nat} {w w' : World} (h : Below w.heap.size w w') : WkF col B w w' := ⟨h.os, h.tape, h.output, h.size, fun x hx _ => h.block x hx⟩
theorem CbR.bad {c v : Int} {R s : Sto} {lo B n : Nat} {xs : List Value} {col : Nat → Nat} {w w' : World} (h0 : c ≠ 0) (H : Wk s n xs lo col B w) (hb : Below w.heap.size w w') (vv : Int) : CbR c v R lo B col w (.returned (.agg #[.int .i64 c, .int .i64 vv])) w' :=
  ⟨vv, s, n, xs, col, rfl, fun h => absurd h h0, fun _ _ h => h, WkF.of_below hb, H.below hb⟩
theorem row_self {w : World} {lo n s g cap : Nat} {e : TypeId} {xs : List Value} (h : w.ownsRow lo e s (.slice (some ⟨g, 0, none⟩) n cap) n xs) : w.ownsRow g e s (.slice (some ⟨g, 0, none⟩) n cap) n xs := by
  obtain ⟨h1, ⟨h2, h0⟩ | ⟨g', cap', cur, h2, hbg, rest⟩⟩ := h
  · injection h2 with q1
    cases q1
  · injection h2 with q1 q2 q3
    injection q1 with q1
    injection q1 with q1
    subst q1 q3
    exact ⟨h1, .inr ⟨g, cap, cur, rfl, Nat.le_refl _, rest⟩⟩
theorem row_two {w : World} {lo n s : Nat} {e : TypeId} {v : Value} {xs : List Value} (h : w.ownsRow lo e s v n xs) : (v = .slice none 0 0 ∧ n = 0) ∨ ∃ g cap, v = .slice (some ⟨g, 0, none⟩) n cap ∧ g < w.heap.size ∧ w.ownsRow g e s (.slice (some ⟨g, 0, none⟩) n cap) n xs := by
  have hh := h
  rcases h.2 with ⟨rfl, h0⟩ | ⟨g, cap, cur, rfl, hbg, hg, hnc, _⟩
  · exact .inl ⟨rfl, h0⟩
  · exact .inr ⟨g, cap, rfl, (hh.lt g rfl).2, row_self hh⟩
/-- The store that is worked on, as an answer's. -/
theorem Pce.own {s : Sto} {lo : Nat} {col : Nat → Nat} {b0 b1 b2 b3 b4 b5 b6 : Option Addr} {e0 e1 e2 e3 e4 e5 e6 : Nat} {w : World} (H : Pce s lo col true true s.pn (.slice b0 s.pn e0) (.slice b1 s.d.n e1) (.slice b2 s.d.m e2) (.slice b3 s.g.n1 e3) (.slice b4 s.g.n2 e4) (.slice b5 s.hn e5) (.slice b6 s.on e6) w) : OwnS w lo w.heap.size b0 b1 b2 b3 b4 b5 b6 s := by
  obtain ⟨k1, ⟨k2, k3⟩, ⟨k4, k5⟩, ⟨M, top, m1, m2, m3, m4⟩, k6, k7⟩ := H
  refine ⟨Nat.le_refl _, col, k1, ?_, ?_, ?_, ?_, ?_⟩
  · obtain ⟨a, cap, q1, q2, q3⟩ := m4.own
    injection q1 with q11 q12 q13
    subst q11
    exact q3.mono fun x hx => m3 x hx.1 hx.2
  · obtain ⟨a, c, a', c', l, h, p1, p2, p3, p4⟩ := k6 rfl
    injection p1 with p11 p12 p13
    injection p2 with p21 p22 p23
    subst p11 p21
    exact ⟨l, h, p3, p4⟩
  · obtain ⟨a, c, a', c', l, h, p1, p2, p3, p4⟩ := k7 rfl
    injection p1 with p11 p12 p13
    injection p2 with p21 p22 p23
    subst p11 p21
    exact ⟨l, h, p3, p4⟩
  · rcases row_two k2 with ⟨q1, q0⟩ | ⟨g, cap, q1, q2, q3⟩
    · exact ⟨0, 0, fun x _ h => absurd h (Nat.not_lt_zero _), Nat.zero_le _, .inl q0⟩
    · obtain ⟨a, cap', p1, p2, p3⟩ := own_of_rowH q3 (h := g + 1) (fun q hq => by simp only [Value.ownBlock, Option.some.injEq] at hq; omega) (by omega)
      have p1' := q1.trans p1
      injection p1' with p11 p12 p13
      subst p11
      exact ⟨g, g + 1, fun x x1 x2 => by obtain rfl : x = g := by omega
                                         exact k3 x (by rw [q1]; rfl), p3⟩
  · rcases row_two k4 with ⟨q1, q0⟩ | ⟨g, cap, q1, q2, q3⟩
    · exact ⟨0, 0, fun x _ h => absurd h (Nat.not_lt_zero _), Nat.zero_le _, .inl q0⟩
    · obtain ⟨a, cap', p1, p2, p3⟩ := own_of_rowI q3 (h := g + 1) (fun q hq => by simp only [Value.ownBlock, Option.some.injEq] at hq; omega) (by omega)
      have p1' := q1.trans p1
      injection p1' with p11 p12 p13
      subst p11
      exact ⟨g, g + 1, fun x x1 x2 => by obtain rfl : x = g := by omega
                                         exact k5 x (by rw [q1]; rfl), p3⟩
/-! ### what is deferred -/
def Bx10 (w : World) (R : Nat) (c v : Int) (u0 u1 u2 u3 u4 u5 u6 u7 : Value) : Prop := w.cell? ⟨R, 0, none⟩ = some (.int .i64 c) ∧ w.cell? ⟨R, 1, none⟩ = some (.int .i64 v) ∧ w.cell? ⟨R, 2, none⟩ = some u0 ∧ w.cell? ⟨R, 3, none⟩ = some u1 ∧ w.cell? ⟨R, 4, none⟩ = some u2 ∧ w.cell? ⟨R, 5, none⟩ = some u3 ∧ w.cell? ⟨R, 6, none⟩ = some u4 ∧ w.cell? ⟨R, 7, none⟩ = some u5 ∧ w.cell? ⟨R, 8, none⟩ = some u6 ∧ w.cell? ⟨R, 9, none⟩ = some u7
theorem Bx10.block {w w' : World} {R : Nat} {c v : Int} {u0 u1 u2 u3 u4 u5 u6 u7 : Value} (h : Bx10 w R c v u0 u1 u2 u3 u4 u5 u6 u7) (e : w'.heap[R]? = w.heap[R]?) : Bx10 w' R c v u0 u1 u2 u3 u4 u5 u6 u7 := by
  obtain ⟨h0, h1, h2, h3, h4, h5, h6, h7, h8, h9⟩ := h
  exact ⟨(cellB e).trans h0, (cellB e).trans h1, (cellB e).trans h2, (cellB e).trans h3, (cellB e).trans h4, (cellB e).trans h5, (cellB e).trans h6, (cellB e).trans h7, (cellB e).trans h8, (cellB e).trans h9⟩
theorem turnD_good (R : Nat) (u : FrameMode) (w : World) (hc : w.cell? ⟨R, 0, none⟩ = some (.int .i64 0)) :
    CallsD Tryz.prog 97 #[.pointer (some ⟨R, 0, none⟩)] u w fun e u' w' => u' = u ∧ (e = .returned (.tuple #[]) ∧ w' = w) := by
  go_enter_d Tryz.func97, Tryz.ntmps97
  go_wp2_with fail
  refine bodyPost_end (v := .tuple #[]) (by simp [results, Tryz.results97, go_sem]) rfl ⟨rfl, rfl⟩
theorem turnD_bad (R : Nat) (u : FrameMode) (c v : Int) (u0 u1 u2 u3 u4 u5 u6 u7 : Value) (w : World) (h0 : c ≠ 0) (h : Bx10 w R c v u0 u1 u2 u3 u4 u5 u6 u7) (hf : ∀ i, w.frozen? ⟨R, i, none⟩ = false) :
    CallsD Tryz.prog 97 #[.pointer (some ⟨R, 0, none⟩)] u w fun e u' w' => u' = u ∧ (e = .returned (.tuple #[]) ∧ Writes R (R + 1) w w' ∧ Bx10 w' R c 0 (.int .i64 0) (.slice none 0 0) (.slice none 0 0) (.slice none 0 0) (.slice none 0 0) (.slice none 0 0) (.slice none 0 0) (.slice none 0 0)) := by
  obtain ⟨r0, r1, r2, r3, r4, r5, r6, r7, r8, r9⟩ := h
  have h0' : (c != 0) = true := by simp [h0]
  go_enter_d Tryz.func97, Tryz.ntmps97
  go_wp2_with fail
  refine bodyPost_end (v := .tuple #[]) (by simp [results, Tryz.results97, go_sem]) rfl ⟨rfl, ?_, ?_⟩
  · repeat (first | with_reducible exact Writes.refl _ _ _ | with_reducible refine Writes.setCell ?_ (by first | omega | (simp <;> omega)) (by first | omega | (simp <;> omega)) _)
  · refine ⟨?_, ?_, ?_, ?_, ?_, ?_, ?_, ?_, ?_, ?_⟩ <;> simp [go_sem, *]
/-! ### a region's operations in a frame that defers -/
theorem leaves_same {P : Program} {fn : Func} {t1 t2 : Array Value} {R : Ending → World → Prop} (h : results fn t1 = results fn t2) : ∀ (ds : List Deferred) (u : FrameMode) (w : World), Leaves P fn t1 R ds u w → Leaves P fn t2 R ds u w
  | [], .returning, w, ⟨v, hv, hr⟩ => ⟨v, by rw [← h]; exact hv, hr⟩
  | [], .panicking c, w, hh => hh
  | [], .run, w, hh => hh
  | d :: ds, u, w, ⟨h1, fv, cap, f, args, h2, h3, h4⟩ => ⟨h1, fv, cap, f, args, h2, h3, h4.mono (fun e u' w' hh => by
      cases e with
      | returned v => exact leaves_same h ds _ _ hh
      | panicked c => exact leaves_same h ds _ _ hh
      | outgrown => exact hh)⟩
theorem res_turn (a : Act) (d : Nat) (v : Value) (hd : d ≠ 4) : results Tryz.f37 (a.put (some d) v).tmps = results Tryz.f37 a.tmps := by
  have h4 : (a.tmps.setIfInBounds d v)[4]? = a.tmps[4]? := by simp [Array.getElem?_setIfInBounds, hd]
  simp [results, Tryz.results37, Act.put, h4]
theorem turnQ {K : Act → World → Prop} {R : Ending → World → Prop} {d : Nat} {v : Value} (hd : d ≠ 4) : ∀ c a w, Exit.then K (bodyPostD Tryz.prog Tryz.f37 R) (.panic c) (a.put (some d) v) w → Exit.then K (bodyPostD Tryz.prog Tryz.f37 R) (.panic c) a w :=
  fun c a w h => leaves_same (res_turn a d v hd) _ _ _ h
end Go.Proofs.YtaokclhcmgbgnaaGreat
