/- readLog and RecsOf of a log without fault: the records as a row. -/
import Derived.Test.YtannmobmmnoegaaGreatQLh
import Derived.Test.YtannmobmmnoegaaGreatQLn
import Derived.Test.YtannmobmmnoegaaGreatQZpg
namespace Go.Proofs.YtannmobmmnoegaaGreat
open Go.ChangeShapes Go.WideShapes Go.ChangeAt Go.RowKit Go.Deep Go.Joins
set_option linter.unusedVariables false
set_option maxRecDepth 20000

/-- The records of a log without fault, as a row. -/
def RlW (L : Lo) (w : World) (e : Ending) (w' : World) : Prop :=
  ∃ a cap u, e = .returned (.agg #[.int .i64 0, .int .i64 u, .slice a (cnt (aZ L) (L.n1 + L.n2)) cap]) ∧ Below w.heap.size w w' ∧ w'.ownsRow w.heap.size 67 8 (.slice a (cnt (aZ L) (L.n1 + L.n2)) cap) (cnt (aZ L) (L.n1 + L.n2)) (rvs (aZ L) (cnt (aZ L) (L.n1 + L.n2)))
theorem row_down8 {w w' : World} {l l' n s lo hi : Nat} {e : TypeId} {v : Value} {xs : List Value} (h : w.ownsRow l e s v n xs) (hl : l' ≤ l) (hw : Writes lo hi w w') (hd : hi ≤ l) : w'.ownsRow l' e s v n xs := by
  have h2 := ownsRow_of (w' := w') h fun q hq => hw.block q (h.lt q hq).2 (by have := (h.lt q hq).1; omega)
  exact ⟨h2.1, h2.2.imp id fun ⟨g, cap, cur, q1, q2, q3⟩ => ⟨g, cap, cur, q1, Nat.le_trans hl q2, q3⟩⟩
set_option maxHeartbeats 8000000 in
theorem readLog_row (L : Lo) (a1 a2 : Option Addr) (c1 c2 : Nat) (w : World) (hg : lgC L = 0) (hby : LogByt L) (h : LogAt w a1 a2 L) :
    Calls Tryz.prog 128 #[.agg #[.slice a1 L.n1 c1, .slice a2 L.n2 c2]] w (RlW L w) := by
  have hb0 : ∀ o1 o2, Below w.heap.size w ((w.alloc o1).alloc o2) := fun o1 o2 => ((Below.refl _ _).alloc (Nat.le_refl _) _).alloc (by simp) _
  have HA : Hid (∀ o1 o2, LogAt ((w.alloc o1).alloc o2) a1 a2 L) := fun o1 o2 => h.below (hb0 o1 o2)
  have HY : Hid (LogByt L) := hby
  have hm := (lgC_zero hg).1
  have hc := (lgC_zero hg).2
  have hwr : IntKind.i64.wrap ((L.n1 : Int) + (L.n2 : Int)) = (L.n1 : Int) + (L.n2 : Int) := by rw [IntKind.wrap_i64]; omega
  clear h hby hg
  have hm' : ¬ (4000 < (L.n1 : Int) + (L.n2 : Int)) := by omega
  unfold RlW
  go_enter Tryz.func128, Tryz.ntmps128
  go_wp2_with fail
  refine (joined_two L a1 a2 c1 c2 _ _ ?_ (by omega) (HA.out _ _)).mono ?_
  · simp
  rintro e w1 ⟨v1, rfl, hb1, hall⟩
  obtain ⟨ra, rc, rfl, hrc, ho1, hcond⟩ := hall
  obtain ⟨b, hcd⟩ := AllAt.cond (rc := rc) hcond
  have hz1 : w.heap.size + 2 ≤ w1.heap.size := by have := hb1.size; simp at this; omega
  obtain ⟨hcc, hff⟩ := bcell hb1
  have r0 : w1.cell? ⟨w.heap.size + 1, 0, none⟩ = some (.int .i64 0) := by rw [hcc _ _ (by simp <;> omega)]; simp [go_sem]
  have r1 : w1.cell? ⟨w.heap.size + 1, 1, none⟩ = some (.int .i64 0) := by rw [hcc _ _ (by simp <;> omega)]; simp [go_sem]
  have r2 : w1.cell? ⟨w.heap.size + 1, 2, none⟩ = some (.slice none 0 0) := by rw [hcc _ _ (by simp <;> omega)]; simp [go_sem]
  have fz : ∀ i, w1.frozen? ⟨w.heap.size + 1, i, none⟩ = false := fun i => by rw [hff _ _ (by simp <;> omega)]; simp [go_sem]
  have HB1 : Hid (Below w.heap.size w w1) := below_then (hb0 _ _) hb1
  have HCD : Hid (L.n1 + L.n2 = 0 ∨ ra = some ⟨b, 0, none⟩ ∧ b < w1.heap.size ∧ BA w1 b 0 (L.n1 + L.n2) (aZ L)) := hcd
  clear hcc hff hb1 hb0 ho1 hcond hcd
  go_wp2_with fail
  refine (implUr_any (L.n1 + L.n2) (aZ L) ra b 0 rc w1 hrc (by omega) (aZ_byt HY.out) HCD.out).mono ?_
  rintro e w2 ⟨rb, rcp, rfl, hb2, ho2⟩
  have s0 := cell_below r0 hb2
  have s1 := cell_below r1 hb2
  have s2 := cell_below r2 hb2
  have sf : ∀ i, w2.frozen? ⟨w.heap.size + 1, i, none⟩ = false := fun i => (hb2.frozen (p := ⟨w.heap.size + 1, i, none⟩) (by show w.heap.size + 1 < _; omega)).trans (fz i)
  have t0 := fun o : Obj => cell_alloc s0 o
  have t1 := fun o : Obj => cell_alloc s1 o
  have t2 := fun o : Obj => cell_alloc s2 o
  have tf : ∀ i c t, (w2.alloc (.cells c t)).frozen? ⟨w.heap.size + 1, i, none⟩ = false := fun i c t => by rw [frozen?_alloc_cells]; exact sf i
  have HB2 : Hid (Below w.heap.size w w2) := below_then HB1.out hb2
  have hd : (13 * (cnt (aZ L) (L.n1 + L.n2) : Int) != ((L.n1 + L.n2 : Nat) : Int)) = false := by simp; omega
  generalize hcn : cnt (aZ L) (L.n1 + L.n2) = m at *
  have HM : Hid (cnt (aZ L) (L.n1 + L.n2) = m) := hcn
  have HO2 : Hid (w2.ownsRow (w1.heap.size + 1) 67 8 (.slice rb m rcp) m (rvs (aZ L) m)) := ho2
  clear hcn hc hb2 ho2 s0 s1 s2 sf r0 r1 r2 fz
  go_wp2_with fail
  refine bodyPost_ret (v := .agg #[.int .i64 0, .int .i64 (13 * (m : Int)), .slice rb m rcp]) (by simp [results, Tryz.results128, go_sem, *]) rfl ?_
  have hw : ∀ w7, Writes (w.heap.size + 1) (w.heap.size + 2) (w2.alloc (.cells #[.int .i64 0, .int .i64 (13 * (m : Int)), .slice rb m rcp] 163)) w7 → (∃ a cap u, Ending.returned (.agg #[.int .i64 0, .int .i64 (13 * (m : Int)), .slice rb m rcp]) = .returned (.agg #[.int .i64 0, .int .i64 u, .slice a m cap]) ∧ Below w.heap.size w w7 ∧ w7.ownsRow w.heap.size 67 8 (.slice a m cap) m (rvs (aZ L) m)) := fun w7 h7 => by
    refine ⟨rb, rcp, 13 * (m : Int), rfl, Writes.below (HB2.out.alloc HB2.out.size _) h7 (by omega), ?_⟩
    have ho := ownsRow_of (w' := (w2.alloc (.cells #[.int .i64 0, .int .i64 (13 * (m : Int)), .slice rb m rcp] 163))) HO2.out fun q hq => (below_new _ _).block q (HO2.out.lt q hq).2
    exact row_down8 ho (by omega) h7 (by omega)
  rw [HM.out]
  refine hw _ ?_
  repeat (first | exact Writes.refl _ _ _ | apply Writes.drew | refine Writes.setCell ?_ (by first | omega | (simp <;> omega)) (by first | omega | (simp <;> omega)) _)
set_option maxHeartbeats 8000000 in
theorem recsOf_row (L : Lo) (a1 a2 : Option Addr) (c1 c2 : Nat) (w : World) (hg : lgC L = 0) (hby : LogByt L) (h : LogAt w a1 a2 L) :
    Calls Tryz.prog 169 #[.agg #[.slice a1 L.n1 c1, .slice a2 L.n2 c2]] w (RlW L w) := by
  have hb0 : ∀ o1 o2, Below w.heap.size w ((w.alloc o1).alloc o2) := fun o1 o2 => ((Below.refl _ _).alloc (Nat.le_refl _) _).alloc (by simp) _
  have HA : Hid (∀ o1 o2, LogAt ((w.alloc o1).alloc o2) a1 a2 L) := fun o1 o2 => h.below (hb0 o1 o2)
  have HY : Hid (LogByt L) := hby
  clear h hby
  unfold RlW
  go_enter Tryz.func169, Tryz.ntmps169
  go_wp2_with fail
  refine (readLog_row L a1 a2 c1 c2 _ hg HY.out (HA.out _ _)).mono ?_
  rintro e w1 ⟨ra, rcp, u, rfl, hb1, ho1⟩
  obtain ⟨hcc, hff⟩ := bcell hb1
  have hsz : ∀ o1 o2 : Obj, ((w.alloc o1).alloc o2).heap.size = w.heap.size + 2 := fun _ _ => by simp
  have hz1 : w.heap.size + 2 ≤ w1.heap.size := by have := hb1.size; rw [hsz] at this; exact this
  have r0 : w1.cell? ⟨w.heap.size + 1, 0, none⟩ = some (.int .i64 0) := by rw [hcc _ _ (by simp <;> omega)]; simp [go_sem]
  have r1 : w1.cell? ⟨w.heap.size + 1, 1, none⟩ = some (.int .i64 0) := by rw [hcc _ _ (by simp <;> omega)]; simp [go_sem]
  have r2 : w1.cell? ⟨w.heap.size + 1, 2, none⟩ = some (.slice none 0 0) := by rw [hcc _ _ (by simp <;> omega)]; simp [go_sem]
  have fz : ∀ i, w1.frozen? ⟨w.heap.size + 1, i, none⟩ = false := fun i => by rw [hff _ _ (by simp <;> omega)]; simp [go_sem]
  have HB1 : Hid (Below w.heap.size w w1) := below_then (hb0 _ _) hb1
  rw [hsz] at ho1
  generalize hcn : cnt (aZ L) (L.n1 + L.n2) = m at *
  have HM : Hid (cnt (aZ L) (L.n1 + L.n2) = m) := hcn
  have HO : Hid (w1.ownsRow (w.heap.size + 2) 67 8 (.slice ra m rcp) m (rvs (aZ L) m)) := ho1
  clear hcc hff hb1 ho1 hb0 hsz hcn hg
  go_wp2_with fail
  refine bodyPost_ret (v := .agg #[.int .i64 0, .int .i64 u, .slice ra m rcp]) (by simp [results, Tryz.results169, go_sem, *]) rfl ?_
  rw [HM.out]
  have hw : ∀ w7, Writes (w.heap.size + 1) (w.heap.size + 2) w1 w7 → (∃ a cap u', Ending.returned (.agg #[.int .i64 0, .int .i64 u, .slice ra m rcp]) = .returned (.agg #[.int .i64 0, .int .i64 u', .slice a m cap]) ∧ Below w.heap.size w w7 ∧ w7.ownsRow w.heap.size 67 8 (.slice a m cap) m (rvs (aZ L) m)) := fun w7 h7 =>
    ⟨ra, rcp, u, rfl, Writes.below HB1.out h7 (by omega), row_down8 HO.out (by omega) h7 (by omega)⟩
  refine hw _ ?_
  repeat (first | exact Writes.refl _ _ _ | refine Writes.setCell ?_ (by first | omega | (simp <;> omega)) (by first | omega | (simp <;> omega)) _)
end Go.Proofs.YtannmobmmnoegaaGreat
