/- A page of a disk read back: impl.readSettled, spec.l2Read, both ReadDisks. -/
import Derived.Test.YtgchkpahoilmdaaUpl
import Derived.Test.YtgchkpahoilmdaaSy2
import Derived.Test.YtgchkpahoilmdaaDopen
import Derived.Deep.RegionLaw
namespace Go.Proofs.Ytgchkpahoilmdaa
open Go.RowKit Go.Deep
set_option linter.unusedVariables false
set_option maxRecDepth 20000

theorem pres_okG {c idn lsn : Int} {n : Nat} {K V : Nat → Int} {w wq w' : World} {a : Option Addr} {cap lo hi l h : Nat} (hc : c = 0) (hB : Below w.heap.size w wq) (hlo : h ≤ lo) (hl : w.heap.size ≤ l) (hlh : l ≤ h) (ho : Own wq lo hi a n K V) (hw : Writes l h wq w') (hs : w'.heap.size = wq.heap.size) :
    PRes c idn lsn n K V w (.returned (.agg #[.int .i64 0, .int .i64 idn, .int .i64 lsn, .slice a n cap])) w' := by
  rw [PRes, hc]
  simp only [if_true]
  refine ⟨a, cap, rfl, Writes.below hB hw hl, ?_⟩
  have h0 := ho.1
  rw [hs]
  exact (ho.writes hw (.inr hlo)).wide (by omega) h0 (by omega)
/-- The code of a page that is read out of place id. -/
def rsC (z : Nat → Int) (id : Int) : Int := if upc z 48 = 0 then (if num z 0 1 = id then 0 else 1) else upc z 48
theorem upc_byt {z : Nat → Int} : 0 ≤ num z 0 1 ∨ True := .inr trivial
set_option maxHeartbeats 4000000 in
theorem readSettled_any (n id : Nat) (Z : Nat → Nat → Int) (a : Option Addr) (cap lo hi : Nat) (w : World) (hid : id < n) (hz : Byt 48 (Z id)) (h : OwnP w lo hi a n (fun _ => 48) Z) :
    Calls Try.prog 61 #[.agg #[.slice a n cap, .slice none 0 0], .int .i64 id] w (PRes (rsC (Z id) id) (num (Z id) 0 1) (num (Z id) 1 4) (rpN (Z id)) (rpK (Z id)) (rpV (Z id)) w) := by
  have hb0 : ∀ o1 o2, Below w.heap.size w ((w.alloc o1).alloc o2) := fun o1 o2 => ((Below.refl _ _).alloc (Nat.le_refl _) _).alloc (by simp) _
  obtain ⟨b, off, g, o, c, rfl, hcell, -, -, -, hrow, hc, -⟩ := h.pick2 hid
  have hgl : g < w.heap.size := Go.block_lt_of_cell (hrow.1 0 (by decide))
  have hi1 : (0 : Int) ≤ (id : Int) := by omega
  have hi2 : (id : Int) < (n : Int) := by omega
  have hca := fun o1 o2 : Obj => cell_alloc (cell_alloc hcell o1) o2
  have HR : Hid (∀ o1 o2 : Obj, BA ((w.alloc o1).alloc o2) g o 48 (Z id)) := fun o1 o2 => BA.alloc (BA.alloc hrow.1 o1) o2
  have HZ : Hid (Byt 48 (Z id)) := hz
  have hc' : 48 ≤ c := hc
  generalize Z id = z at *
  clear h hrow hz hcell hc
  go_enter Try.func61, Try.ntmps61
  go_wp2_with fail
  refine (implUp_some z g o c _ hc' (by rw [World.size_alloc, World.size_alloc]; omega) HZ.out (HR.out _ _)).mono ?_
  rintro e w1 ⟨a1, cp1, rfl, hb1, ho1⟩
  obtain ⟨hcc, hff⟩ := bcell hb1
  have hsz : ∀ o1 o2 : Obj, ((w.alloc o1).alloc o2).heap.size = w.heap.size + 2 := fun _ _ => by simp
  have hz1 : w.heap.size + 2 ≤ w1.heap.size := by have := hb1.size; rw [hsz] at this; exact this
  have r0 : w1.cell? ⟨w.heap.size + 1, 0, none⟩ = some (.int .i64 0) := by rw [hcc _ _ (by simp <;> omega)]; simp [go_sem]
  have r1 : w1.cell? ⟨w.heap.size + 1, 1, none⟩ = some (.int .i64 0) := by rw [hcc _ _ (by simp <;> omega)]; simp [go_sem]
  have r2 : w1.cell? ⟨w.heap.size + 1, 2, none⟩ = some (.int .i64 0) := by rw [hcc _ _ (by simp <;> omega)]; simp [go_sem]
  have r3 : w1.cell? ⟨w.heap.size + 1, 3, none⟩ = some (.slice none 0 0) := by rw [hcc _ _ (by simp <;> omega)]; simp [go_sem]
  have fz : ∀ i, w1.frozen? ⟨w.heap.size + 1, i, none⟩ = false := fun i => by rw [hff _ _ (by simp <;> omega)]; simp [go_sem]
  have q0 := fun o : Obj => cell_alloc r0 o
  have q1 := fun o : Obj => cell_alloc r1 o
  have q2 := fun o : Obj => cell_alloc r2 o
  have q3 := fun o : Obj => cell_alloc r3 o
  have qf : ∀ i c t, (w1.alloc (.cells c t)).frozen? ⟨w.heap.size + 1, i, none⟩ = false := fun i c t => by rw [frozen?_alloc_cells]; exact fz i
  have HB1 : Hid (Below w.heap.size w w1) := below_then (hb0 _ _) hb1
  rw [hsz] at ho1
  clear hcc hff hb1 hca hb0 hsz r0 r1 r2 r3 fz
  by_cases hu : upc z 48 = 0
  · rw [hu] at ho1 ⊢
    simp only [if_true] at ho1 ⊢
    have HO : Hid (Own w1 (w.heap.size + 2) w1.heap.size a1 (rpN z) (rpK z) (rpV z)) := ho1
    clear ho1
    by_cases hid2 : num z 0 1 = id
    · have HC : Hid (rsC z id = 0) := by show rsC z id = 0; rw [rsC, if_pos hu, if_pos hid2]
      have hd : (num z 0 1 != (id : Int)) = false := by simpa using hid2
      clear hu hid2
      go_wp2_with fail
      refine bodyPost_ret (v := .agg #[.int .i64 0, .int .i64 (num z 0 1), .int .i64 (num z 1 4), .slice a1 (rpN z) cp1]) (by simp [results, Try.results61, go_sem, *]) rfl ?_
      refine pres_okG (wq := w1.alloc (.cells #[.int .i64 0, .int .i64 (num z 0 1), .int .i64 (num z 1 4), .slice a1 (rpN z) cp1] 27)) (l := w.heap.size + 1) (h := w.heap.size + 2) HC.out (HB1.out.alloc HB1.out.size _) (Nat.le_refl _) (by omega) (by omega) (HO.out.below (below_new _ _)) ?_ (by simp [World.setCell])
      repeat (first | exact Writes.refl _ _ _ | apply Writes.drew | refine Writes.setCell ?_ (by first | omega | (simp <;> omega)) (by first | omega | (simp <;> omega)) _)
    · have HC : Hid (rsC z id = 1) := by show rsC z id = 1; rw [rsC, if_pos hu, if_neg hid2]
      have hd : (num z 0 1 != (id : Int)) = true := by simpa using hid2
      clear hu hid2
      go_wp2_with fail
      refine bodyPost_ret (v := .agg #[.int .i64 1, .int .i64 0, .int .i64 0, .slice none 0 0]) (by simp [results, Try.results61, go_sem, *]) rfl ?_
      rw [HC.out]
      refine pres_bad ?_ (by decide)
      repeat (first | exact HB1.out.alloc HB1.out.size _ | apply Below.drew | refine Below.setCell ?_ (by first | omega | (simp <;> omega)) _)
  · have HC : Hid (rsC z id = upc z 48) := by show rsC z id = _; rw [rsC, if_neg hu]
    have HN : Hid (upc z 48 ≠ 0) := hu
    have hd : (upc z 48 == 0) = false := by simpa using hu
    simp only [if_neg hu] at ho1 ⊢
    clear ho1 hu
    generalize upc z 48 = cc at *
    go_wp2_with fail
    refine bodyPost_ret (v := .agg #[.int .i64 cc, .int .i64 0, .int .i64 0, .slice a1 0 cp1]) (by simp [results, Try.results61, go_sem, *]) rfl ?_
    rw [PRes, HC.out]
    simp only [if_neg HN.out]
    refine ⟨a1, cp1, rfl, ?_, Nat.le_refl _, .inl rfl⟩
    repeat (first | exact HB1.out.alloc HB1.out.size _ | apply Below.drew | refine Below.setCell ?_ (by first | omega | (simp <;> omega)) _)
theorem lay_byt {Z : Nat → Nat → Int} {p t : Int} {y : Nat → Int} {q : Nat} (h : Byt 48 (Z q)) (hy : Byt 16 y) : Byt 48 (lay Z p t y q) := fun i hi => by
  unfold lay
  split
  · exact hy _ (by omega)
  · exact h i hi
theorem stl_byt {D : Dk} {F : Nat → Int} (hg : GoodD D) (hb : DiskByt D) {q : Nat} (hq : q < D.n) : ∀ k, (∀ i, i < k → 0 ≤ F i ∧ F i < D.m) → Byt 48 (stl D F k q)
  | 0, _ => by have := hb.p q hq; rw [hg.L q hq] at this; exact this
  | k + 1, h => by
    have h2 := h k (by omega)
    have h3 := hb.l (F k).toNat (by omega)
    rw [hg.M _ (by omega)] at h3
    exact lay_byt (stl_byt hg hb hq k fun i hi => h i (by omega)) h3
theorem stl_idByt {D : Dk} (hg : GoodD D) (hb : DiskByt D) {q : Nat} (hq : q < D.n) : Byt 48 (stl D idF D.m q) := stl_byt hg hb hq D.m fun i hi => ⟨by unfold idF; omega, by unfold idF; omega⟩
set_option maxHeartbeats 4000000 in
theorem l2Read_any (D : Dk) (id : Nat) (a a' : Option Addr) (cap cap' : Nat) (w : World) (hg : GoodD D) (hby : DiskByt D) (hid : id < D.n) (h : DiskAt w a a' D) :
    Calls Try.prog 56 #[.agg #[.slice a D.n cap, .slice a' D.m cap'], .int .i64 id] w (PRes (rsC (stl D idF D.m id) id) (num (stl D idF D.m id) 0 1) (num (stl D idF D.m id) 1 4) (rpN (stl D idF D.m id)) (rpK (stl D idF D.m id)) (rpV (stl D idF D.m id)) w) := by
  have hb0 : ∀ o1 o2, Below w.heap.size w ((w.alloc o1).alloc o2) := fun o1 o2 => ((Below.refl _ _).alloc (Nat.le_refl _) _).alloc (by simp) _
  have HZ : Hid (Byt 48 (stl D idF D.m id)) := stl_idByt hg hby hid
  have hi1 : (0 : Int) ≤ (id : Int) := by omega
  have hi2 : (id : Int) < (D.n : Int) := by omega
  have hf1 : ∀ (a1 : Option Addr) (c1 : Nat) (w : World), (Instr.field 38 (.agg #[.slice a1 D.n c1, .slice none 0 0]) 0).run Try.prog w = .ok (.slice a1 D.n c1) w := fun _ _ _ => by kernel_rfl
  have HG : Hid (GoodD D) := hg
  have HA : Hid (DiskAt w a a' D) := h
  clear hg h hby
  go_enter Try.func56, Try.ntmps56
  go_wp2_with fail
  refine (l2Sync_any D a a' cap cap' _ HG.out (HA.out.below (hb0 _ _))).mono ?_
  rintro e w0 ⟨a0, c0, rfl, hb9, hop⟩
  obtain ⟨b, off, g, o, c, rfl, hcell, -, -, -, hrow, hc, -⟩ := hop.pick2 hid
  have hgl : g < w0.heap.size := Go.block_lt_of_cell (hrow.1 0 (by decide))
  obtain ⟨hcc, hff⟩ := bcell hb9
  have hsz : ∀ o1 o2 : Obj, ((w.alloc o1).alloc o2).heap.size = w.heap.size + 2 := fun _ _ => by simp
  have hz0 : w.heap.size + 2 ≤ w0.heap.size := by have := hb9.size; rw [hsz] at this; exact this
  have s0 : w0.cell? ⟨w.heap.size + 1, 0, none⟩ = some (.int .i64 0) := by rw [hcc _ _ (by simp <;> omega)]; simp [go_sem]
  have s1 : w0.cell? ⟨w.heap.size + 1, 1, none⟩ = some (.int .i64 0) := by rw [hcc _ _ (by simp <;> omega)]; simp [go_sem]
  have s2 : w0.cell? ⟨w.heap.size + 1, 2, none⟩ = some (.int .i64 0) := by rw [hcc _ _ (by simp <;> omega)]; simp [go_sem]
  have s3 : w0.cell? ⟨w.heap.size + 1, 3, none⟩ = some (.slice none 0 0) := by rw [hcc _ _ (by simp <;> omega)]; simp [go_sem]
  have sf : ∀ i, w0.frozen? ⟨w.heap.size + 1, i, none⟩ = false := fun i => by rw [hff _ _ (by simp <;> omega)]; simp [go_sem]
  have HB0 : Hid (Below w.heap.size w w0) := below_then (hb0 _ _) hb9
  have HR : Hid (BA w0 g o 48 (stl D idF D.m id)) := hrow.1
  have hc' : 48 ≤ c := hc
  generalize stl D idF D.m id = z at *
  clear hcc hff hb9 hop hrow hc hb0
  go_wp2_with fail
  refine (specUp_some z g o c _ hc' hgl HZ.out HR.out).mono ?_
  rintro e w1 ⟨a1, cp1, rfl, hb1, ho1⟩
  have hz1 : w0.heap.size ≤ w1.heap.size := hb1.size
  have r0 := cell_below s0 hb1
  have r1 := cell_below s1 hb1
  have r2 := cell_below s2 hb1
  have r3 := cell_below s3 hb1
  have fz : ∀ i, w1.frozen? ⟨w.heap.size + 1, i, none⟩ = false := fun i => (hb1.frozen (p := ⟨w.heap.size + 1, i, none⟩) (by show w.heap.size + 1 < _; omega)).trans (sf i)
  have q0 := fun o : Obj => cell_alloc r0 o
  have q1 := fun o : Obj => cell_alloc r1 o
  have q2 := fun o : Obj => cell_alloc r2 o
  have q3 := fun o : Obj => cell_alloc r3 o
  have qf : ∀ i c t, (w1.alloc (.cells c t)).frozen? ⟨w.heap.size + 1, i, none⟩ = false := fun i c t => by rw [frozen?_alloc_cells]; exact fz i
  have HB1 : Hid (Below w.heap.size w w1) := below_then HB0.out hb1
  clear hb1 r0 r1 r2 r3 fz s0 s1 s2 s3 sf hsz hcell
  by_cases hu : upc z 48 = 0
  · rw [hu] at ho1 ⊢
    simp only [if_true] at ho1 ⊢
    have HO : Hid (Own w1 w0.heap.size w1.heap.size a1 (rpN z) (rpK z) (rpV z)) := ho1
    clear ho1
    by_cases hid2 : num z 0 1 = id
    · have HC : Hid (rsC z id = 0) := by show rsC z id = 0; rw [rsC, if_pos hu, if_pos hid2]
      have hd : (num z 0 1 != (id : Int)) = false := by simpa using hid2
      clear hu hid2
      go_wp2_with fail
      refine bodyPost_ret (v := .agg #[.int .i64 0, .int .i64 (num z 0 1), .int .i64 (num z 1 4), .slice a1 (rpN z) cp1]) (by simp [results, Try.results56, go_sem, *]) rfl ?_
      refine pres_okG (wq := w1.alloc (.cells #[.int .i64 0, .int .i64 (num z 0 1), .int .i64 (num z 1 4), .slice a1 (rpN z) cp1] 27)) (l := w.heap.size + 1) (h := w.heap.size + 2) HC.out (HB1.out.alloc HB1.out.size _) hz0 (by omega) (by omega) (HO.out.below (below_new _ _)) ?_ (by simp [World.setCell])
      repeat (first | exact Writes.refl _ _ _ | apply Writes.drew | refine Writes.setCell ?_ (by first | omega | (simp <;> omega)) (by first | omega | (simp <;> omega)) _)
    · have HC : Hid (rsC z id = 1) := by show rsC z id = 1; rw [rsC, if_pos hu, if_neg hid2]
      have hd : (num z 0 1 != (id : Int)) = true := by simpa using hid2
      clear hu hid2
      go_wp2_with fail
      refine bodyPost_ret (v := .agg #[.int .i64 1, .int .i64 0, .int .i64 0, .slice none 0 0]) (by simp [results, Try.results56, go_sem, *]) rfl ?_
      rw [HC.out]
      refine pres_bad ?_ (by decide)
      repeat (first | exact HB1.out.alloc HB1.out.size _ | apply Below.drew | refine Below.setCell ?_ (by first | omega | (simp <;> omega)) _)
  · have HC : Hid (rsC z id = upc z 48) := by show rsC z id = _; rw [rsC, if_neg hu]
    have HN : Hid (upc z 48 ≠ 0) := hu
    have hd : (upc z 48 == 0) = false := by simpa using hu
    simp only [if_neg hu] at ho1 ⊢
    clear ho1 hu
    generalize upc z 48 = cc at *
    go_wp2_with fail
    refine bodyPost_ret (v := .agg #[.int .i64 cc, .int .i64 0, .int .i64 0, .slice a1 0 cp1]) (by simp [results, Try.results56, go_sem, *]) rfl ?_
    rw [PRes, HC.out]
    simp only [if_neg HN.out]
    refine ⟨a1, cp1, rfl, ?_, Nat.le_refl _, .inl rfl⟩
    repeat (first | exact HB1.out.alloc HB1.out.size _ | apply Below.drew | refine Below.setCell ?_ (by first | omega | (simp <;> omega)) _)
end Go.Proofs.Ytgchkpahoilmdaa
