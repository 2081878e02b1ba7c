/- impl.UnpackPage. -/
import Derived.Test.YtnhkjdcbaphfcaaUp
import Derived.Test.YtnhkjdcbaphfcaaPk2
namespace Go.Proofs.Ytnhkjdcbaphfcaa
open Go.RowKit Go.Deep
set_option linter.unusedVariables false
set_option maxRecDepth 20000

def zL (z : Nat → Int) (n : Nat) : List Int := (List.range n).map z
theorem zL_len (z : Nat → Int) (n : Nat) : (zL z n).length = n := by simp [zL]
theorem zL_get (z : Nat → Int) (n i : Nat) (h : i < n) : (zL z n).getD i 0 = z i := by simp [zL, h]
theorem zL_byt {z : Nat → Int} {n : Nat} (h : Byt n z) : ∀ x ∈ zL z n, 0 ≤ x ∧ x ≤ 255 := fun x hx => by
  simp only [zL, List.mem_map, List.mem_range] at hx
  obtain ⟨i, hi, rfl⟩ := hx
  exact h i hi
/-- The page that 48 bytes tell, packed again. -/
def again (z : Nat → Int) : List Int := pgb (num z 0 1) (num z 1 4) (rpN z) (rpK z) (rpV z)
def againF (z : Nat → Int) : Int := pf (num z 0 1) (num z 1 4) (rpN z) (rpK z) (rpV z)
/-- The code of UnpackPage. -/
def upc (z : Nat → Int) (n : Nat) : Int := if n ≠ 48 then 1 else if num z 46 2 ≠ sumB z 46 then 6 else if againF z = 0 ∧ again z = zL z 48 then 0 else 5
/-- An answer that is a page, or a code. -/
def PRes (c idn lsn : Int) (n : Nat) (K V : Nat → Int) (w : World) (e : Ending) (w' : World) : Prop :=
  ∃ a cap, e = .returned (.agg #[.int .i64 c, .int .i64 (if c = 0 then idn else 0), .int .i64 (if c = 0 then lsn else 0), .slice a (if c = 0 then n else 0) cap]) ∧ Below w.heap.size w w' ∧ Own w' w.heap.size w'.heap.size a (if c = 0 then n else 0) K V
theorem pres_bad {c idn lsn : Int} {n : Nat} {K V : Nat → Int} {w w' : World} (hb : Below w.heap.size w w') (hc : c ≠ 0) : PRes c idn lsn n K V w (.returned (.agg #[.int .i64 c, .int .i64 0, .int .i64 0, .slice none 0 0])) w' := by
  rw [PRes]
  simp only [if_neg hc]
  exact ⟨none, 0, rfl, hb, Nat.le_refl _, .inl rfl⟩
theorem pres_ok {c idn lsn : Int} {n : Nat} {K V : Nat → Int} {w wq w' : World} {a : Option Addr} {cap lo hi : Nat} (hc : c = 0) (hB : Below w.heap.size w wq) (hlo : w.heap.size + 1 ≤ lo) (ho : Own wq lo hi a n K V) (hw : Writes w.heap.size (w.heap.size + 1) wq w') (hs : w'.heap.size = wq.heap.size) :
    PRes c idn lsn n K V w (.returned (.agg #[.int .i64 0, .int .i64 idn, .int .i64 lsn, .slice a n cap])) w' := by
  rw [PRes, hc]
  simp only [if_true]
  refine ⟨a, cap, rfl, Writes.below hB hw (Nat.le_refl _), ?_⟩
  have h0 := ho.1
  rw [hs]
  exact (ho.writes hw (.inr hlo)).wide (by omega) h0 (by omega)
theorem rpN_le (z : Nat → Int) : rpN z ≤ 12 := by unfold rpN; split <;> omega
theorem pgb_byt (idn lsn : Int) (n : Nat) (K V : Nat → Int) : BytL (pgb idn lsn n K V) := (fld_byt _ _ _ _ _).app (nb_byt _ _)
theorem sumS {b off m cap : Nat} (z : Nat → Int) (n : Nat) (w : World) (h : BA w b off n z) (hz : Byt n z) (hm : m ≤ n) (hn : n ≤ 1000) :
    Calls Try.prog 32 #[.slice (some ⟨b, off, none⟩) m cap] w fun e w' => e = .returned (.int .i64 (sumB z m)) ∧ w' = w :=
  implSum_some m z b off cap w (by omega) (fun i hi => hz i (by omega)) (fun i hi => h i (by omega))
set_option maxHeartbeats 4000000 in
theorem implUp_some (z : Nat → Int) (b off cap : Nat) (w : World) (hcap : 48 ≤ cap) (hbl : b < w.heap.size) (hz : Byt 48 z) (hc : BA w b off 48 z) :
    Calls Try.prog 9 #[.slice (some ⟨b, off, none⟩) 48 cap] w (PRes (upc z 48) (num z 0 1) (num z 1 4) (rpN z) (rpK z) (rpV z) w) := by
  have c46 : ¬ cap = 46 := by omega
  have d46 : (46 : Int) ≤ (cap : Int) := by omega
  have HZ : Hid (Byt 48 z) := hz
  have HC : Hid (BA w b off 48 z) := hc
  have hA : BA (w.alloc (.cells #[.int .i64 0, .int .i64 0, .int .i64 0, .slice none 0 0] 29)) b off 48 z := hc.alloc _
  have hA0 : BA (w.alloc (.cells #[.int .i64 0, .int .i64 0, .int .i64 0, .slice none 0 0] 29)).drew b off 48 z := hA
  clear hz hc
  by_cases hs : num z 46 2 = sumB z 46
  · have hs1 : (num z 46 2 != sumB z 46) = false := by simpa using hs
    have hs9 : Hid (num z 46 2 = sumB z 46) := hs
    go_enter Try.func9, Try.ntmps9
    go_wp2_with fail
    go_region_held3 (fun w' => BA w' b off 48 z) (first | assumption | go_keep)
      (first | (go_at_call 31; refine (readNumG z b off 48 _ (by assumption) HZ.out (by decide) (by omega) (by omega)).mono ?_; rintro e w' ⟨rfl, rfl⟩; simp only [Nat.add_sub_cancel_left]) | (go_at_call 32; refine (sumS z 48 _ (by assumption) HZ.out (by decide) (by decide)).mono ?_; rintro e w' ⟨rfl, rfl⟩))
    all_goals
      clear hs hs1
      go_wp2_with fail
      refine (readPage_some z b off cap _ hcap (by show b < (w.alloc (.cells #[.int .i64 0, .int .i64 0, .int .i64 0, .slice none 0 0] 29)).heap.size; rw [World.size_alloc]; omega) HZ.out (by assumption)).mono ?_
      rintro e w1 ⟨a1, cp1, rfl, hb1, ho1⟩
      have hsz1 : w.heap.size + 1 ≤ w1.heap.size := by
        have h := hb1.size
        have h2 : (w.alloc (.cells #[.int .i64 0, .int .i64 0, .int .i64 0, .slice none 0 0] 29)).drew.heap.size = w.heap.size + 1 := by show (w.alloc (.cells #[.int .i64 0, .int .i64 0, .int .i64 0, .slice none 0 0] 29)).heap.size = _; rw [World.size_alloc]
        omega
      have hB1 : Below w.heap.size w w1 := ((below_new _ _).drew).trans (hb1.mono (by show w.heap.size ≤ (w.alloc (.cells #[.int .i64 0, .int .i64 0, .int .i64 0, .slice none 0 0] 29)).heap.size; rw [World.size_alloc]; omega))
      have hlo : w.heap.size + 1 ≤ (w.alloc (.cells #[.int .i64 0, .int .i64 0, .int .i64 0, .slice none 0 0] 29)).drew.heap.size := by show _ ≤ (w.alloc (.cells #[.int .i64 0, .int .i64 0, .int .i64 0, .slice none 0 0] 29)).heap.size; rw [World.size_alloc]; omega
      obtain ⟨hcc, hff⟩ := bcell hb1
      have r0 : w1.cell? ⟨w.heap.size, 0, none⟩ = some (.int .i64 0) := by rw [hcc _ _ hlo]; simp
      have r1 : w1.cell? ⟨w.heap.size, 1, none⟩ = some (.int .i64 0) := by rw [hcc _ _ hlo]; simp
      have r2 : w1.cell? ⟨w.heap.size, 2, none⟩ = some (.int .i64 0) := by rw [hcc _ _ hlo]; simp
      have r3 : w1.cell? ⟨w.heap.size, 3, none⟩ = some (.slice none 0 0) := by rw [hcc _ _ hlo]; simp
      have rf : ∀ i, w1.frozen? ⟨w.heap.size, i, none⟩ = false := fun i => by rw [hff _ _ hlo]; simp
      have HO1 : Hid (Own w1 (w.alloc (.cells #[.int .i64 0, .int .i64 0, .int .i64 0, .slice none 0 0] 29)).drew.heap.size w1.heap.size a1 (rpN z) (rpK z) (rpV z)) := ho1
      have HB1 : Hid (Below w.heap.size w w1) := hB1
      have hN : rpN z ≤ 12 := rpN_le z
      clear hcc hff hb1 ho1 hB1 hA hA0
      go_wp2_with fail
      refine (implPack2 (num z 0 1) (num z 1 4) (rpN z) (rpK z) (rpV z) a1 cp1 _ (by omega) (HO1.out.at.below (below_new _ _))).mono ?_
      rintro e w2 ⟨a3, cap3, rfl, hb2, ho3, hcp3⟩
      have q0 := cell_below (cell_alloc r0 (.cells #[.int .i64 (num z 0 1), .int .i64 (num z 1 4), .slice a1 (rpN z) cp1] 27)) hb2
      have q1 := cell_below (cell_alloc r1 (.cells #[.int .i64 (num z 0 1), .int .i64 (num z 1 4), .slice a1 (rpN z) cp1] 27)) hb2
      have q2 := cell_below (cell_alloc r2 (.cells #[.int .i64 (num z 0 1), .int .i64 (num z 1 4), .slice a1 (rpN z) cp1] 27)) hb2
      have q3 := cell_below (cell_alloc r3 (.cells #[.int .i64 (num z 0 1), .int .i64 (num z 1 4), .slice a1 (rpN z) cp1] 27)) hb2
      obtain ⟨hcc, hff⟩ := bcell hb2
      have qf : ∀ i, w2.frozen? ⟨w.heap.size, i, none⟩ = false := fun i => by
        rw [hff _ _ (by rw [World.size_alloc]; omega), frozen?_alloc_cells]; exact rf i
      have p0 : w2.cell? ⟨w1.heap.size, 0, none⟩ = some (.int .i64 (num z 0 1)) := by rw [hcc _ _ (by simp)]; simp
      have p1 : w2.cell? ⟨w1.heap.size, 1, none⟩ = some (.int .i64 (num z 1 4)) := by rw [hcc _ _ (by simp)]; simp
      have p2 : w2.cell? ⟨w1.heap.size, 2, none⟩ = some (.slice a1 (rpN z) cp1) := by rw [hcc _ _ (by simp)]; simp
      have HB2 : Hid (Below w.heap.size w w2) := HB1.out.trans (((below_new _ _).trans (hb2.mono (by rw [World.size_alloc]; omega))).mono (by omega))
      have HO2 : Hid (Own w2 (w.alloc (.cells #[.int .i64 0, .int .i64 0, .int .i64 0, .slice none 0 0] 29)).drew.heap.size w1.heap.size a1 (rpN z) (rpK z) (rpV z)) := (HO1.out.below (below_new _ _)).below hb2
      have hsz2 : w1.heap.size < w2.heap.size := by have h := hb2.size; rw [World.size_alloc] at h; omega
      have u0 := fun o : Obj => cell_alloc q0 o
      have u1 := fun o : Obj => cell_alloc q1 o
      have u2 := fun o : Obj => cell_alloc q2 o
      have u3 := fun o : Obj => cell_alloc q3 o
      have uf : ∀ i c t, (w2.alloc (.cells c t)).frozen? ⟨w.heap.size, i, none⟩ = false := fun i c t => by rw [frozen?_alloc_cells]; exact qf i
      have v0 := fun o : Obj => cell_alloc p0 o
      have v1 := fun o : Obj => cell_alloc p1 o
      have v2 := fun o : Obj => cell_alloc p2 o
      have hCd : BA w2 b off 48 z := HC.out.below HB2.out
      by_cases hp : againF z = 0
      · have hp' : pf (num z 0 1) (num z 1 4) (rpN z) (rpK z) (rpV z) = 0 := hp
        have HG := good_of hp'
        rw [hp'] at ho3 hcp3 ⊢
        simp only [if_true] at ho3 hcp3 ⊢
        rw [pgb_48 hN] at ho3 hcp3 ⊢
        rcases ho3.2 with h | ⟨g3, o3, rfl, h31, h32, h33, h34⟩
        · cases h
        have hE := equal_some (again z) (zL z 48) g3 o3 cap3 b off cap (w2.alloc (.cells #[.int .i64 0, .slice (some ⟨g3, o3, none⟩) 48 cap3] 32)) (fun x hx => pgb_byt _ _ _ _ _ x hx) (zL_byt HZ.out) (fun i hi => by
            have hi' : i < 48 := by rw [again, pgb_48 hN] at hi; exact hi
            exact cell_alloc (h33 i hi') _) (fun i hi => by
            rw [zL_len] at hi
            rw [zL_get _ _ _ hi]
            exact cell_alloc (hCd i hi) _)
        rw [show (again z).length = 48 from pgb_48 hN, zL_len] at hE
        have HE : Hid _ := hE
        clear hE h31 h32 h33 h34 ho3 hcc hff q0 q1 q2 q3 p0 p1 p2 hCd r0 r1 r2 r3
        by_cases hq : again z = zL z 48
        · have HU : Hid (upc z 48 = 0) := by show upc z 48 = 0; rw [upc, if_neg (by omega), if_neg (by simpa using hs9.out), if_pos ⟨hp, hq⟩]
          have hq2 : decide (again z = zL z 48) = true := by simpa using hq
          go_wp2_with fail
          refine Calls.mono HE.out ?_
          rintro e w3 ⟨rfl, rfl⟩
          rw [hq2]
          go_wp2_with fail
          refine bodyPost_ret (v := .agg #[.int .i64 0, .int .i64 (num z 0 1), .int .i64 (num z 1 4), .slice a1 (rpN z) cp1]) (by simp [results, Try.results9, go_sem, *]) rfl ?_
          refine pres_ok (wq := w2.alloc (.cells #[.int .i64 0, .slice (some ⟨g3, o3, none⟩) 48 cap3] 32)) HU.out ((HB2.out.alloc (by omega) _)) hlo (HO2.out.below (below_new _ _)) ?_ (by simp [World.setCell])
          repeat (first | exact Writes.refl _ _ _ | apply Writes.drew | refine Writes.setCell ?_ (by first | omega | (simp <;> omega)) (by first | omega | (simp <;> omega)) _)
        · have HU : Hid (upc z 48 = 5) := by show upc z 48 = 5; rw [upc, if_neg (by omega), if_neg (by simpa using hs9.out), if_neg (fun h => hq h.2)]
          have hq2 : decide (again z = zL z 48) = false := by simpa using hq
          go_wp2_with fail
          refine Calls.mono HE.out ?_
          rintro e w3 ⟨rfl, rfl⟩
          rw [hq2]
          go_wp2_with fail
          refine bodyPost_ret (v := .agg #[.int .i64 5, .int .i64 0, .int .i64 0, .slice none 0 0]) (by simp [results, Try.results9, go_sem, *]) rfl ?_
          rw [HU.out]
          refine pres_bad ?_ (by decide)
          repeat (first | exact HB2.out.alloc (by omega) _ | apply Below.drew | refine Below.setCell ?_ (by first | omega | (simp <;> omega)) _)
      · have hp' : ¬ pf (num z 0 1) (num z 1 4) (rpN z) (rpK z) (rpV z) = 0 := hp
        have hp2 : (pf (num z 0 1) (num z 1 4) (rpN z) (rpK z) (rpV z) != 0) = true := by simpa using hp'
        have HU : Hid (upc z 48 = 5) := by show upc z 48 = 5; rw [upc, if_neg (by omega), if_neg (by simpa using hs9.out), if_neg (fun h => hp h.1)]
        simp only [if_neg hp'] at ho3 hcp3 ⊢
        generalize pf (num z 0 1) (num z 1 4) (rpN z) (rpK z) (rpV z) = c at *
        clear hp hp' ho3 hcc hff q0 q1 q2 q3 p0 p1 p2 hCd r0 r1 r2 r3
        go_wp2_with fail
        refine bodyPost_ret (v := .agg #[.int .i64 5, .int .i64 0, .int .i64 0, .slice none 0 0]) (by simp [results, Try.results9, go_sem, *]) rfl ?_
        rw [HU.out]
        refine pres_bad ?_ (by decide)
        repeat (first | exact HB2.out.alloc (by omega) _ | apply Below.drew | refine Below.setCell ?_ (by first | omega | (simp <;> omega)) _)
  · have hs1 : (num z 46 2 != sumB z 46) = true := by simpa using hs
    have HU : Hid (upc z 48 = 6) := by show upc z 48 = 6; rw [upc, if_neg (by omega), if_pos hs]
    clear hs
    go_enter Try.func9, Try.ntmps9
    go_wp2_with fail
    go_region_held3 (fun w' => BA w' b off 48 z) (first | assumption | go_keep)
      (first | (go_at_call 31; refine (readNumG z b off 48 _ (by assumption) HZ.out (by decide) (by omega) (by omega)).mono ?_; rintro e w' ⟨rfl, rfl⟩; simp only [Nat.add_sub_cancel_left]) | (go_at_call 32; refine (sumS z 48 _ (by assumption) HZ.out (by decide) (by decide)).mono ?_; rintro e w' ⟨rfl, rfl⟩))
    all_goals
      go_wp2_with fail
      refine bodyPost_ret (v := .agg #[.int .i64 6, .int .i64 0, .int .i64 0, .slice none 0 0]) (by simp [results, Try.results9, go_sem]) rfl ?_
      rw [HU.out]
      refine pres_bad ?_ (by decide)
      repeat (first | exact (below_new _ _).drew | exact below_new _ _ | apply Below.drew | refine Below.setCell ?_ (by first | omega | (simp <;> omega)) _)
end Go.Proofs.Ytnhkjdcbaphfcaa
