/- A log: all its bytes, its fault, its records. -/
import Derived.Test.YtjggplfhkejbbaaQJa
import Derived.Test.YtjggplfhkejbbaaQUw
namespace Go.Proofs.Ytjggplfhkejbbaa
open Go.RowKit Go.Deep
set_option linter.unusedVariables false
set_option maxRecDepth 20000

/-- What a log holds: sure bytes and loose ones. -/
structure Lo where
  n1 : Nat
  z1 : Nat → Int
  n2 : Nat
  z2 : Nat → Int
def LogAt (w : World) (a1 a2 : Option Addr) (L : Lo) : Prop := BytesAt w a1 L.n1 L.z1 ∧ BytesAt w a2 L.n2 L.z2
theorem LogAt.below {w w' : World} {a1 a2 : Option Addr} {L : Lo} (h : LogAt w a1 a2 L) (hb : Below w.heap.size w w') : LogAt w' a1 a2 L := ⟨h.1.below hb, h.2.below hb⟩
/-- All its bytes. -/
def aL (L : Lo) : List Int := zL L.z1 L.n1 ++ zL L.z2 L.n2
def aZ (L : Lo) (i : Nat) : Int := zOf (aL L) i
theorem aL_len (L : Lo) : (aL L).length = L.n1 + L.n2 := by simp [aL, zL_len]
structure LogByt (L : Lo) : Prop where
  p : Byt L.n1 L.z1
  q : Byt L.n2 L.z2
theorem aZ_byt {L : Lo} (h : LogByt L) : Byt (L.n1 + L.n2) (aZ L) := fun i hi => by
  have hm : (aL L).getD i 0 ∈ aL L := by
    have hl : i < (aL L).length := by rw [aL_len]; exact hi
    rw [List.getD_eq_getElem?_getD, List.getElem?_eq_getElem hl]
    exact List.getElem_mem hl
  have hb : ∀ x ∈ aL L, 0 ≤ x ∧ x ≤ 255 := fun x hx => by
    rcases List.mem_append.1 hx with h1 | h1
    · exact zL_byt h.p x h1
    · exact zL_byt h.q x h1
  exact hb _ hm
/-- The fault of a log. -/
def lgC (L : Lo) : Int := if 4000 < L.n1 + L.n2 then 2 else if 13 * cnt (aZ L) (L.n1 + L.n2) = L.n1 + L.n2 then 0 else 5
def two' {α : Type} (x y : α) (i : Nat) : α := if i = 0 then x else y
theorem jn_two (L : Lo) : jn (two' L.n1 L.n2) (two' L.z1 L.z2) 2 = aL L := by simp [jn, two', aL]
/-- All the bytes, in a row of one's own. -/
def AllAt (w : World) (base : Nat) (v : Value) (L : Lo) : Prop := ∃ ra rc, v = .slice ra (L.n1 + L.n2) rc ∧ L.n1 + L.n2 ≤ rc ∧ w.ownsRow base 5 1 (.slice ra (L.n1 + L.n2) rc) (aL L).length (bl (aL L)) ∧ (L.n1 + L.n2 = 0 ∨ ∃ g, ra = some ⟨g, 0, none⟩ ∧ base ≤ g ∧ g < w.heap.size ∧ BA w g 0 (L.n1 + L.n2) (aZ L))
theorem allAt_of {w : World} {base : Nat} {v : Value} {L : Lo} (h : w.ownsRow base 5 1 v (aL L).length (bl (aL L))) : AllAt w base v L := by
  have hl := aL_len L
  rw [hl] at h
  rcases h.2 with ⟨rfl, h0⟩ | ⟨g, cap, cur, rfl, hbg, hg, hnc, _⟩
  · exact ⟨none, 0, by rw [h0], by omega, by rw [hl]; rw [h0] at h ⊢; exact h, .inl h0⟩
  · have hlt : g < w.heap.size := by obtain ⟨hlt, _⟩ := Array.getElem?_eq_some_iff.1 hg; exact hlt
    refine ⟨_, cap, rfl, hnc, by rw [hl]; exact h, .inr ⟨g, rfl, hbg, hlt, fun i hi => ?_⟩⟩
    have := h.cellAt i (by omega)
    rw [Nat.zero_add, this]
    simp [bl, hl, hi, aZ, zOf]
theorem AllAt.cond {w : World} {base : Nat} {ra : Option Addr} {rc : Nat} {L : Lo} (h : L.n1 + L.n2 = 0 ∨ ∃ g, ra = some ⟨g, 0, none⟩ ∧ base ≤ g ∧ g < w.heap.size ∧ BA w g 0 (L.n1 + L.n2) (aZ L)) :
    ∃ b, L.n1 + L.n2 = 0 ∨ ra = some ⟨b, 0, none⟩ ∧ b < w.heap.size ∧ BA w b 0 (L.n1 + L.n2) (aZ L) := by
  rcases h with h | ⟨g, h1, h2, h3, h4⟩
  · exact ⟨0, .inl h⟩
  · exact ⟨g, .inr ⟨h1, h3, h4⟩⟩
theorem cell_two_new4 (w : World) (x y : Value) (t : TypeId) : ∀ i, i < 2 → (w.alloc (.cells #[x, y] t)).cell? ⟨w.heap.size, 0 + i, none⟩ = some (two' x y i) := fun i hi => by
  rcases (by omega : i = 0 ∨ i = 1) with rfl | rfl
  · simp [two']
  · simp [two']
/-- joined of the two pieces of a log, which stand in a block of their own. -/
theorem joined_two (L : Lo) (a1 a2 : Option Addr) (c1 c2 g : Nat) (w : World) (hg : w.heap.size = g) (hs : L.n1 + L.n2 ≤ 90000) (h : LogAt w a1 a2 L) :
    Calls Try.prog 95 #[.slice (some ⟨g, 0, none⟩) 2 2] (w.alloc (.cells #[.slice a1 L.n1 c1, .slice a2 L.n2 c2] 27)) fun e w' => ∃ v, e = .returned v ∧ Below w.heap.size w w' ∧ AllAt w' w.heap.size v L := by
  subst hg
  have hb := below_new w (.cells #[.slice a1 L.n1 c1, .slice a2 L.n2 c2] 27)
  refine (joined_any 2 (two' a1 a2) (two' L.n1 L.n2) (two' c1 c2) (two' L.z1 L.z2) w.heap.size 0 2 _ (by simp [sumL, two']; omega) (by rw [World.size_alloc]; omega) (fun i hi => ⟨?_, ?_⟩) (by omega)).mono ?_
  · rw [cell_two_new4 w _ _ _ i hi]
    rcases (by omega : i = 0 ∨ i = 1) with rfl | rfl <;> rfl
  · rcases (by omega : i = 0 ∨ i = 1) with rfl | rfl
    · exact h.1.below hb
    · exact h.2.below hb
  · rintro e w' ⟨v, rfl, hb1, ho⟩
    rw [jn_two] at ho
    refine ⟨v, rfl, below_then hb hb1, allAt_of ?_⟩
    rw [World.size_alloc] at ho
    exact rowB_down ho (by omega)
/-- An answer that is a log's records, or its fault. -/
def RlR (L : Lo) (w : World) (e : Ending) (w' : World) : Prop :=
  ∃ a cap u m, e = .returned (.agg #[.int .i64 (lgC L), .int .i64 u, .slice a m cap]) ∧ Hid (m = (if lgC L = 0 then cnt (aZ L) (L.n1 + L.n2) else 0) ∧ u = 13 * (m : Int)) ∧ Below w.heap.size w w' ∧ Own8 w' w.heap.size w'.heap.size a m (zRs (aZ L))
theorem lgC_many {L : Lo} (h : 4000 < L.n1 + L.n2) : lgC L = 2 := by rw [lgC, if_pos h]
theorem lgC_ok {L : Lo} (h : ¬ 4000 < L.n1 + L.n2) (h2 : 13 * cnt (aZ L) (L.n1 + L.n2) = L.n1 + L.n2) : lgC L = 0 := by rw [lgC, if_neg h, if_pos h2]
theorem lgC_text {L : Lo} (h : ¬ 4000 < L.n1 + L.n2) (h2 : ¬ 13 * cnt (aZ L) (L.n1 + L.n2) = L.n1 + L.n2) : lgC L = 5 := by rw [lgC, if_neg h, if_neg h2]
set_option maxHeartbeats 4000000 in
theorem readLog_any (L : Lo) (a1 a2 : Option Addr) (c1 c2 : Nat) (w : World) (hn1 : L.n1 ≤ 1048576) (hn2 : L.n2 ≤ 1048576) (hby : LogByt L) (h : LogAt w a1 a2 L) :
    Calls Try.prog 61 #[.agg #[.slice a1 L.n1 c1, .slice a2 L.n2 c2]] w (RlR L w) := by
  have hb0 : ∀ o1 o2, Below w.heap.size w ((w.alloc o1).alloc o2) := fun o1 o2 => ((Below.refl _ _).alloc (Nat.le_refl _) _).alloc (by simp) _
  have HA : Hid (∀ o1 o2, LogAt ((w.alloc o1).alloc o2) a1 a2 L) := fun o1 o2 => h.below (hb0 o1 o2)
  have HY : Hid (LogByt L) := hby
  have hwr : IntKind.i64.wrap ((L.n1 : Int) + (L.n2 : Int)) = (L.n1 : Int) + (L.n2 : Int) := by rw [IntKind.wrap_i64]; omega
  clear h hby
  by_cases hm : 4000 < L.n1 + L.n2
  · have hm' : 4000 < (L.n1 : Int) + (L.n2 : Int) := by omega
    have HC : Hid (lgC L = 2) := lgC_many hm
    go_enter Try.func61, Try.ntmps61
    go_wp2_with fail
    refine bodyPost_ret (v := .agg #[.int .i64 2, .int .i64 0, .slice none 0 0]) (by simp [results, Try.results61, go_sem]) rfl ?_
    refine ⟨none, 0, 0, 0, by rw [HC.out], by rw [HC.out]; exact ⟨rfl, rfl⟩, ?_, ?_, .inl rfl⟩
    · repeat (first | exact hb0 _ _ | refine Below.setCell ?_ (by first | omega | (simp <;> omega)) _)
    · exact Nat.le_refl _
  · have hm' : ¬ (4000 < (L.n1 : Int) + (L.n2 : Int)) := by omega
    go_enter Try.func61, Try.ntmps61
    go_wp2_with fail
    refine (joined_two L a1 a2 c1 c2 _ _ ?_ (by omega) (HA.out _ _)).mono ?_
    · simp
    rintro e w1 ⟨v1, rfl, hb1, hall⟩
    obtain ⟨ra, rc, rfl, hrc, ho1, hcond⟩ := hall
    obtain ⟨b, hcd⟩ := AllAt.cond (rc := rc) hcond
    have hz1 : w.heap.size + 2 ≤ w1.heap.size := by have := hb1.size; simp at this; omega
    obtain ⟨hcc, hff⟩ := bcell hb1
    have r0 : w1.cell? ⟨w.heap.size + 1, 0, none⟩ = some (.int .i64 0) := by rw [hcc _ _ (by simp <;> omega)]; simp [go_sem]
    have r1 : w1.cell? ⟨w.heap.size + 1, 1, none⟩ = some (.int .i64 0) := by rw [hcc _ _ (by simp <;> omega)]; simp [go_sem]
    have r2 : w1.cell? ⟨w.heap.size + 1, 2, none⟩ = some (.slice none 0 0) := by rw [hcc _ _ (by simp <;> omega)]; simp [go_sem]
    have fz : ∀ i, w1.frozen? ⟨w.heap.size + 1, i, none⟩ = false := fun i => by rw [hff _ _ (by simp <;> omega)]; simp [go_sem]
    have HB1 : Hid (Below w.heap.size w w1) := below_then (hb0 _ _) hb1
    have HCD : Hid (L.n1 + L.n2 = 0 ∨ ra = some ⟨b, 0, none⟩ ∧ b < w1.heap.size ∧ BA w1 b 0 (L.n1 + L.n2) (aZ L)) := hcd
    clear hcc hff hb1 hb0 ho1 hcond hcd
    go_wp2_with fail
    refine (implUr_any (L.n1 + L.n2) (aZ L) ra b 0 rc w1 hrc (by omega) (aZ_byt HY.out) HCD.out).mono ?_
    rintro e w2 ⟨rb, rcp, rfl, hb2, ho2⟩
    have s0 := cell_below r0 hb2
    have s1 := cell_below r1 hb2
    have s2 := cell_below r2 hb2
    have sf : ∀ i, w2.frozen? ⟨w.heap.size + 1, i, none⟩ = false := fun i => (hb2.frozen (p := ⟨w.heap.size + 1, i, none⟩) (by show w.heap.size + 1 < _; omega)).trans (fz i)
    have t0 := fun o : Obj => cell_alloc s0 o
    have t1 := fun o : Obj => cell_alloc s1 o
    have t2 := fun o : Obj => cell_alloc s2 o
    have tf : ∀ i c t, (w2.alloc (.cells c t)).frozen? ⟨w.heap.size + 1, i, none⟩ = false := fun i c t => by rw [frozen?_alloc_cells]; exact sf i
    have HB2 : Hid (Below w.heap.size w w2) := below_then HB1.out hb2
    have HO2 : Hid (Own8 w2 (w1.heap.size + 1) w2.heap.size rb (cnt (aZ L) (L.n1 + L.n2)) (zRs (aZ L))) := own8_of_row ho2
    have hcl := cnt_le (aZ L) (L.n1 + L.n2)
    by_cases hc : 13 * cnt (aZ L) (L.n1 + L.n2) = L.n1 + L.n2
    · have HC : Hid (lgC L = 0) := lgC_ok hm hc
      have hd : (13 * (cnt (aZ L) (L.n1 + L.n2) : Int) != ((L.n1 + L.n2 : Nat) : Int)) = false := by simp; omega
      generalize hcn : cnt (aZ L) (L.n1 + L.n2) = m at *
      have HM : Hid (cnt (aZ L) (L.n1 + L.n2) = m) := hcn
      clear hcn hc hcl hb2 ho2 s0 s1 s2 sf r0 r1 r2 fz
      go_wp2_with fail
      refine bodyPost_ret (v := .agg #[.int .i64 0, .int .i64 (13 * (m : Int)), .slice rb m rcp]) (by simp [results, Try.results61, go_sem, *]) rfl ?_
      have hw : ∀ w7, Writes (w.heap.size + 1) (w.heap.size + 2) (w2.alloc (.cells #[.int .i64 0, .int .i64 (13 * (m : Int)), .slice rb m rcp] 104)) w7 → w7.heap.size = (w2.alloc (.cells #[.int .i64 0, .int .i64 (13 * (m : Int)), .slice rb m rcp] 104)).heap.size → RlR L w (.returned (.agg #[.int .i64 0, .int .i64 (13 * (m : Int)), .slice rb m rcp])) w7 := fun w7 h7 e7 => by
        refine ⟨rb, rcp, 13 * (m : Int), m, by rw [HC.out], ⟨by rw [if_pos HC.out, HM.out], rfl⟩, Writes.below (HB2.out.alloc HB2.out.size _) h7 (by omega), ?_⟩
        rw [e7]
        have hz2 := HB2.out.size
        exact ((HO2.out.below (below_new _ _)).writes h7 (.inr (by omega))).wide (by omega) (by rw [World.size_alloc]; omega) (by have := h7.size; omega)
      refine hw _ ?_ (by simp [World.setCell])
      repeat (first | exact Writes.refl _ _ _ | apply Writes.drew | refine Writes.setCell ?_ (by first | omega | (simp <;> omega)) (by first | omega | (simp <;> omega)) _)
    · have HC : Hid (lgC L = 5) := lgC_text hm hc
      have hd : (13 * (cnt (aZ L) (L.n1 + L.n2) : Int) != ((L.n1 + L.n2 : Nat) : Int)) = true := by simp; omega
      generalize hcn : cnt (aZ L) (L.n1 + L.n2) = m at *
      clear hcn hc hcl hb2 ho2 s0 s1 s2 sf r0 r1 r2 fz
      go_wp2_with fail
      refine bodyPost_ret (v := .agg #[.int .i64 5, .int .i64 0, .slice none 0 0]) (by simp [results, Try.results61, go_sem, *]) rfl ?_
      refine ⟨none, 0, 0, 0, by rw [HC.out], by rw [HC.out]; exact ⟨rfl, rfl⟩, ?_, ?_, .inl rfl⟩
      · repeat (first | exact HB2.out.alloc HB2.out.size _ | refine Below.setCell ?_ (by first | omega | (simp <;> omega)) _)
      · exact Nat.le_refl _
end Go.Proofs.Ytjggplfhkejbbaa
