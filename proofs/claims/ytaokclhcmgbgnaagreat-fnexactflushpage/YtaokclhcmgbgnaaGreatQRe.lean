/- Logs in the laws: how great, copied, equal, marked; an argument of type laws.Log, opened. -/
import Derived.Test.YtaokclhcmgbgnaaGreatQPr2
import Derived.Deep.RegionLaw
import Derived.Test.YtaokclhcmgbgnaaGreatQUv
import Derived.Test.YtaokclhcmgbgnaaGreatQJa
import Derived.Test.YtaokclhcmgbgnaaGreatQBase
import Derived.Lib.SmallJoins
import Derived.Test.YtaokclhcmgbgnaaGreatQCq
namespace Go.Proofs.YtaokclhcmgbgnaaGreat
open Go.RowKit Go.Deep
set_option linter.unusedVariables false
set_option maxRecDepth 20000
open Go.ChangeShapes Go.WideShapes Go.ChangeAt Go.RowKit Go.Deep Go.Joins

/-- A record's eight fields. -/
structure Rc where
  k : Int
  t : Int
  key : Int
  hd : Bool
  old : Int
  hs : Bool
  nw : Int
  bk : Int
/-- Its cells. -/
def C8 (w : World) (b o : Nat) (r : Rc) : Prop :=
  w.cell? ⟨b, o, none⟩ = some (.int .i64 r.k) ∧ w.cell? ⟨b, o + 1, none⟩ = some (.int .i64 r.t) ∧ w.cell? ⟨b, o + 2, none⟩ = some (.int .i64 r.key) ∧ w.cell? ⟨b, o + 3, none⟩ = some (.bool r.hd) ∧
  w.cell? ⟨b, o + 4, none⟩ = some (.int .i64 r.old) ∧ w.cell? ⟨b, o + 5, none⟩ = some (.bool r.hs) ∧ w.cell? ⟨b, o + 6, none⟩ = some (.int .i64 r.nw) ∧ w.cell? ⟨b, o + 7, none⟩ = some (.int .i64 r.bk)
theorem C8.block {w w' : World} {b o : Nat} {r : Rc} (h : C8 w b o r) (e : w'.heap[b]? = w.heap[b]?) : C8 w' b o r := by
  have g : ∀ i, w'.cell? ⟨b, i, none⟩ = w.cell? ⟨b, i, none⟩ := fun i => World.cell?_of_block (w := w) (a := ⟨b, i, none⟩) e
  obtain ⟨h0, h1, h2, h3, h4, h5, h6, h7⟩ := h
  exact ⟨(g _).trans h0, (g _).trans h1, (g _).trans h2, (g _).trans h3, (g _).trans h4, (g _).trans h5, (g _).trans h6, (g _).trans h7⟩
def RecsAt (w : World) (a : Option Addr) (n : Nat) (R : Nat → Rc) : Prop := n = 0 ∨ ∃ b off, a = some ⟨b, off, none⟩ ∧ b < w.heap.size ∧ ∀ i, i < n → C8 w b (off + i * 8) (R i)
def Row8 (w : World) (b off n : Nat) (R : Nat → Rc) : Prop := (∀ i, i < n → C8 w b (off + i * 8) (R i)) ∧ ∀ i, w.frozen? ⟨b, i, none⟩ = false
def Own8 (w : World) (lo hi : Nat) (a : Option Addr) (n : Nat) (R : Nat → Rc) : Prop := hi ≤ w.heap.size ∧ (n = 0 ∨ ∃ b off, a = some ⟨b, off, none⟩ ∧ lo ≤ b ∧ b < hi ∧ Row8 w b off n R)
theorem Own8.at {w : World} {lo hi : Nat} {a : Option Addr} {n : Nat} {R : Nat → Rc} (h : Own8 w lo hi a n R) : RecsAt w a n R := by
  obtain ⟨h0, h1 | ⟨b, off, ha, _, hl, hc⟩⟩ := h
  · exact .inl h1
  · exact .inr ⟨b, off, ha, by omega, hc.1⟩
theorem Own8.writes {w w' : World} {lo hi lo' hi' : Nat} {a : Option Addr} {n : Nat} {R : Nat → Rc} (h : Own8 w lo hi a n R) (hw : Writes lo' hi' w w') (hd : hi ≤ lo' ∨ hi' ≤ lo) : Own8 w' lo hi a n R := by
  obtain ⟨h0, h1 | ⟨b, off, ha, h2, hl, hc⟩⟩ := h
  · exact ⟨Nat.le_trans h0 hw.size, .inl h1⟩
  · have hb := hw.block b (by omega) (by omega)
    exact ⟨Nat.le_trans h0 hw.size, .inr ⟨b, off, ha, h2, hl, fun i hi => (hc.1 i hi).block hb, fun i => (World.frozen?_of_block (w := w) (a := ⟨b, i, none⟩) hb).trans (hc.2 i)⟩⟩
theorem Own8.below {w w' : World} {lo hi : Nat} {a : Option Addr} {n : Nat} {R : Nat → Rc} (h : Own8 w lo hi a n R) (hb : Below w.heap.size w w') : Own8 w' lo hi a n R :=
  h.writes (Writes.of_below (lo := hi) (hi := hi) hb) (.inl (Nat.le_refl _))
theorem Own8.wide {w : World} {lo hi lo' hi' : Nat} {a : Option Addr} {n : Nat} {R : Nat → Rc} (h : Own8 w lo hi a n R) (h1 : lo' ≤ lo) (h2 : hi ≤ hi') (h3 : hi' ≤ w.heap.size) : Own8 w lo' hi' a n R := by
  obtain ⟨h0, h4 | ⟨b, off, ha, h5, hl, r⟩⟩ := h
  · exact ⟨h3, .inl h4⟩
  · exact ⟨h3, .inr ⟨b, off, ha, by omega, by omega, r⟩⟩
/-! ### equal -/
/-! ### marked -/
/-! ### held -/
/-! ### answers that are records -/
/-! ### the records that bytes tell -/
def zR (z : Nat → Int) : Rc := ⟨num z 0 1, num z 1 2, num z 3 1, hdB z, num z 5 2, hsB z, num z 7 2, num z 9 2⟩
theorem rvs_len (z : Nat → Int) : ∀ k, (rvs z k).length = 8 * k
  | 0 => rfl
  | k + 1 => by simp only [rvs, List.length_append, rvs_len z k]; simp [rvl]; omega
theorem rvs_get (z : Nat → Int) : ∀ k i j, i < k → j < 8 → (rvs z k)[8 * i + j]? = (rvl (sh z (13 * i)))[j]?
  | 0, i, j, h, _ => by omega
  | k + 1, i, j, h, hj => by
    simp only [rvs]
    by_cases e : i = k
    · subst e
      rw [List.getElem?_append_right (by rw [rvs_len]; omega), rvs_len]
      congr 1; omega
    · rw [List.getElem?_append_left (by rw [rvs_len]; omega)]
      exact rvs_get z k i j (by omega) hj
theorem own8_of_row {w : World} {base n : Nat} {a : Option Addr} {cap : Nat} {z : Nat → Int} (h : w.ownsRow base 105 8 (.slice a n cap) n (rvs z n)) : Own8 w base w.heap.size a n (fun i => zR (sh z (13 * i))) := by
  rcases h.2 with ⟨e, h0⟩ | ⟨g, cap', cur, e, hbg, hg, _⟩
  · exact ⟨Nat.le_refl _, .inl h0⟩
  · simp only [Value.slice.injEq, true_and] at e
    obtain ⟨rfl, rfl⟩ := e
    have hlt : g < w.heap.size := by
      obtain ⟨hlt, _⟩ := Array.getElem?_eq_some_iff.1 hg
      exact hlt
    refine ⟨Nat.le_refl _, .inr ⟨g, 0, rfl, hbg, hlt, fun i hi => ?_, fun i => h.frozenAt _⟩⟩
    have c : ∀ j v, j < 8 → (rvl (sh z (13 * i)))[j]? = some v → w.cell? ⟨g, 0 + i * 8 + j, none⟩ = some v := fun j v hj hv => by
      rw [h.cellAt (0 + i * 8 + j) (by omega), show 0 + i * 8 + j = 8 * i + j by omega, rvs_get z n i j hi hj, hv]
    exact ⟨c 0 _ (by omega) rfl, c 1 _ (by omega) rfl, c 2 _ (by omega) rfl, c 3 _ (by omega) rfl, c 4 _ (by omega) rfl, c 5 _ (by omega) rfl, c 6 _ (by omega) rfl, c 7 _ (by omega) rfl⟩
/-- The records that stand in bytes, as fields. -/
def zRs (z : Nat → Int) (i : Nat) : Rc := zR (sh z (13 * i))
theorem rcn_le (z : Nat → Int) (n : Nat) : ∀ f k, 13 * k ≤ n → 13 * rcn z n f k ≤ n
  | 0, k, h => h
  | f + 1, k, h => by
    unfold rcn
    split
    · rename_i hh; exact rcn_le z n f (k + 1) hh.1
    · exact h
theorem cnt_le (z : Nat → Int) (n : Nat) : 13 * cnt z n ≤ n := rcn_le z n n 0 (by omega)
/-- What a log holds: sure bytes and loose ones. -/
structure Lo where
  n1 : Nat
  z1 : Nat → Int
  n2 : Nat
  z2 : Nat → Int
def LogAt (w : World) (a1 a2 : Option Addr) (L : Lo) : Prop := BytesAt w a1 L.n1 L.z1 ∧ BytesAt w a2 L.n2 L.z2
theorem LogAt.below {w w' : World} {a1 a2 : Option Addr} {L : Lo} (h : LogAt w a1 a2 L) (hb : Below w.heap.size w w') : LogAt w' a1 a2 L := ⟨h.1.below hb, h.2.below hb⟩
/-- All its bytes. -/
def aL (L : Lo) : List Int := zL L.z1 L.n1 ++ zL L.z2 L.n2
def aZ (L : Lo) (i : Nat) : Int := zOf (aL L) i
theorem aL_len (L : Lo) : (aL L).length = L.n1 + L.n2 := by simp [aL, zL_len]
structure LogByt (L : Lo) : Prop where
  p : Byt L.n1 L.z1
  q : Byt L.n2 L.z2
theorem aZ_byt {L : Lo} (h : LogByt L) : Byt (L.n1 + L.n2) (aZ L) := fun i hi => by
  have hm : (aL L).getD i 0 ∈ aL L := by
    have hl : i < (aL L).length := by rw [aL_len]; exact hi
    rw [List.getD_eq_getElem?_getD, List.getElem?_eq_getElem hl]
    exact List.getElem_mem hl
  have hb : ∀ x ∈ aL L, 0 ≤ x ∧ x ≤ 255 := fun x hx => by
    rcases List.mem_append.1 hx with h1 | h1
    · exact zL_byt h.p x h1
    · exact zL_byt h.q x h1
  exact hb _ hm
/-- The fault of a log. -/
def lgC (L : Lo) : Int := if 4000 < L.n1 + L.n2 then 2 else if 13 * cnt (aZ L) (L.n1 + L.n2) = L.n1 + L.n2 then 0 else 5
def two' {α : Type} (x y : α) (i : Nat) : α := if i = 0 then x else y
theorem jn_two (L : Lo) : jn (two' L.n1 L.n2) (two' L.z1 L.z2) 2 = aL L := by simp [jn, two', aL]
/-- All the bytes, in a row of one's own. -/
def AllAt (w : World) (base : Nat) (v : Value) (L : Lo) : Prop := ∃ ra rc, v = .slice ra (L.n1 + L.n2) rc ∧ L.n1 + L.n2 ≤ rc ∧ w.ownsRow base 5 1 (.slice ra (L.n1 + L.n2) rc) (aL L).length (bl (aL L)) ∧ (L.n1 + L.n2 = 0 ∨ ∃ g, ra = some ⟨g, 0, none⟩ ∧ base ≤ g ∧ g < w.heap.size ∧ BA w g 0 (L.n1 + L.n2) (aZ L))
theorem allAt_of {w : World} {base : Nat} {v : Value} {L : Lo} (h : w.ownsRow base 5 1 v (aL L).length (bl (aL L))) : AllAt w base v L := by
  have hl := aL_len L
  rw [hl] at h
  rcases h.2 with ⟨rfl, h0⟩ | ⟨g, cap, cur, rfl, hbg, hg, hnc, _⟩
  · exact ⟨none, 0, by rw [h0], by omega, by rw [hl]; rw [h0] at h ⊢; exact h, .inl h0⟩
  · have hlt : g < w.heap.size := by obtain ⟨hlt, _⟩ := Array.getElem?_eq_some_iff.1 hg; exact hlt
    refine ⟨_, cap, rfl, hnc, by rw [hl]; exact h, .inr ⟨g, rfl, hbg, hlt, fun i hi => ?_⟩⟩
    have := h.cellAt i (by omega)
    rw [Nat.zero_add, this]
    simp [bl, hl, hi, aZ, zOf]
theorem AllAt.cond {w : World} {base : Nat} {ra : Option Addr} {rc : Nat} {L : Lo} (h : L.n1 + L.n2 = 0 ∨ ∃ g, ra = some ⟨g, 0, none⟩ ∧ base ≤ g ∧ g < w.heap.size ∧ BA w g 0 (L.n1 + L.n2) (aZ L)) :
    ∃ b, L.n1 + L.n2 = 0 ∨ ra = some ⟨b, 0, none⟩ ∧ b < w.heap.size ∧ BA w b 0 (L.n1 + L.n2) (aZ L) := by
  rcases h with h | ⟨g, h1, h2, h3, h4⟩
  · exact ⟨0, .inl h⟩
  · exact ⟨g, .inr ⟨h1, h3, h4⟩⟩
theorem cell_two_new4 (w : World) (x y : Value) (t : TypeId) : ∀ i, i < 2 → (w.alloc (.cells #[x, y] t)).cell? ⟨w.heap.size, 0 + i, none⟩ = some (two' x y i) := fun i hi => by
  rcases (by omega : i = 0 ∨ i = 1) with rfl | rfl
  · simp [two']
  · simp [two']
/-- joined of the two pieces of a log, which stand in a block of their own. -/
theorem joined_two (L : Lo) (a1 a2 : Option Addr) (c1 c2 g : Nat) (w : World) (hg : w.heap.size = g) (hs : L.n1 + L.n2 ≤ 90000) (h : LogAt w a1 a2 L) :
    Calls Tryz.prog 162 #[.slice (some ⟨g, 0, none⟩) 2 2] (w.alloc (.cells #[.slice a1 L.n1 c1, .slice a2 L.n2 c2] 27)) fun e w' => ∃ v, e = .returned v ∧ Below w.heap.size w w' ∧ AllAt w' w.heap.size v L := by
  subst hg
  have hb := below_new w (.cells #[.slice a1 L.n1 c1, .slice a2 L.n2 c2] 27)
  refine (joined_any 2 (two' a1 a2) (two' L.n1 L.n2) (two' c1 c2) (two' L.z1 L.z2) w.heap.size 0 2 _ (by simp [sumL, two']; omega) (by rw [World.size_alloc]; omega) (fun i hi => ⟨?_, ?_⟩) (by omega)).mono ?_
  · rw [cell_two_new4 w _ _ _ i hi]
    rcases (by omega : i = 0 ∨ i = 1) with rfl | rfl <;> rfl
  · rcases (by omega : i = 0 ∨ i = 1) with rfl | rfl
    · exact h.1.below hb
    · exact h.2.below hb
  · rintro e w' ⟨v, rfl, hb1, ho⟩
    rw [jn_two] at ho
    refine ⟨v, rfl, below_then hb hb1, allAt_of ?_⟩
    rw [World.size_alloc] at ho
    exact rowB_down ho (by omega)
/-- An answer that is a log's records, or its fault. -/
def RlR (L : Lo) (w : World) (e : Ending) (w' : World) : Prop :=
  ∃ a cap u m, e = .returned (.agg #[.int .i64 (lgC L), .int .i64 u, .slice a m cap]) ∧ Hid (m = (if lgC L = 0 then cnt (aZ L) (L.n1 + L.n2) else 0) ∧ u = 13 * (m : Int)) ∧ Below w.heap.size w w' ∧ Own8 w' w.heap.size w'.heap.size a m (zRs (aZ L))
theorem lgC_many {L : Lo} (h : 4000 < L.n1 + L.n2) : lgC L = 2 := by rw [lgC, if_pos h]
theorem lgC_ok {L : Lo} (h : ¬ 4000 < L.n1 + L.n2) (h2 : 13 * cnt (aZ L) (L.n1 + L.n2) = L.n1 + L.n2) : lgC L = 0 := by rw [lgC, if_neg h, if_pos h2]
theorem lgC_text {L : Lo} (h : ¬ 4000 < L.n1 + L.n2) (h2 : ¬ 13 * cnt (aZ L) (L.n1 + L.n2) = L.n1 + L.n2) : lgC L = 5 := by rw [lgC, if_neg h, if_neg h2]
set_option maxHeartbeats 4000000 in
theorem readLog_any (L : Lo) (a1 a2 : Option Addr) (c1 c2 : Nat) (w : World) (hn1 : L.n1 ≤ 1048576) (hn2 : L.n2 ≤ 1048576) (hby : LogByt L) (h : LogAt w a1 a2 L) :
    Calls Tryz.prog 160 #[.agg #[.slice a1 L.n1 c1, .slice a2 L.n2 c2]] w (RlR L w) := by
  have hb0 : ∀ o1 o2, Below w.heap.size w ((w.alloc o1).alloc o2) := fun o1 o2 => ((Below.refl _ _).alloc (Nat.le_refl _) _).alloc (by simp) _
  have HA : Hid (∀ o1 o2, LogAt ((w.alloc o1).alloc o2) a1 a2 L) := fun o1 o2 => h.below (hb0 o1 o2)
  have HY : Hid (LogByt L) := hby
  have hwr : IntKind.i64.wrap ((L.n1 : Int) + (L.n2 : Int)) = (L.n1 : Int) + (L.n2 : Int) := by rw [IntKind.wrap_i64]; omega
  clear h hby
  by_cases hm : 4000 < L.n1 + L.n2
  · have hm' : 4000 < (L.n1 : Int) + (L.n2 : Int) := by omega
    have HC : Hid (lgC L = 2) := lgC_many hm
    go_enter Tryz.func160, Tryz.ntmps160
    go_wp2_with fail
    refine bodyPost_ret (v := .agg #[.int .i64 2, .int .i64 0, .slice none 0 0]) (by simp [results, Tryz.results160, go_sem]) rfl ?_
    refine ⟨none, 0, 0, 0, by rw [HC.out], by rw [HC.out]; exact ⟨rfl, rfl⟩, ?_, ?_, .inl rfl⟩
    · repeat (first | exact hb0 _ _ | refine Below.setCell ?_ (by first | omega | (simp <;> omega)) _)
    · exact Nat.le_refl _
  · have hm' : ¬ (4000 < (L.n1 : Int) + (L.n2 : Int)) := by omega
    go_enter Tryz.func160, Tryz.ntmps160
    go_wp2_with fail
    refine (joined_two L a1 a2 c1 c2 _ _ ?_ (by omega) (HA.out _ _)).mono ?_
    · simp
    rintro e w1 ⟨v1, rfl, hb1, hall⟩
    obtain ⟨ra, rc, rfl, hrc, ho1, hcond⟩ := hall
    obtain ⟨b, hcd⟩ := AllAt.cond (rc := rc) hcond
    have hz1 : w.heap.size + 2 ≤ w1.heap.size := by have := hb1.size; simp at this; omega
    obtain ⟨hcc, hff⟩ := bcell hb1
    have r0 : w1.cell? ⟨w.heap.size + 1, 0, none⟩ = some (.int .i64 0) := by rw [hcc _ _ (by simp <;> omega)]; simp [go_sem]
    have r1 : w1.cell? ⟨w.heap.size + 1, 1, none⟩ = some (.int .i64 0) := by rw [hcc _ _ (by simp <;> omega)]; simp [go_sem]
    have r2 : w1.cell? ⟨w.heap.size + 1, 2, none⟩ = some (.slice none 0 0) := by rw [hcc _ _ (by simp <;> omega)]; simp [go_sem]
    have fz : ∀ i, w1.frozen? ⟨w.heap.size + 1, i, none⟩ = false := fun i => by rw [hff _ _ (by simp <;> omega)]; simp [go_sem]
    have HB1 : Hid (Below w.heap.size w w1) := below_then (hb0 _ _) hb1
    have HCD : Hid (L.n1 + L.n2 = 0 ∨ ra = some ⟨b, 0, none⟩ ∧ b < w1.heap.size ∧ BA w1 b 0 (L.n1 + L.n2) (aZ L)) := hcd
    clear hcc hff hb1 hb0 ho1 hcond hcd
    go_wp2_with fail
    refine (implUr_any (L.n1 + L.n2) (aZ L) ra b 0 rc w1 hrc (by omega) (aZ_byt HY.out) HCD.out).mono ?_
    rintro e w2 ⟨rb, rcp, rfl, hb2, ho2⟩
    have s0 := cell_below r0 hb2
    have s1 := cell_below r1 hb2
    have s2 := cell_below r2 hb2
    have sf : ∀ i, w2.frozen? ⟨w.heap.size + 1, i, none⟩ = false := fun i => (hb2.frozen (p := ⟨w.heap.size + 1, i, none⟩) (by show w.heap.size + 1 < _; omega)).trans (fz i)
    have t0 := fun o : Obj => cell_alloc s0 o
    have t1 := fun o : Obj => cell_alloc s1 o
    have t2 := fun o : Obj => cell_alloc s2 o
    have tf : ∀ i c t, (w2.alloc (.cells c t)).frozen? ⟨w.heap.size + 1, i, none⟩ = false := fun i c t => by rw [frozen?_alloc_cells]; exact sf i
    have HB2 : Hid (Below w.heap.size w w2) := below_then HB1.out hb2
    have HO2 : Hid (Own8 w2 (w1.heap.size + 1) w2.heap.size rb (cnt (aZ L) (L.n1 + L.n2)) (zRs (aZ L))) := own8_of_row ho2
    have hcl := cnt_le (aZ L) (L.n1 + L.n2)
    by_cases hc : 13 * cnt (aZ L) (L.n1 + L.n2) = L.n1 + L.n2
    · have HC : Hid (lgC L = 0) := lgC_ok hm hc
      have hd : (13 * (cnt (aZ L) (L.n1 + L.n2) : Int) != ((L.n1 + L.n2 : Nat) : Int)) = false := by simp; omega
      generalize hcn : cnt (aZ L) (L.n1 + L.n2) = m at *
      have HM : Hid (cnt (aZ L) (L.n1 + L.n2) = m) := hcn
      clear hcn hc hcl hb2 ho2 s0 s1 s2 sf r0 r1 r2 fz
      go_wp2_with fail
      refine bodyPost_ret (v := .agg #[.int .i64 0, .int .i64 (13 * (m : Int)), .slice rb m rcp]) (by simp [results, Tryz.results160, go_sem, *]) rfl ?_
      have hw : ∀ w7, Writes (w.heap.size + 1) (w.heap.size + 2) (w2.alloc (.cells #[.int .i64 0, .int .i64 (13 * (m : Int)), .slice rb m rcp] 199)) w7 → w7.heap.size = (w2.alloc (.cells #[.int .i64 0, .int .i64 (13 * (m : Int)), .slice rb m rcp] 199)).heap.size → RlR L w (.returned (.agg #[.int .i64 0, .int .i64 (13 * (m : Int)), .slice rb m rcp])) w7 := fun w7 h7 e7 => by
        refine ⟨rb, rcp, 13 * (m : Int), m, by rw [HC.out], ⟨by rw [if_pos HC.out, HM.out], rfl⟩, Writes.below (HB2.out.alloc HB2.out.size _) h7 (by omega), ?_⟩
        rw [e7]
        have hz2 := HB2.out.size
        exact ((HO2.out.below (below_new _ _)).writes h7 (.inr (by omega))).wide (by omega) (by rw [World.size_alloc]; omega) (by have := h7.size; omega)
      refine hw _ ?_ (by simp [World.setCell])
      repeat (first | exact Writes.refl _ _ _ | apply Writes.drew | refine Writes.setCell ?_ (by first | omega | (simp <;> omega)) (by first | omega | (simp <;> omega)) _)
    · have HC : Hid (lgC L = 5) := lgC_text hm hc
      have hd : (13 * (cnt (aZ L) (L.n1 + L.n2) : Int) != ((L.n1 + L.n2 : Nat) : Int)) = true := by simp; omega
      generalize hcn : cnt (aZ L) (L.n1 + L.n2) = m at *
      clear hcn hc hcl hb2 ho2 s0 s1 s2 sf r0 r1 r2 fz
      go_wp2_with fail
      refine bodyPost_ret (v := .agg #[.int .i64 5, .int .i64 0, .slice none 0 0]) (by simp [results, Tryz.results160, go_sem, *]) rfl ?_
      refine ⟨none, 0, 0, 0, by rw [HC.out], by rw [HC.out]; exact ⟨rfl, rfl⟩, ?_, ?_, .inl rfl⟩
      · repeat (first | exact HB2.out.alloc HB2.out.size _ | refine Below.setCell ?_ (by first | omega | (simp <;> omega)) _)
      · exact Nat.le_refl _
theorem cells2 : Tryz.prog.cellsOf 2 = 1 := by kernel_rfl
theorem cells62 : Tryz.prog.cellsOf 26 = 2 := by kernel_rfl
theorem cells149 : Tryz.prog.cellsOf 192 = 3 := by kernel_rfl
theorem cells22 : Tryz.prog.cellsOf 27 = 1 := by kernel_rfl
theorem cells5 : Tryz.prog.cellsOf 5 = 1 := by kernel_rfl

theorem openBytes {H : Type} {enc : TypeId × Value → H} {W : World} {fuel : Nat} {cs : List Value} {x : DataW H × List MemPlace}
    (h : DataW.trod enc Tryz.prog W 0 (fun _ => true) true fuel 27 cs = some x) :
    ∃ (a : Option Addr) (n cap : Nat) (z : Nat → Int), cs = [.slice a n cap] ∧ n ≤ 9223372036854775807 ∧ Byt n z ∧ BytesAt W a n z ∧ n ≤ cap := by
  rcases open_ints Tryz.underlying27 Tryz.underlying5 cells5 h with ⟨rfl, _⟩ | ⟨a, l, c, zs, rfl, _, hl, hm, hz, _, hcell, hwz⟩
  · exact ⟨none, 0, 0, fun _ => 0, rfl, by omega, fun i hi => by omega, .inl rfl, Nat.le_refl _⟩
  · have hz' : zs.length = c := by simpa using hz
    unfold maxLen at hm
    refine ⟨some a, l, c, fun i => zs.getD i 0, rfl, by omega, fun i hi => ?_, ?_, hl⟩
    · have hin : zs.getD i 0 ∈ zs := by
        rw [List.getD_eq_getElem?_getD, List.getElem?_eq_getElem (by omega)]; simp
      have := hwz _ hin
      simpa [Lit.wf, IntKind.min, IntKind.max, IntKind.signed, IntKind.bits] using this
    · by_cases hz0 : l = 0
      · exact .inl hz0
      · obtain ⟨b, off, spot⟩ := a
        have hc0 := hcell 0 (by omega)
        have hspot : spot = none := by simpa [Addr.add] using World.cell?_spot hc0
        subst hspot
        exact .inr ⟨b, off, rfl, Go.block_lt_of_cell hc0, fun i hi => by have := hcell i (by omega); rwa [add_plain] at this⟩
theorem openPages {H : Type} {enc : TypeId × Value → H} {W : World} {fuel : Nat} {cs : List Value} {x : DataW H × List MemPlace}
    (h : DataW.trod enc Tryz.prog W 0 (fun _ => true) true fuel 23 cs = some x) :
    ∃ (a : Option Addr) (n cap : Nat) (L : Nat → Nat) (Z : Nat → Nat → Int), cs = [.slice a n cap] ∧ n ≤ 9223372036854775807 ∧ (∀ i, i < n → L i ≤ 9223372036854775807) ∧ (∀ i, i < n → Byt (L i) (Z i)) ∧ PagesAt W a n L Z := by
  rcases open_slice1 Tryz.underlying23 cells22 h with ⟨rfl, _⟩ | ⟨a, l, c, m, nn, V, D, Pl, rfl, _, hl, hm, hmm, _, hx⟩
  · exact ⟨none, 0, 0, fun _ => 0, fun _ _ => 0, rfl, by omega, fun i hi => by omega, fun i hi => by omega, .inl rfl⟩
  · have hmc : m = c := by simpa using hmm
    unfold maxLen at hm
    have each : ∀ i, i < l → ∃ q : (Option Addr × Nat) × (Nat × (Nat → Int)), V i = .slice q.1.1 q.2.1 q.1.2 ∧ q.2.1 ≤ 9223372036854775807 ∧ Byt q.2.1 q.2.2 ∧ BytesAt W q.1.1 q.2.1 q.2.2 ∧ q.2.1 ≤ q.1.2 := fun i hi => by
      obtain ⟨a', n', c', z', e, h1, h2, h3, h4⟩ := openBytes (hx i (by omega)).2
      simp only [List.cons.injEq, and_true] at e
      exact ⟨((a', c'), (n', z')), e, h1, h2, h3, h4⟩
    obtain ⟨q, hq⟩ := choose_lt each
    refine ⟨some a, l, c, fun i => (q i).2.1, fun i => (q i).2.2, rfl, by omega, fun i hi => (hq i hi).2.1, fun i hi => (hq i hi).2.2.1, ?_⟩
    by_cases hz0 : l = 0
    · exact .inl hz0
    · obtain ⟨b, off, spot⟩ := a
      have hc0 := (hx 0 (by omega)).1
      have hspot : spot = none := by simpa [Addr.add] using World.cell?_spot hc0
      subst hspot
      refine .inr ⟨b, off, rfl, Go.block_lt_of_cell hc0, fun i hi => ⟨(q i).1.1, (q i).1.2, ?_, (hq i hi).2.2.2⟩⟩
      have := (hx i (by omega)).1
      rw [add_plain, (hq i hi).1] at this
      exact this
theorem openLooses {H : Type} {enc : TypeId × Value → H} {W : World} {fuel : Nat} {cs : List Value} {x : DataW H × List MemPlace}
    (h : DataW.trod enc Tryz.prog W 0 (fun _ => true) true fuel 24 cs = some x) :
    ∃ (a : Option Addr) (n cap : Nat) (P T : Nat → Int) (L : Nat → Nat) (Z : Nat → Nat → Int), cs = [.slice a n cap] ∧ n ≤ 9223372036854775807 ∧ (∀ i, i < n → L i ≤ 9223372036854775807) ∧ (∀ i, i < n → Byt (L i) (Z i)) ∧ LoosesAt W a n P T L Z := by
  rcases open_slice Tryz.underlying24 h with ⟨rfl, _⟩ | ⟨a, l, c, m, nn, D, Pl, rfl, _, hl, hm, hmm, _, hx⟩
  · exact ⟨none, 0, 0, fun _ => 0, fun _ => 0, fun _ => 0, fun _ _ => 0, rfl, by omega, fun i hi => by omega, fun i hi => by omega, .inl rfl⟩
  · have hmc : m = c := by simpa using hmm
    unfold maxLen at hm
    rw [cells149] at hx
    have each : ∀ i, i < l → ∃ q : (Int × Int) × (Option Addr × Nat) × (Nat × (Nat → Int)), W.cell? (a.add (i * 3)) = some (.int .i64 q.1.1) ∧ W.cell? (a.add (i * 3 + 1)) = some (.int .i64 q.1.2) ∧ W.cell? (a.add (i * 3 + 2)) = some (.slice q.2.1.1 q.2.2.1 q.2.1.2) ∧ q.2.2.1 ≤ 9223372036854775807 ∧ Byt q.2.2.1 q.2.2.2 ∧ BytesAt W q.2.1.1 q.2.2.1 q.2.2.2 ∧ q.2.2.1 ≤ q.2.1.2 := fun i hi => by
      obtain ⟨cs', h1, h2⟩ := hx i (by omega)
      obtain ⟨_, hlen, hcell⟩ := World.cells?_some h1
      obtain ⟨xs, k, hk, hxy, _, hxl, hf⟩ := DataW.trod_struct Tryz.underlying192 h2
      match xs, hxl, cs', hlen with
      | [y0, y1, y2], _, [v0, v1, v2], _ =>
        have g0 := hf 0 _ rfl
        have g1 := hf 1 _ rfl
        have g2 := hf 2 _ rfl
        simp [cells2, cells22] at g0 g1 g2
        have e0 := hcell 0 (by omega)
        have e1 := hcell 1 (by omega)
        have e2 := hcell 2 (by omega)
        rw [add_add] at e0 e1 e2
        obtain ⟨z0, f0, _, _⟩ := DataW.trod_int Tryz.underlying2 g0
        obtain ⟨z1, f1, _, _⟩ := DataW.trod_int Tryz.underlying2 g1
        obtain ⟨a', n', c', z', f2, k1, k2, k3, k4⟩ := openBytes g2
        simp at f0 f1 f2
        subst f0 f1 f2
        exact ⟨((z0, z1), (a', c'), (n', z')), by simpa using e0, by simpa using e1, by simpa using e2, k1, k2, k3, k4⟩
    obtain ⟨q, hq⟩ := choose_lt each
    refine ⟨some a, l, c, fun i => (q i).1.1, fun i => (q i).1.2, fun i => (q i).2.2.1, fun i => (q i).2.2.2, rfl, by omega, fun i hi => (hq i hi).2.2.2.1, fun i hi => (hq i hi).2.2.2.2.1, ?_⟩
    by_cases hz0 : l = 0
    · exact .inl hz0
    · obtain ⟨b, off, spot⟩ := a
      have hc0 := (hq 0 (by omega)).1
      have hspot : spot = none := by simpa [Addr.add] using World.cell?_spot hc0
      subst hspot
      refine .inr ⟨b, off, rfl, Go.block_lt_of_cell hc0, fun i hi => ?_⟩
      obtain ⟨k0, k1, k2, _, _, k3⟩ := hq i hi
      rw [add_plain] at k0 k1 k2
      exact ⟨k0, by rw [Nat.add_assoc]; exact k1, (q i).2.1.1, (q i).2.1.2, by rw [Nat.add_assoc]; exact k2, k3⟩
structure DiskByt (D : Dk) : Prop where
  p : ∀ i, i < D.n → Byt (D.L i) (D.Z i)
  l : ∀ i, i < D.m → Byt (D.M i) (D.Y i)
/-- A log in blocks of its own. -/
def OwnG (w : World) (lo hi : Nat) (a1 a2 : Option Addr) (L : Lo) : Prop := hi ≤ w.heap.size ∧ ∃ l1 h1 l2 h2, lo ≤ l1 ∧ h1 ≤ hi ∧ lo ≤ l2 ∧ h2 ≤ hi ∧ (h1 ≤ l2 ∨ h2 ≤ l1) ∧ OwnB w l1 h1 a1 L.n1 L.z1 ∧ OwnB w l2 h2 a2 L.n2 L.z2
theorem OwnG.at {w : World} {lo hi : Nat} {a1 a2 : Option Addr} {L : Lo} (h : OwnG w lo hi a1 a2 L) : LogAt w a1 a2 L := by
  obtain ⟨_, l1, h1, l2, h2, _, _, _, _, _, hp, hl⟩ := h
  exact ⟨hp.at, hl.at⟩
theorem OwnG.writes {w w' : World} {lo hi lo' hi' : Nat} {a1 a2 : Option Addr} {L : Lo} (h : OwnG w lo hi a1 a2 L) (hw : Writes lo' hi' w w') (hd : hi ≤ lo' ∨ hi' ≤ lo) : OwnG w' lo hi a1 a2 L := by
  obtain ⟨h0, l1, h1, l2, h2, k1, k2, k3, k4, k5, hp, hl⟩ := h
  exact ⟨Nat.le_trans h0 hw.size, l1, h1, l2, h2, k1, k2, k3, k4, k5, hp.writes hw (by omega), hl.writes hw (by omega)⟩
theorem OwnG.below {w w' : World} {lo hi : Nat} {a1 a2 : Option Addr} {L : Lo} (h : OwnG w lo hi a1 a2 L) (hb : Below w.heap.size w w') : OwnG w' lo hi a1 a2 L :=
  h.writes (Writes.of_below (lo := hi) (hi := hi) hb) (.inl (Nat.le_refl _))
theorem OwnG.wide {w : World} {lo hi lo' hi' : Nat} {a1 a2 : Option Addr} {L : Lo} (h : OwnG w lo hi a1 a2 L) (e1 : lo' ≤ lo) (e2 : hi ≤ hi') (e3 : hi' ≤ w.heap.size) : OwnG w lo' hi' a1 a2 L := by
  obtain ⟨h0, l1, h1, l2, h2, k1, k2, k3, k4, k5, hp, hl⟩ := h
  exact ⟨e3, l1, h1, l2, h2, by omega, by omega, by omega, by omega, k5, hp, hl⟩
theorem ownB_rowIs {w : World} {b n lo : Nat} {z : Nat → Int} (h : w.rowIs b 5 n (fun i => .int .u8 (z i))) (hl : lo ≤ b) : OwnB w lo w.heap.size (some ⟨b, 0, none⟩) n z := by
  have r := Row1.of_row h
  exact ⟨Nat.le_refl _, .inr ⟨b, 0, rfl, hl, h.lt, r.1, r.2⟩⟩
set_option maxHeartbeats 800000 in
theorem toLog_any (L : Lo) (a1 a2 : Option Addr) (c1 c2 : Nat) (w : World) (hn1 : L.n1 ≤ 1048576) (hn2 : L.n2 ≤ 1048576) (h : LogAt w a1 a2 L) :
    Calls Tryz.prog 34 #[.agg #[.slice a1 L.n1 c1, .slice a2 L.n2 c2]] w fun e w' =>
      ∃ b b', e = .returned (.agg #[.slice (some ⟨b, 0, none⟩) L.n1 L.n1, .slice (some ⟨b', 0, none⟩) L.n2 L.n2]) ∧ Below w.heap.size w w' ∧ OwnG w' w.heap.size w'.heap.size (some ⟨b, 0, none⟩) (some ⟨b', 0, none⟩) L := by
  obtain ⟨n, z, m, y⟩ := L
  obtain ⟨h1, h2⟩ := h
  dsimp only at *
  have HA : Hid (BytesAt w a1 n z) := h1
  have HA' : Hid (BytesAt w a2 m y) := h2
  clear h1 h2
  go_enter Tryz.func34, Tryz.ntmps34
  go_wp2_with fail
  have hb0 : ∀ o1 o2 o3, Below w.heap.size w (((w.alloc o1).alloc o2).alloc o3) := fun o1 o2 o3 => (((Below.refl _ _).alloc (Nat.le_refl _) _).alloc (by simp) _).alloc (by simp; omega) _
  have e3 : ∀ o1 o2 o3 : Obj, (((w.alloc o1).alloc o2).alloc o3).heap.size = w.heap.size + 3 := fun _ _ _ => by simp
  refine (toByteS_any n z a1 c1 _ (by omega) (HA.out.below (hb0 _ _ _))).mono ?_
  rintro e w1 ⟨rfl, hb1, ho1⟩
  obtain ⟨hc, hf⟩ := bcell hb1
  have hz : w.heap.size + 2 < w1.heap.size := by have := hb1.size; rw [e3] at this; omega
  have q0 : w1.cell? ⟨w.heap.size, 0, none⟩ = some (.slice a1 n c1) := by rw [hc _ _ (by simp <;> omega)]; simp [go_sem]
  have q1 : w1.cell? ⟨w.heap.size, 1, none⟩ = some (.slice a2 m c2) := by rw [hc _ _ (by simp <;> omega)]; simp [go_sem]
  have r0 : w1.cell? ⟨w.heap.size + 1, 0, none⟩ = some (.slice none 0 0) := by rw [hc _ _ (by simp <;> omega)]; simp [go_sem]
  have r1 : w1.cell? ⟨w.heap.size + 1, 1, none⟩ = some (.slice none 0 0) := by rw [hc _ _ (by simp <;> omega)]; simp [go_sem]
  have s0 : w1.cell? ⟨w.heap.size + 2, 0, none⟩ = some (.slice none 0 0) := by rw [hc _ _ (by simp <;> omega)]; simp [go_sem]
  have s1 : w1.cell? ⟨w.heap.size + 2, 1, none⟩ = some (.slice none 0 0) := by rw [hc _ _ (by simp <;> omega)]; simp [go_sem]
  have f1 : ∀ i, w1.frozen? ⟨w.heap.size + 1, i, none⟩ = false := fun i => by rw [hf _ _ (by simp <;> omega)]; simp [go_sem]
  have f2 : ∀ i, w1.frozen? ⟨w.heap.size + 2, i, none⟩ = false := fun i => by rw [hf _ _ (by simp <;> omega)]; simp [go_sem]
  have HB : Hid (Below w.heap.size w w1) := below_then (hb0 _ _ _) hb1
  rw [e3] at ho1
  have HO : Hid (OwnB w1 (w.heap.size + 3) w1.heap.size (some ⟨w.heap.size + 3, 0, none⟩) n z) := ownB_rowIs ho1 (Nat.le_refl _)
  clear hc hf hb1 ho1 hb0 e3
  go_wp2_with fail
  have HB' : Hid (Below w.heap.size w (w1.setCell ⟨w.heap.size + 1 + 1, 0, none⟩ (.slice (some ⟨w.heap.size + 1 + 1 + 1, 0, none⟩) n n))) := HB.out.setCell (by simp <;> omega) _
  refine (toByteS_any m y a2 c2 _ (by omega) (HA'.out.below HB'.out)).mono ?_
  rintro e w2 ⟨rfl, hb2, ho2⟩
  obtain ⟨hc, hf⟩ := bcell hb2
  have es : (w1.setCell ⟨w.heap.size + 1 + 1, 0, none⟩ (.slice (some ⟨w.heap.size + 1 + 1 + 1, 0, none⟩) n n)).heap.size = w1.heap.size := by simp [World.setCell]
  rw [es] at hc hf ho2
  have t0 : w2.cell? ⟨w.heap.size + 1, 0, none⟩ = some (.slice none 0 0) := by rw [hc _ _ (by omega)]; rw [World.cell?_setCell_other _ _ _ _ (by simp), r0]
  have t1 : w2.cell? ⟨w.heap.size + 1, 1, none⟩ = some (.slice none 0 0) := by rw [hc _ _ (by omega)]; rw [World.cell?_setCell_other _ _ _ _ (by simp), r1]
  have u0 : w2.cell? ⟨w.heap.size + 1 + 1, 0, none⟩ = some (.slice (some ⟨w.heap.size + 1 + 1 + 1, 0, none⟩) n n) := by rw [hc _ _ (by omega)]; exact setS s0
  have u1 : w2.cell? ⟨w.heap.size + 1 + 1, 1, none⟩ = some (.slice none 0 0) := by rw [hc _ _ (by omega)]; rw [setO (by omega), s1]
  have k1 : ∀ i, w2.frozen? ⟨w.heap.size + 1, i, none⟩ = false := fun i => by rw [hf _ _ (by omega), World.frozen?_setCell]; exact f1 i
  have k2 : ∀ i, w2.frozen? ⟨w.heap.size + 1 + 1, i, none⟩ = false := fun i => by rw [hf _ _ (by omega), World.frozen?_setCell]; exact f2 i
  have HB2 : Hid (Below w.heap.size w w2) := below_then HB'.out hb2
  have HP : Hid (OwnB w2 (w.heap.size + 3) w1.heap.size (some ⟨w.heap.size + 3, 0, none⟩) n z) := by
    have h := HO.out.writes (lo' := w.heap.size) (hi' := w.heap.size + 3) (Writes.setCell (Writes.refl _ _ _) (p := ⟨w.heap.size + 1 + 1, 0, none⟩) (by simp <;> omega) (by simp <;> omega) (.slice (some ⟨w.heap.size + 1 + 1 + 1, 0, none⟩) n n)) (.inr (Nat.le_refl _))
    exact h.below hb2
  have HQ : Hid (OwnB w2 w1.heap.size w2.heap.size (some ⟨w1.heap.size, 0, none⟩) m y) := ownB_rowIs ho2 (Nat.le_refl _)
  rw [es]
  have hs2 : w1.heap.size ≤ w2.heap.size := by have := hb2.size; rw [es] at this; exact this
  clear hc hf hb2 ho2 es q0 q1 r0 r1 s0 s1 f1 f2 HB'
  go_wp2_with fail
  refine bodyPost_ret (v := .agg #[.slice (some ⟨w.heap.size + 3, 0, none⟩) n n, .slice (some ⟨w1.heap.size, 0, none⟩) m m]) (by simp [results, Tryz.results34, go_sem, *]) rfl ⟨_, _, rfl, ?_, ?_⟩
  · repeat (first | exact HB2.out | refine Below.setCell ?_ (by first | omega | (simp <;> omega)) _)
  · have hw : ∀ w3, Writes w.heap.size (w.heap.size + 3) w2 w3 → w3.heap.size = w2.heap.size → OwnG w3 w.heap.size w3.heap.size (some ⟨w.heap.size + 3, 0, none⟩) (some ⟨w1.heap.size, 0, none⟩) ⟨n, z, m, y⟩ := fun w3 h e =>
      ⟨Nat.le_refl _, w.heap.size + 3, w1.heap.size, w1.heap.size, w2.heap.size, by omega, by omega, by omega, by omega, .inl (Nat.le_refl _), HP.out.writes h (.inr (Nat.le_refl _)), HQ.out.writes h (.inr (by omega))⟩
    refine hw _ ?_ (by simp [World.setCell])
    repeat (first | exact Writes.refl _ _ _ | refine Writes.setCell ?_ (by first | omega | (simp <;> omega)) (by first | omega | (simp <;> omega)) _)
theorem eqLog_same (L : Lo) (a1 a2 b1 b2 : Option Addr) (c1 c2 d1 d2 : Nat) (w : World) (hn1 : L.n1 ≤ 1048576) (hn2 : L.n2 ≤ 1048576) (h : LogAt w a1 a2 L) (h' : LogAt w b1 b2 L) :
    Calls Tryz.prog 43 #[.agg #[.slice a1 L.n1 c1, .slice a2 L.n2 c2], .agg #[.slice b1 L.n1 d1, .slice b2 L.n2 d2]] w fun e w' => e = .returned (.bool true) ∧ Below w.heap.size w w' := by
  have hb0 : ∀ o1 o2, Below w.heap.size w ((w.alloc o1).alloc o2) := fun o1 o2 => ((Below.refl _ _).alloc (Nat.le_refl _) _).alloc (by simp) _
  have H1 : Hid (LogAt w a1 a2 L) := h
  have H2 : Hid (LogAt w b1 b2 L) := h'
  clear h h'
  go_enter Tryz.func43, Tryz.ntmps43
  go_wp2_with fail
  refine (eqByteS_any L.n1 L.z1 a1 b1 c1 d1 _ (by omega) (H1.out.1.below (hb0 _ _)) (H2.out.1.below (hb0 _ _))).mono ?_
  rintro e w1 ⟨rfl, hb1⟩
  obtain ⟨hc, hf⟩ := bcell hb1
  have q1 : w1.cell? ⟨w.heap.size, 1, none⟩ = some (.slice a2 L.n2 c2) := by rw [hc _ _ (by simp <;> omega)]; simp [go_sem]
  have r1 : w1.cell? ⟨w.heap.size + 1, 1, none⟩ = some (.slice b2 L.n2 d2) := by rw [hc _ _ (by simp <;> omega)]; simp [go_sem]
  have HB1 : Hid (Below w.heap.size w w1) := below_then (hb0 _ _) hb1
  clear hc hf hb1 hb0
  go_wp2_with fail
  refine (eqByteS_any L.n2 L.z2 a2 b2 c2 d2 _ (by omega) (H1.out.2.below HB1.out) (H2.out.2.below HB1.out)).mono ?_
  rintro e w2 ⟨rfl, hb2⟩
  go_wp2_with fail
  go_ret
  exact ⟨rfl, below_then HB1.out hb2⟩
/-- A log with marks from m on. -/
def mG (m : Int) (L : Lo) : Lo := ⟨L.n1, bk m, L.n2, bk (m + L.n1)⟩
theorem markLog_any (L : Lo) (a1 a2 : Option Addr) (c1 c2 lo hi : Nat) (m : Int) (w : World) (hn1 : L.n1 ≤ 1048576) (hn2 : L.n2 ≤ 1048576) (hm1 : 0 ≤ m) (hm2 : m ≤ 1048576) (h : OwnG w lo hi a1 a2 L) :
    Calls Tryz.prog 48 #[.agg #[.slice a1 L.n1 c1, .slice a2 L.n2 c2], .int .i64 m] w fun e w' => e = .returned (.int .i64 (m + (L.n1 + L.n2 : Nat))) ∧ Writes lo hi w w' ∧ OwnG w' lo hi a1 a2 (mG m L) := by
  obtain ⟨n, z, k, y⟩ := L
  obtain ⟨h0, l1, h1, l2, h2, e1, e2, e3, e4, e5, hp, hl⟩ := h
  unfold mG
  dsimp only at *
  have HP : Hid (OwnB w l1 h1 a1 n z) := hp
  have HL : Hid (OwnB w l2 h2 a2 k y) := hl
  clear hp hl
  go_enter Tryz.func48, Tryz.ntmps48
  go_wp2_with fail
  refine (markByteS_any n z a1 c1 l1 h1 m _ (by omega) hm1 (by omega) (HP.out.below (below_new _ _))).mono ?_
  rintro e w1 ⟨rfl, hw1, ho1⟩
  have HW : Hid (Writes l1 h1 w w1) := (Writes.of_below (below_new _ _)).trans hw1
  have hlt : h1 ≤ w.heap.size := HP.out.1
  have q1 : w1.cell? ⟨w.heap.size, 1, none⟩ = some (.slice a2 k c2) := by
    rw [hw1.cell (by simp) (by omega) _]; simp [go_sem]
  have HO1 : Hid (OwnB w1 l1 h1 a1 n (bk m)) := ho1
  have hz1 : w.heap.size ≤ w1.heap.size := HW.out.size
  clear hw1 ho1
  go_wp2_with fail
  refine (markByteS_any k y a2 c2 l2 h2 (m + n) _ (by omega) (by omega) (by omega) (HL.out.writes HW.out (by omega))).mono ?_
  rintro e w2 ⟨rfl, hw2, ho2⟩
  have hz2 : w1.heap.size ≤ w2.heap.size := hw2.size
  go_wp2_with fail
  go_ret
  have wd : ∀ {a b c d : Nat} {u v : World}, Writes a b u v → c ≤ a → b ≤ d → Writes c d u v := fun hh g1 g2 => ⟨hh.os, hh.tape, hh.output, hh.size, fun q hq hd => hh.block q hq (by omega)⟩
  exact ⟨ret_int (by omega), (wd HW.out e1 e2).trans (wd hw2 e3 e4), by omega, l1, h1, l2, h2, e1, e2, e3, e4, e5, HO1.out.writes hw2 (by omega), ho2⟩
theorem cellsLog : Tryz.prog.cellsOf 29 = 2 := by kernel_rfl
end Go.Proofs.YtaokclhcmgbgnaaGreat
