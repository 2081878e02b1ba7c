/- Stores in memory: what they hold, sizes, copies, equal. -/
import Derived.Test.YtldnfiadafmomaaGreatQPr3
import Derived.Deep.RegionLaw
import Derived.Test.YtldnfiadafmomaaGreatQUv
import Derived.Test.YtldnfiadafmomaaGreatQBase
import Derived.Lib.SmallJoins
import Derived.Test.YtldnfiadafmomaaGreatQPut
import Derived.Test.YtldnfiadafmomaaGreatQZpa
import Derived.Test.YtldnfiadafmomaaGreatQDe
namespace Go.Proofs.YtldnfiadafmomaaGreat
open Go.RowKit Go.Deep
set_option linter.unusedVariables false
set_option maxRecDepth 20000
open Go.ChangeShapes Go.WideShapes Go.ChangeAt Go.RowKit Go.Deep Go.Joins

/-- A record's eight fields. -/
structure Rc where
  k : Int
  t : Int
  key : Int
  hd : Bool
  old : Int
  hs : Bool
  nw : Int
  bk : Int
/-- Its cells. -/
def C8 (w : World) (b o : Nat) (r : Rc) : Prop :=
  w.cell? ⟨b, o, none⟩ = some (.int .i64 r.k) ∧ w.cell? ⟨b, o + 1, none⟩ = some (.int .i64 r.t) ∧ w.cell? ⟨b, o + 2, none⟩ = some (.int .i64 r.key) ∧ w.cell? ⟨b, o + 3, none⟩ = some (.bool r.hd) ∧
  w.cell? ⟨b, o + 4, none⟩ = some (.int .i64 r.old) ∧ w.cell? ⟨b, o + 5, none⟩ = some (.bool r.hs) ∧ w.cell? ⟨b, o + 6, none⟩ = some (.int .i64 r.nw) ∧ w.cell? ⟨b, o + 7, none⟩ = some (.int .i64 r.bk)
theorem C8.block {w w' : World} {b o : Nat} {r : Rc} (h : C8 w b o r) (e : w'.heap[b]? = w.heap[b]?) : C8 w' b o r := by
  have g : ∀ i, w'.cell? ⟨b, i, none⟩ = w.cell? ⟨b, i, none⟩ := fun i => World.cell?_of_block (w := w) (a := ⟨b, i, none⟩) e
  obtain ⟨h0, h1, h2, h3, h4, h5, h6, h7⟩ := h
  exact ⟨(g _).trans h0, (g _).trans h1, (g _).trans h2, (g _).trans h3, (g _).trans h4, (g _).trans h5, (g _).trans h6, (g _).trans h7⟩
def RecsAt (w : World) (a : Option Addr) (n : Nat) (R : Nat → Rc) : Prop := n = 0 ∨ ∃ b off, a = some ⟨b, off, none⟩ ∧ b < w.heap.size ∧ ∀ i, i < n → C8 w b (off + i * 8) (R i)
def Row8 (w : World) (b off n : Nat) (R : Nat → Rc) : Prop := (∀ i, i < n → C8 w b (off + i * 8) (R i)) ∧ ∀ i, w.frozen? ⟨b, i, none⟩ = false
def Own8 (w : World) (lo hi : Nat) (a : Option Addr) (n : Nat) (R : Nat → Rc) : Prop := hi ≤ w.heap.size ∧ (n = 0 ∨ ∃ b off, a = some ⟨b, off, none⟩ ∧ lo ≤ b ∧ b < hi ∧ Row8 w b off n R)
theorem Own8.at {w : World} {lo hi : Nat} {a : Option Addr} {n : Nat} {R : Nat → Rc} (h : Own8 w lo hi a n R) : RecsAt w a n R := by
  obtain ⟨h0, h1 | ⟨b, off, ha, _, hl, hc⟩⟩ := h
  · exact .inl h1
  · exact .inr ⟨b, off, ha, by omega, hc.1⟩
theorem Own8.writes {w w' : World} {lo hi lo' hi' : Nat} {a : Option Addr} {n : Nat} {R : Nat → Rc} (h : Own8 w lo hi a n R) (hw : Writes lo' hi' w w') (hd : hi ≤ lo' ∨ hi' ≤ lo) : Own8 w' lo hi a n R := by
  obtain ⟨h0, h1 | ⟨b, off, ha, h2, hl, hc⟩⟩ := h
  · exact ⟨Nat.le_trans h0 hw.size, .inl h1⟩
  · have hb := hw.block b (by omega) (by omega)
    exact ⟨Nat.le_trans h0 hw.size, .inr ⟨b, off, ha, h2, hl, fun i hi => (hc.1 i hi).block hb, fun i => (World.frozen?_of_block (w := w) (a := ⟨b, i, none⟩) hb).trans (hc.2 i)⟩⟩
theorem Own8.below {w w' : World} {lo hi : Nat} {a : Option Addr} {n : Nat} {R : Nat → Rc} (h : Own8 w lo hi a n R) (hb : Below w.heap.size w w') : Own8 w' lo hi a n R :=
  h.writes (Writes.of_below (lo := hi) (hi := hi) hb) (.inl (Nat.le_refl _))
theorem Own8.wide {w : World} {lo hi lo' hi' : Nat} {a : Option Addr} {n : Nat} {R : Nat → Rc} (h : Own8 w lo hi a n R) (h1 : lo' ≤ lo) (h2 : hi ≤ hi') (h3 : hi' ≤ w.heap.size) : Own8 w lo' hi' a n R := by
  obtain ⟨h0, h4 | ⟨b, off, ha, h5, hl, r⟩⟩ := h
  · exact ⟨h3, .inl h4⟩
  · exact ⟨h3, .inr ⟨b, off, ha, by omega, by omega, r⟩⟩
/-! ### equal -/
theorem drewB6 {w1 w2 : World} (hb : Below w1.drew.heap.size w1.drew w2) : Below w1.heap.size w1 w2 := ((Below.refl _ _).drew).trans hb
/-! ### marked -/
/-! ### held -/
/-! ### answers that are records -/
/-! ### the records that bytes tell -/
def zR (z : Nat → Int) : Rc := ⟨num z 0 1, num z 1 2, num z 3 1, hdB z, num z 5 2, hsB z, num z 7 2, num z 9 2⟩
theorem rvs_len (z : Nat → Int) : ∀ k, (rvs z k).length = 8 * k
  | 0 => rfl
  | k + 1 => by simp only [rvs, List.length_append, rvs_len z k]; simp [rvl]; omega
theorem rvs_get (z : Nat → Int) : ∀ k i j, i < k → j < 8 → (rvs z k)[8 * i + j]? = (rvl (sh z (13 * i)))[j]?
  | 0, i, j, h, _ => by omega
  | k + 1, i, j, h, hj => by
    simp only [rvs]
    by_cases e : i = k
    · subst e
      rw [List.getElem?_append_right (by rw [rvs_len]; omega), rvs_len]
      congr 1; omega
    · rw [List.getElem?_append_left (by rw [rvs_len]; omega)]
      exact rvs_get z k i j (by omega) hj
theorem own8_of_row {w : World} {base n : Nat} {a : Option Addr} {cap : Nat} {z : Nat → Int} (h : w.ownsRow base 141 8 (.slice a n cap) n (rvs z n)) : Own8 w base w.heap.size a n (fun i => zR (sh z (13 * i))) := by
  rcases h.2 with ⟨e, h0⟩ | ⟨g, cap', cur, e, hbg, hg, _⟩
  · exact ⟨Nat.le_refl _, .inl h0⟩
  · simp only [Value.slice.injEq, true_and] at e
    obtain ⟨rfl, rfl⟩ := e
    have hlt : g < w.heap.size := by
      obtain ⟨hlt, _⟩ := Array.getElem?_eq_some_iff.1 hg
      exact hlt
    refine ⟨Nat.le_refl _, .inr ⟨g, 0, rfl, hbg, hlt, fun i hi => ?_, fun i => h.frozenAt _⟩⟩
    have c : ∀ j v, j < 8 → (rvl (sh z (13 * i)))[j]? = some v → w.cell? ⟨g, 0 + i * 8 + j, none⟩ = some v := fun j v hj hv => by
      rw [h.cellAt (0 + i * 8 + j) (by omega), show 0 + i * 8 + j = 8 * i + j by omega, rvs_get z n i j hi hj, hv]
    exact ⟨c 0 _ (by omega) rfl, c 1 _ (by omega) rfl, c 2 _ (by omega) rfl, c 3 _ (by omega) rfl, c 4 _ (by omega) rfl, c 5 _ (by omega) rfl, c 6 _ (by omega) rfl, c 7 _ (by omega) rfl⟩
/-- The records that stand in bytes, as fields. -/
def zRs (z : Nat → Int) (i : Nat) : Rc := zR (sh z (13 * i))
theorem rcn_le (z : Nat → Int) (n : Nat) : ∀ f k, 13 * k ≤ n → 13 * rcn z n f k ≤ n
  | 0, k, h => h
  | f + 1, k, h => by
    unfold rcn
    split
    · rename_i hh; exact rcn_le z n f (k + 1) hh.1
    · exact h
theorem cnt_le (z : Nat → Int) (n : Nat) : 13 * cnt z n ≤ n := rcn_le z n n 0 (by omega)
/-- What a log holds: sure bytes and loose ones. -/
structure Lo where
  n1 : Nat
  z1 : Nat → Int
  n2 : Nat
  z2 : Nat → Int
def LogAt (w : World) (a1 a2 : Option Addr) (L : Lo) : Prop := BytesAt w a1 L.n1 L.z1 ∧ BytesAt w a2 L.n2 L.z2
theorem LogAt.below {w w' : World} {a1 a2 : Option Addr} {L : Lo} (h : LogAt w a1 a2 L) (hb : Below w.heap.size w w') : LogAt w' a1 a2 L := ⟨h.1.below hb, h.2.below hb⟩
/-- All its bytes. -/
def aL (L : Lo) : List Int := zL L.z1 L.n1 ++ zL L.z2 L.n2
def aZ (L : Lo) (i : Nat) : Int := zOf (aL L) i
theorem aL_len (L : Lo) : (aL L).length = L.n1 + L.n2 := by simp [aL, zL_len]
structure LogByt (L : Lo) : Prop where
  p : Byt L.n1 L.z1
  q : Byt L.n2 L.z2
theorem aZ_byt {L : Lo} (h : LogByt L) : Byt (L.n1 + L.n2) (aZ L) := fun i hi => by
  have hm : (aL L).getD i 0 ∈ aL L := by
    have hl : i < (aL L).length := by rw [aL_len]; exact hi
    rw [List.getD_eq_getElem?_getD, List.getElem?_eq_getElem hl]
    exact List.getElem_mem hl
  have hb : ∀ x ∈ aL L, 0 ≤ x ∧ x ≤ 255 := fun x hx => by
    rcases List.mem_append.1 hx with h1 | h1
    · exact zL_byt h.p x h1
    · exact zL_byt h.q x h1
  exact hb _ hm
/-- The fault of a log. -/
def lgC (L : Lo) : Int := if 4000 < L.n1 + L.n2 then 2 else if 13 * cnt (aZ L) (L.n1 + L.n2) = L.n1 + L.n2 then 0 else 5
def two' {α : Type} (x y : α) (i : Nat) : α := if i = 0 then x else y
theorem jn_two (L : Lo) : jn (two' L.n1 L.n2) (two' L.z1 L.z2) 2 = aL L := by simp [jn, two', aL]
/-- All the bytes, in a row of one's own. -/
def AllAt (w : World) (base : Nat) (v : Value) (L : Lo) : Prop := ∃ ra rc, v = .slice ra (L.n1 + L.n2) rc ∧ L.n1 + L.n2 ≤ rc ∧ w.ownsRow base 5 1 (.slice ra (L.n1 + L.n2) rc) (aL L).length (bl (aL L)) ∧ (L.n1 + L.n2 = 0 ∨ ∃ g, ra = some ⟨g, 0, none⟩ ∧ base ≤ g ∧ g < w.heap.size ∧ BA w g 0 (L.n1 + L.n2) (aZ L))
theorem allAt_of {w : World} {base : Nat} {v : Value} {L : Lo} (h : w.ownsRow base 5 1 v (aL L).length (bl (aL L))) : AllAt w base v L := by
  have hl := aL_len L
  rw [hl] at h
  rcases h.2 with ⟨rfl, h0⟩ | ⟨g, cap, cur, rfl, hbg, hg, hnc, _⟩
  · exact ⟨none, 0, by rw [h0], by omega, by rw [hl]; rw [h0] at h ⊢; exact h, .inl h0⟩
  · have hlt : g < w.heap.size := by obtain ⟨hlt, _⟩ := Array.getElem?_eq_some_iff.1 hg; exact hlt
    refine ⟨_, cap, rfl, hnc, by rw [hl]; exact h, .inr ⟨g, rfl, hbg, hlt, fun i hi => ?_⟩⟩
    have := h.cellAt i (by omega)
    rw [Nat.zero_add, this]
    simp [bl, hl, hi, aZ, zOf]
theorem AllAt.cond {w : World} {base : Nat} {ra : Option Addr} {rc : Nat} {L : Lo} (h : L.n1 + L.n2 = 0 ∨ ∃ g, ra = some ⟨g, 0, none⟩ ∧ base ≤ g ∧ g < w.heap.size ∧ BA w g 0 (L.n1 + L.n2) (aZ L)) :
    ∃ b, L.n1 + L.n2 = 0 ∨ ra = some ⟨b, 0, none⟩ ∧ b < w.heap.size ∧ BA w b 0 (L.n1 + L.n2) (aZ L) := by
  rcases h with h | ⟨g, h1, h2, h3, h4⟩
  · exact ⟨0, .inl h⟩
  · exact ⟨g, .inr ⟨h1, h3, h4⟩⟩
theorem cell_two_new4 (w : World) (x y : Value) (t : TypeId) : ∀ i, i < 2 → (w.alloc (.cells #[x, y] t)).cell? ⟨w.heap.size, 0 + i, none⟩ = some (two' x y i) := fun i hi => by
  rcases (by omega : i = 0 ∨ i = 1) with rfl | rfl
  · simp [two']
  · simp [two']
/-- joined of the two pieces of a log, which stand in a block of their own. -/
theorem joined_two (L : Lo) (a1 a2 : Option Addr) (c1 c2 g : Nat) (w : World) (hg : w.heap.size = g) (hs : L.n1 + L.n2 ≤ 90000) (h : LogAt w a1 a2 L) :
    Calls Tryz.prog 67 #[.slice (some ⟨g, 0, none⟩) 2 2] (w.alloc (.cells #[.slice a1 L.n1 c1, .slice a2 L.n2 c2] 27)) fun e w' => ∃ v, e = .returned v ∧ Below w.heap.size w w' ∧ AllAt w' w.heap.size v L := by
  subst hg
  have hb := below_new w (.cells #[.slice a1 L.n1 c1, .slice a2 L.n2 c2] 27)
  refine (joined_any 2 (two' a1 a2) (two' L.n1 L.n2) (two' c1 c2) (two' L.z1 L.z2) w.heap.size 0 2 _ (by simp [sumL, two']; omega) (by rw [World.size_alloc]; omega) (fun i hi => ⟨?_, ?_⟩) (by omega)).mono ?_
  · rw [cell_two_new4 w _ _ _ i hi]
    rcases (by omega : i = 0 ∨ i = 1) with rfl | rfl <;> rfl
  · rcases (by omega : i = 0 ∨ i = 1) with rfl | rfl
    · exact h.1.below hb
    · exact h.2.below hb
  · rintro e w' ⟨v, rfl, hb1, ho⟩
    rw [jn_two] at ho
    refine ⟨v, rfl, below_then hb hb1, allAt_of ?_⟩
    rw [World.size_alloc] at ho
    exact rowB_down ho (by omega)
/-- An answer that is a log's records, or its fault. -/
def RlR (L : Lo) (w : World) (e : Ending) (w' : World) : Prop :=
  ∃ a cap u m, e = .returned (.agg #[.int .i64 (lgC L), .int .i64 u, .slice a m cap]) ∧ Hid (m = (if lgC L = 0 then cnt (aZ L) (L.n1 + L.n2) else 0) ∧ u = 13 * (m : Int)) ∧ Below w.heap.size w w' ∧ Own8 w' w.heap.size w'.heap.size a m (zRs (aZ L))
theorem lgC_many {L : Lo} (h : 4000 < L.n1 + L.n2) : lgC L = 2 := by rw [lgC, if_pos h]
theorem lgC_ok {L : Lo} (h : ¬ 4000 < L.n1 + L.n2) (h2 : 13 * cnt (aZ L) (L.n1 + L.n2) = L.n1 + L.n2) : lgC L = 0 := by rw [lgC, if_neg h, if_pos h2]
theorem lgC_text {L : Lo} (h : ¬ 4000 < L.n1 + L.n2) (h2 : ¬ 13 * cnt (aZ L) (L.n1 + L.n2) = L.n1 + L.n2) : lgC L = 5 := by rw [lgC, if_neg h, if_neg h2]
set_option maxHeartbeats 4000000 in
theorem readLog_any (L : Lo) (a1 a2 : Option Addr) (c1 c2 : Nat) (w : World) (hn1 : L.n1 ≤ 1048576) (hn2 : L.n2 ≤ 1048576) (hby : LogByt L) (h : LogAt w a1 a2 L) :
    Calls Tryz.prog 97 #[.agg #[.slice a1 L.n1 c1, .slice a2 L.n2 c2]] w (RlR L w) := by
  have hb0 : ∀ o1 o2, Below w.heap.size w ((w.alloc o1).alloc o2) := fun o1 o2 => ((Below.refl _ _).alloc (Nat.le_refl _) _).alloc (by simp) _
  have HA : Hid (∀ o1 o2, LogAt ((w.alloc o1).alloc o2) a1 a2 L) := fun o1 o2 => h.below (hb0 o1 o2)
  have HY : Hid (LogByt L) := hby
  have hwr : IntKind.i64.wrap ((L.n1 : Int) + (L.n2 : Int)) = (L.n1 : Int) + (L.n2 : Int) := by rw [IntKind.wrap_i64]; omega
  clear h hby
  by_cases hm : 4000 < L.n1 + L.n2
  · have hm' : 4000 < (L.n1 : Int) + (L.n2 : Int) := by omega
    have HC : Hid (lgC L = 2) := lgC_many hm
    go_enter Tryz.func97, Tryz.ntmps97
    go_wp2_with fail
    refine bodyPost_ret (v := .agg #[.int .i64 2, .int .i64 0, .slice none 0 0]) (by simp [results, Tryz.results97, go_sem]) rfl ?_
    refine ⟨none, 0, 0, 0, by rw [HC.out], by rw [HC.out]; exact ⟨rfl, rfl⟩, ?_, ?_, .inl rfl⟩
    · repeat (first | exact hb0 _ _ | refine Below.setCell ?_ (by first | omega | (simp <;> omega)) _)
    · exact Nat.le_refl _
  · have hm' : ¬ (4000 < (L.n1 : Int) + (L.n2 : Int)) := by omega
    go_enter Tryz.func97, Tryz.ntmps97
    go_wp2_with fail
    refine (joined_two L a1 a2 c1 c2 _ _ ?_ (by omega) (HA.out _ _)).mono ?_
    · simp
    rintro e w1 ⟨v1, rfl, hb1, hall⟩
    obtain ⟨ra, rc, rfl, hrc, ho1, hcond⟩ := hall
    obtain ⟨b, hcd⟩ := AllAt.cond (rc := rc) hcond
    have hz1 : w.heap.size + 2 ≤ w1.heap.size := by have := hb1.size; simp at this; omega
    obtain ⟨hcc, hff⟩ := bcell hb1
    have r0 : w1.cell? ⟨w.heap.size + 1, 0, none⟩ = some (.int .i64 0) := by rw [hcc _ _ (by simp <;> omega)]; simp [go_sem]
    have r1 : w1.cell? ⟨w.heap.size + 1, 1, none⟩ = some (.int .i64 0) := by rw [hcc _ _ (by simp <;> omega)]; simp [go_sem]
    have r2 : w1.cell? ⟨w.heap.size + 1, 2, none⟩ = some (.slice none 0 0) := by rw [hcc _ _ (by simp <;> omega)]; simp [go_sem]
    have fz : ∀ i, w1.frozen? ⟨w.heap.size + 1, i, none⟩ = false := fun i => by rw [hff _ _ (by simp <;> omega)]; simp [go_sem]
    have HB1 : Hid (Below w.heap.size w w1) := below_then (hb0 _ _) hb1
    have HCD : Hid (L.n1 + L.n2 = 0 ∨ ra = some ⟨b, 0, none⟩ ∧ b < w1.heap.size ∧ BA w1 b 0 (L.n1 + L.n2) (aZ L)) := hcd
    clear hcc hff hb1 hb0 ho1 hcond hcd
    go_wp2_with fail
    refine (implUr_any (L.n1 + L.n2) (aZ L) ra b 0 rc w1 hrc (by omega) (aZ_byt HY.out) HCD.out).mono ?_
    rintro e w2 ⟨rb, rcp, rfl, hb2, ho2⟩
    have s0 := cell_below r0 hb2
    have s1 := cell_below r1 hb2
    have s2 := cell_below r2 hb2
    have sf : ∀ i, w2.frozen? ⟨w.heap.size + 1, i, none⟩ = false := fun i => (hb2.frozen (p := ⟨w.heap.size + 1, i, none⟩) (by show w.heap.size + 1 < _; omega)).trans (fz i)
    have t0 := fun o : Obj => cell_alloc s0 o
    have t1 := fun o : Obj => cell_alloc s1 o
    have t2 := fun o : Obj => cell_alloc s2 o
    have tf : ∀ i c t, (w2.alloc (.cells c t)).frozen? ⟨w.heap.size + 1, i, none⟩ = false := fun i c t => by rw [frozen?_alloc_cells]; exact sf i
    have HB2 : Hid (Below w.heap.size w w2) := below_then HB1.out hb2
    have HO2 : Hid (Own8 w2 (w1.heap.size + 1) w2.heap.size rb (cnt (aZ L) (L.n1 + L.n2)) (zRs (aZ L))) := own8_of_row ho2
    have hcl := cnt_le (aZ L) (L.n1 + L.n2)
    by_cases hc : 13 * cnt (aZ L) (L.n1 + L.n2) = L.n1 + L.n2
    · have HC : Hid (lgC L = 0) := lgC_ok hm hc
      have hd : (13 * (cnt (aZ L) (L.n1 + L.n2) : Int) != ((L.n1 + L.n2 : Nat) : Int)) = false := by simp; omega
      generalize hcn : cnt (aZ L) (L.n1 + L.n2) = m at *
      have HM : Hid (cnt (aZ L) (L.n1 + L.n2) = m) := hcn
      clear hcn hc hcl hb2 ho2 s0 s1 s2 sf r0 r1 r2 fz
      go_wp2_with fail
      refine bodyPost_ret (v := .agg #[.int .i64 0, .int .i64 (13 * (m : Int)), .slice rb m rcp]) (by simp [results, Tryz.results97, go_sem, *]) rfl ?_
      have hw : ∀ w7, Writes (w.heap.size + 1) (w.heap.size + 2) (w2.alloc (.cells #[.int .i64 0, .int .i64 (13 * (m : Int)), .slice rb m rcp] 113)) w7 → w7.heap.size = (w2.alloc (.cells #[.int .i64 0, .int .i64 (13 * (m : Int)), .slice rb m rcp] 113)).heap.size → RlR L w (.returned (.agg #[.int .i64 0, .int .i64 (13 * (m : Int)), .slice rb m rcp])) w7 := fun w7 h7 e7 => by
        refine ⟨rb, rcp, 13 * (m : Int), m, by rw [HC.out], ⟨by rw [if_pos HC.out, HM.out], rfl⟩, Writes.below (HB2.out.alloc HB2.out.size _) h7 (by omega), ?_⟩
        rw [e7]
        have hz2 := HB2.out.size
        exact ((HO2.out.below (below_new _ _)).writes h7 (.inr (by omega))).wide (by omega) (by rw [World.size_alloc]; omega) (by have := h7.size; omega)
      refine hw _ ?_ (by simp [World.setCell])
      repeat (first | exact Writes.refl _ _ _ | apply Writes.drew | refine Writes.setCell ?_ (by first | omega | (simp <;> omega)) (by first | omega | (simp <;> omega)) _)
    · have HC : Hid (lgC L = 5) := lgC_text hm hc
      have hd : (13 * (cnt (aZ L) (L.n1 + L.n2) : Int) != ((L.n1 + L.n2 : Nat) : Int)) = true := by simp; omega
      generalize hcn : cnt (aZ L) (L.n1 + L.n2) = m at *
      clear hcn hc hcl hb2 ho2 s0 s1 s2 sf r0 r1 r2 fz
      go_wp2_with fail
      refine bodyPost_ret (v := .agg #[.int .i64 5, .int .i64 0, .slice none 0 0]) (by simp [results, Tryz.results97, go_sem, *]) rfl ?_
      refine ⟨none, 0, 0, 0, by rw [HC.out], by rw [HC.out]; exact ⟨rfl, rfl⟩, ?_, ?_, .inl rfl⟩
      · repeat (first | exact HB2.out.alloc HB2.out.size _ | refine Below.setCell ?_ (by first | omega | (simp <;> omega)) _)
      · exact Nat.le_refl _
theorem cells2 : Tryz.prog.cellsOf 2 = 1 := by kernel_rfl
theorem cells62 : Tryz.prog.cellsOf 26 = 2 := by kernel_rfl
theorem cells149 : Tryz.prog.cellsOf 127 = 3 := by kernel_rfl
theorem cells22 : Tryz.prog.cellsOf 27 = 1 := by kernel_rfl
theorem cells5 : Tryz.prog.cellsOf 5 = 1 := by kernel_rfl

theorem openBytes {H : Type} {enc : TypeId × Value → H} {W : World} {fuel : Nat} {cs : List Value} {x : DataW H × List MemPlace}
    (h : DataW.trod enc Tryz.prog W 0 (fun _ => true) true fuel 27 cs = some x) :
    ∃ (a : Option Addr) (n cap : Nat) (z : Nat → Int), cs = [.slice a n cap] ∧ n ≤ 9223372036854775807 ∧ Byt n z ∧ BytesAt W a n z ∧ n ≤ cap := by
  rcases open_ints Tryz.underlying27 Tryz.underlying5 cells5 h with ⟨rfl, _⟩ | ⟨a, l, c, zs, rfl, _, hl, hm, hz, _, hcell, hwz⟩
  · exact ⟨none, 0, 0, fun _ => 0, rfl, by omega, fun i hi => by omega, .inl rfl, Nat.le_refl _⟩
  · have hz' : zs.length = c := by simpa using hz
    unfold maxLen at hm
    refine ⟨some a, l, c, fun i => zs.getD i 0, rfl, by omega, fun i hi => ?_, ?_, hl⟩
    · have hin : zs.getD i 0 ∈ zs := by
        rw [List.getD_eq_getElem?_getD, List.getElem?_eq_getElem (by omega)]; simp
      have := hwz _ hin
      simpa [Lit.wf, IntKind.min, IntKind.max, IntKind.signed, IntKind.bits] using this
    · by_cases hz0 : l = 0
      · exact .inl hz0
      · obtain ⟨b, off, spot⟩ := a
        have hc0 := hcell 0 (by omega)
        have hspot : spot = none := by simpa [Addr.add] using World.cell?_spot hc0
        subst hspot
        exact .inr ⟨b, off, rfl, Go.block_lt_of_cell hc0, fun i hi => by have := hcell i (by omega); rwa [add_plain] at this⟩
theorem openPages {H : Type} {enc : TypeId × Value → H} {W : World} {fuel : Nat} {cs : List Value} {x : DataW H × List MemPlace}
    (h : DataW.trod enc Tryz.prog W 0 (fun _ => true) true fuel 23 cs = some x) :
    ∃ (a : Option Addr) (n cap : Nat) (L : Nat → Nat) (Z : Nat → Nat → Int), cs = [.slice a n cap] ∧ n ≤ 9223372036854775807 ∧ (∀ i, i < n → L i ≤ 9223372036854775807) ∧ (∀ i, i < n → Byt (L i) (Z i)) ∧ PagesAt W a n L Z := by
  rcases open_slice1 Tryz.underlying23 cells22 h with ⟨rfl, _⟩ | ⟨a, l, c, m, nn, V, D, Pl, rfl, _, hl, hm, hmm, _, hx⟩
  · exact ⟨none, 0, 0, fun _ => 0, fun _ _ => 0, rfl, by omega, fun i hi => by omega, fun i hi => by omega, .inl rfl⟩
  · have hmc : m = c := by simpa using hmm
    unfold maxLen at hm
    have each : ∀ i, i < l → ∃ q : (Option Addr × Nat) × (Nat × (Nat → Int)), V i = .slice q.1.1 q.2.1 q.1.2 ∧ q.2.1 ≤ 9223372036854775807 ∧ Byt q.2.1 q.2.2 ∧ BytesAt W q.1.1 q.2.1 q.2.2 ∧ q.2.1 ≤ q.1.2 := fun i hi => by
      obtain ⟨a', n', c', z', e, h1, h2, h3, h4⟩ := openBytes (hx i (by omega)).2
      simp only [List.cons.injEq, and_true] at e
      exact ⟨((a', c'), (n', z')), e, h1, h2, h3, h4⟩
    obtain ⟨q, hq⟩ := choose_lt each
    refine ⟨some a, l, c, fun i => (q i).2.1, fun i => (q i).2.2, rfl, by omega, fun i hi => (hq i hi).2.1, fun i hi => (hq i hi).2.2.1, ?_⟩
    by_cases hz0 : l = 0
    · exact .inl hz0
    · obtain ⟨b, off, spot⟩ := a
      have hc0 := (hx 0 (by omega)).1
      have hspot : spot = none := by simpa [Addr.add] using World.cell?_spot hc0
      subst hspot
      refine .inr ⟨b, off, rfl, Go.block_lt_of_cell hc0, fun i hi => ⟨(q i).1.1, (q i).1.2, ?_, (hq i hi).2.2.2⟩⟩
      have := (hx i (by omega)).1
      rw [add_plain, (hq i hi).1] at this
      exact this
theorem openLooses {H : Type} {enc : TypeId × Value → H} {W : World} {fuel : Nat} {cs : List Value} {x : DataW H × List MemPlace}
    (h : DataW.trod enc Tryz.prog W 0 (fun _ => true) true fuel 24 cs = some x) :
    ∃ (a : Option Addr) (n cap : Nat) (P T : Nat → Int) (L : Nat → Nat) (Z : Nat → Nat → Int), cs = [.slice a n cap] ∧ n ≤ 9223372036854775807 ∧ (∀ i, i < n → L i ≤ 9223372036854775807) ∧ (∀ i, i < n → Byt (L i) (Z i)) ∧ LoosesAt W a n P T L Z := by
  rcases open_slice Tryz.underlying24 h with ⟨rfl, _⟩ | ⟨a, l, c, m, nn, D, Pl, rfl, _, hl, hm, hmm, _, hx⟩
  · exact ⟨none, 0, 0, fun _ => 0, fun _ => 0, fun _ => 0, fun _ _ => 0, rfl, by omega, fun i hi => by omega, fun i hi => by omega, .inl rfl⟩
  · have hmc : m = c := by simpa using hmm
    unfold maxLen at hm
    rw [cells149] at hx
    have each : ∀ i, i < l → ∃ q : (Int × Int) × (Option Addr × Nat) × (Nat × (Nat → Int)), W.cell? (a.add (i * 3)) = some (.int .i64 q.1.1) ∧ W.cell? (a.add (i * 3 + 1)) = some (.int .i64 q.1.2) ∧ W.cell? (a.add (i * 3 + 2)) = some (.slice q.2.1.1 q.2.2.1 q.2.1.2) ∧ q.2.2.1 ≤ 9223372036854775807 ∧ Byt q.2.2.1 q.2.2.2 ∧ BytesAt W q.2.1.1 q.2.2.1 q.2.2.2 ∧ q.2.2.1 ≤ q.2.1.2 := fun i hi => by
      obtain ⟨cs', h1, h2⟩ := hx i (by omega)
      obtain ⟨_, hlen, hcell⟩ := World.cells?_some h1
      obtain ⟨xs, k, hk, hxy, _, hxl, hf⟩ := DataW.trod_struct Tryz.underlying127 h2
      match xs, hxl, cs', hlen with
      | [y0, y1, y2], _, [v0, v1, v2], _ =>
        have g0 := hf 0 _ rfl
        have g1 := hf 1 _ rfl
        have g2 := hf 2 _ rfl
        simp [cells2, cells22] at g0 g1 g2
        have e0 := hcell 0 (by omega)
        have e1 := hcell 1 (by omega)
        have e2 := hcell 2 (by omega)
        rw [add_add] at e0 e1 e2
        obtain ⟨z0, f0, _, _⟩ := DataW.trod_int Tryz.underlying2 g0
        obtain ⟨z1, f1, _, _⟩ := DataW.trod_int Tryz.underlying2 g1
        obtain ⟨a', n', c', z', f2, k1, k2, k3, k4⟩ := openBytes g2
        simp at f0 f1 f2
        subst f0 f1 f2
        exact ⟨((z0, z1), (a', c'), (n', z')), by simpa using e0, by simpa using e1, by simpa using e2, k1, k2, k3, k4⟩
    obtain ⟨q, hq⟩ := choose_lt each
    refine ⟨some a, l, c, fun i => (q i).1.1, fun i => (q i).1.2, fun i => (q i).2.2.1, fun i => (q i).2.2.2, rfl, by omega, fun i hi => (hq i hi).2.2.2.1, fun i hi => (hq i hi).2.2.2.2.1, ?_⟩
    by_cases hz0 : l = 0
    · exact .inl hz0
    · obtain ⟨b, off, spot⟩ := a
      have hc0 := (hq 0 (by omega)).1
      have hspot : spot = none := by simpa [Addr.add] using World.cell?_spot hc0
      subst hspot
      refine .inr ⟨b, off, rfl, Go.block_lt_of_cell hc0, fun i hi => ?_⟩
      obtain ⟨k0, k1, k2, _, _, k3⟩ := hq i hi
      rw [add_plain] at k0 k1 k2
      exact ⟨k0, by rw [Nat.add_assoc]; exact k1, (q i).2.1.1, (q i).2.1.2, by rw [Nat.add_assoc]; exact k2, k3⟩
structure DiskByt (D : Dk) : Prop where
  p : ∀ i, i < D.n → Byt (D.L i) (D.Z i)
  l : ∀ i, i < D.m → Byt (D.M i) (D.Y i)
/-- A log in blocks of its own. -/
def OwnG (w : World) (lo hi : Nat) (a1 a2 : Option Addr) (L : Lo) : Prop := hi ≤ w.heap.size ∧ ∃ l1 h1 l2 h2, lo ≤ l1 ∧ h1 ≤ hi ∧ lo ≤ l2 ∧ h2 ≤ hi ∧ (h1 ≤ l2 ∨ h2 ≤ l1) ∧ OwnB w l1 h1 a1 L.n1 L.z1 ∧ OwnB w l2 h2 a2 L.n2 L.z2
theorem OwnG.at {w : World} {lo hi : Nat} {a1 a2 : Option Addr} {L : Lo} (h : OwnG w lo hi a1 a2 L) : LogAt w a1 a2 L := by
  obtain ⟨_, l1, h1, l2, h2, _, _, _, _, _, hp, hl⟩ := h
  exact ⟨hp.at, hl.at⟩
theorem OwnG.writes {w w' : World} {lo hi lo' hi' : Nat} {a1 a2 : Option Addr} {L : Lo} (h : OwnG w lo hi a1 a2 L) (hw : Writes lo' hi' w w') (hd : hi ≤ lo' ∨ hi' ≤ lo) : OwnG w' lo hi a1 a2 L := by
  obtain ⟨h0, l1, h1, l2, h2, k1, k2, k3, k4, k5, hp, hl⟩ := h
  exact ⟨Nat.le_trans h0 hw.size, l1, h1, l2, h2, k1, k2, k3, k4, k5, hp.writes hw (by omega), hl.writes hw (by omega)⟩
theorem OwnG.below {w w' : World} {lo hi : Nat} {a1 a2 : Option Addr} {L : Lo} (h : OwnG w lo hi a1 a2 L) (hb : Below w.heap.size w w') : OwnG w' lo hi a1 a2 L :=
  h.writes (Writes.of_below (lo := hi) (hi := hi) hb) (.inl (Nat.le_refl _))
theorem OwnG.wide {w : World} {lo hi lo' hi' : Nat} {a1 a2 : Option Addr} {L : Lo} (h : OwnG w lo hi a1 a2 L) (e1 : lo' ≤ lo) (e2 : hi ≤ hi') (e3 : hi' ≤ w.heap.size) : OwnG w lo' hi' a1 a2 L := by
  obtain ⟨h0, l1, h1, l2, h2, k1, k2, k3, k4, k5, hp, hl⟩ := h
  exact ⟨e3, l1, h1, l2, h2, by omega, by omega, by omega, by omega, k5, hp, hl⟩
theorem ownB_rowIs {w : World} {b n lo : Nat} {z : Nat → Int} (h : w.rowIs b 5 n (fun i => .int .u8 (z i))) (hl : lo ≤ b) : OwnB w lo w.heap.size (some ⟨b, 0, none⟩) n z := by
  have r := Row1.of_row h
  exact ⟨Nat.le_refl _, .inr ⟨b, 0, rfl, hl, h.lt, r.1, r.2⟩⟩
set_option maxHeartbeats 800000 in
theorem toLog_any (L : Lo) (a1 a2 : Option Addr) (c1 c2 : Nat) (w : World) (hn1 : L.n1 ≤ 1048576) (hn2 : L.n2 ≤ 1048576) (h : LogAt w a1 a2 L) :
    Calls Tryz.prog 26 #[.agg #[.slice a1 L.n1 c1, .slice a2 L.n2 c2]] w fun e w' =>
      ∃ b b', e = .returned (.agg #[.slice (some ⟨b, 0, none⟩) L.n1 L.n1, .slice (some ⟨b', 0, none⟩) L.n2 L.n2]) ∧ Below w.heap.size w w' ∧ OwnG w' w.heap.size w'.heap.size (some ⟨b, 0, none⟩) (some ⟨b', 0, none⟩) L := by
  obtain ⟨n, z, m, y⟩ := L
  obtain ⟨h1, h2⟩ := h
  dsimp only at *
  have HA : Hid (BytesAt w a1 n z) := h1
  have HA' : Hid (BytesAt w a2 m y) := h2
  clear h1 h2
  go_enter Tryz.func26, Tryz.ntmps26
  go_wp2_with fail
  have hb0 : ∀ o1 o2 o3, Below w.heap.size w (((w.alloc o1).alloc o2).alloc o3) := fun o1 o2 o3 => (((Below.refl _ _).alloc (Nat.le_refl _) _).alloc (by simp) _).alloc (by simp; omega) _
  have e3 : ∀ o1 o2 o3 : Obj, (((w.alloc o1).alloc o2).alloc o3).heap.size = w.heap.size + 3 := fun _ _ _ => by simp
  refine (toByteS_any n z a1 c1 _ (by omega) (HA.out.below (hb0 _ _ _))).mono ?_
  rintro e w1 ⟨rfl, hb1, ho1⟩
  obtain ⟨hc, hf⟩ := bcell hb1
  have hz : w.heap.size + 2 < w1.heap.size := by have := hb1.size; rw [e3] at this; omega
  have q0 : w1.cell? ⟨w.heap.size, 0, none⟩ = some (.slice a1 n c1) := by rw [hc _ _ (by simp <;> omega)]; simp [go_sem]
  have q1 : w1.cell? ⟨w.heap.size, 1, none⟩ = some (.slice a2 m c2) := by rw [hc _ _ (by simp <;> omega)]; simp [go_sem]
  have r0 : w1.cell? ⟨w.heap.size + 1, 0, none⟩ = some (.slice none 0 0) := by rw [hc _ _ (by simp <;> omega)]; simp [go_sem]
  have r1 : w1.cell? ⟨w.heap.size + 1, 1, none⟩ = some (.slice none 0 0) := by rw [hc _ _ (by simp <;> omega)]; simp [go_sem]
  have s0 : w1.cell? ⟨w.heap.size + 2, 0, none⟩ = some (.slice none 0 0) := by rw [hc _ _ (by simp <;> omega)]; simp [go_sem]
  have s1 : w1.cell? ⟨w.heap.size + 2, 1, none⟩ = some (.slice none 0 0) := by rw [hc _ _ (by simp <;> omega)]; simp [go_sem]
  have f1 : ∀ i, w1.frozen? ⟨w.heap.size + 1, i, none⟩ = false := fun i => by rw [hf _ _ (by simp <;> omega)]; simp [go_sem]
  have f2 : ∀ i, w1.frozen? ⟨w.heap.size + 2, i, none⟩ = false := fun i => by rw [hf _ _ (by simp <;> omega)]; simp [go_sem]
  have HB : Hid (Below w.heap.size w w1) := below_then (hb0 _ _ _) hb1
  rw [e3] at ho1
  have HO : Hid (OwnB w1 (w.heap.size + 3) w1.heap.size (some ⟨w.heap.size + 3, 0, none⟩) n z) := ownB_rowIs ho1 (Nat.le_refl _)
  clear hc hf hb1 ho1 hb0 e3
  go_wp2_with fail
  have HB' : Hid (Below w.heap.size w (w1.setCell ⟨w.heap.size + 1 + 1, 0, none⟩ (.slice (some ⟨w.heap.size + 1 + 1 + 1, 0, none⟩) n n))) := HB.out.setCell (by simp <;> omega) _
  refine (toByteS_any m y a2 c2 _ (by omega) (HA'.out.below HB'.out)).mono ?_
  rintro e w2 ⟨rfl, hb2, ho2⟩
  obtain ⟨hc, hf⟩ := bcell hb2
  have es : (w1.setCell ⟨w.heap.size + 1 + 1, 0, none⟩ (.slice (some ⟨w.heap.size + 1 + 1 + 1, 0, none⟩) n n)).heap.size = w1.heap.size := by simp [World.setCell]
  rw [es] at hc hf ho2
  have t0 : w2.cell? ⟨w.heap.size + 1, 0, none⟩ = some (.slice none 0 0) := by rw [hc _ _ (by omega)]; rw [World.cell?_setCell_other _ _ _ _ (by simp), r0]
  have t1 : w2.cell? ⟨w.heap.size + 1, 1, none⟩ = some (.slice none 0 0) := by rw [hc _ _ (by omega)]; rw [World.cell?_setCell_other _ _ _ _ (by simp), r1]
  have u0 : w2.cell? ⟨w.heap.size + 1 + 1, 0, none⟩ = some (.slice (some ⟨w.heap.size + 1 + 1 + 1, 0, none⟩) n n) := by rw [hc _ _ (by omega)]; exact setS s0
  have u1 : w2.cell? ⟨w.heap.size + 1 + 1, 1, none⟩ = some (.slice none 0 0) := by rw [hc _ _ (by omega)]; rw [setO (by omega), s1]
  have k1 : ∀ i, w2.frozen? ⟨w.heap.size + 1, i, none⟩ = false := fun i => by rw [hf _ _ (by omega), World.frozen?_setCell]; exact f1 i
  have k2 : ∀ i, w2.frozen? ⟨w.heap.size + 1 + 1, i, none⟩ = false := fun i => by rw [hf _ _ (by omega), World.frozen?_setCell]; exact f2 i
  have HB2 : Hid (Below w.heap.size w w2) := below_then HB'.out hb2
  have HP : Hid (OwnB w2 (w.heap.size + 3) w1.heap.size (some ⟨w.heap.size + 3, 0, none⟩) n z) := by
    have h := HO.out.writes (lo' := w.heap.size) (hi' := w.heap.size + 3) (Writes.setCell (Writes.refl _ _ _) (p := ⟨w.heap.size + 1 + 1, 0, none⟩) (by simp <;> omega) (by simp <;> omega) (.slice (some ⟨w.heap.size + 1 + 1 + 1, 0, none⟩) n n)) (.inr (Nat.le_refl _))
    exact h.below hb2
  have HQ : Hid (OwnB w2 w1.heap.size w2.heap.size (some ⟨w1.heap.size, 0, none⟩) m y) := ownB_rowIs ho2 (Nat.le_refl _)
  rw [es]
  have hs2 : w1.heap.size ≤ w2.heap.size := by have := hb2.size; rw [es] at this; exact this
  clear hc hf hb2 ho2 es q0 q1 r0 r1 s0 s1 f1 f2 HB'
  go_wp2_with fail
  refine bodyPost_ret (v := .agg #[.slice (some ⟨w.heap.size + 3, 0, none⟩) n n, .slice (some ⟨w1.heap.size, 0, none⟩) m m]) (by simp [results, Tryz.results26, go_sem, *]) rfl ⟨_, _, rfl, ?_, ?_⟩
  · repeat (first | exact HB2.out | refine Below.setCell ?_ (by first | omega | (simp <;> omega)) _)
  · have hw : ∀ w3, Writes w.heap.size (w.heap.size + 3) w2 w3 → w3.heap.size = w2.heap.size → OwnG w3 w.heap.size w3.heap.size (some ⟨w.heap.size + 3, 0, none⟩) (some ⟨w1.heap.size, 0, none⟩) ⟨n, z, m, y⟩ := fun w3 h e =>
      ⟨Nat.le_refl _, w.heap.size + 3, w1.heap.size, w1.heap.size, w2.heap.size, by omega, by omega, by omega, by omega, .inl (Nat.le_refl _), HP.out.writes h (.inr (Nat.le_refl _)), HQ.out.writes h (.inr (by omega))⟩
    refine hw _ ?_ (by simp [World.setCell])
    repeat (first | exact Writes.refl _ _ _ | refine Writes.setCell ?_ (by first | omega | (simp <;> omega)) (by first | omega | (simp <;> omega)) _)
theorem eqLog_same (L : Lo) (a1 a2 b1 b2 : Option Addr) (c1 c2 d1 d2 : Nat) (w : World) (hn1 : L.n1 ≤ 1048576) (hn2 : L.n2 ≤ 1048576) (h : LogAt w a1 a2 L) (h' : LogAt w b1 b2 L) :
    Calls Tryz.prog 32 #[.agg #[.slice a1 L.n1 c1, .slice a2 L.n2 c2], .agg #[.slice b1 L.n1 d1, .slice b2 L.n2 d2]] w fun e w' => e = .returned (.bool true) ∧ Below w.heap.size w w' := by
  have hb0 : ∀ o1 o2, Below w.heap.size w ((w.alloc o1).alloc o2) := fun o1 o2 => ((Below.refl _ _).alloc (Nat.le_refl _) _).alloc (by simp) _
  have H1 : Hid (LogAt w a1 a2 L) := h
  have H2 : Hid (LogAt w b1 b2 L) := h'
  clear h h'
  go_enter Tryz.func32, Tryz.ntmps32
  go_wp2_with fail
  refine (eqByteS_any L.n1 L.z1 a1 b1 c1 d1 _ (by omega) (H1.out.1.below (hb0 _ _)) (H2.out.1.below (hb0 _ _))).mono ?_
  rintro e w1 ⟨rfl, hb1⟩
  obtain ⟨hc, hf⟩ := bcell hb1
  have q1 : w1.cell? ⟨w.heap.size, 1, none⟩ = some (.slice a2 L.n2 c2) := by rw [hc _ _ (by simp <;> omega)]; simp [go_sem]
  have r1 : w1.cell? ⟨w.heap.size + 1, 1, none⟩ = some (.slice b2 L.n2 d2) := by rw [hc _ _ (by simp <;> omega)]; simp [go_sem]
  have HB1 : Hid (Below w.heap.size w w1) := below_then (hb0 _ _) hb1
  clear hc hf hb1 hb0
  go_wp2_with fail
  refine (eqByteS_any L.n2 L.z2 a2 b2 c2 d2 _ (by omega) (H1.out.2.below HB1.out) (H2.out.2.below HB1.out)).mono ?_
  rintro e w2 ⟨rfl, hb2⟩
  go_wp2_with fail
  go_ret
  exact ⟨rfl, below_then HB1.out hb2⟩
/-- A log with marks from m on. -/
def mG (m : Int) (L : Lo) : Lo := ⟨L.n1, bk m, L.n2, bk (m + L.n1)⟩
theorem cellsLog : Tryz.prog.cellsOf 29 = 2 := by kernel_rfl
structure Sto where
  nx : Int
  pn : Nat
  pT : Nat → Pg
  d : Dk
  g : Lo
  hn : Nat
  hK : Nat → Int
  hV : Nat → Int
  on : Nat
  oF : Nat → Int
def BigD (d : Dk) : Prop := d.n ≤ 9223372036854775807 ∧ (∀ i, i < d.n → d.L i ≤ 9223372036854775807) ∧ d.m ≤ 9223372036854775807 ∧ (∀ i, i < d.m → d.M i ≤ 9223372036854775807)
def BigSt (t : Sto) : Prop := (t.pn ≤ 9223372036854775807 ∧ ∀ i, i < t.pn → BigPg (t.pT i)) ∧ BigD t.d ∧ (t.g.n1 ≤ 9223372036854775807 ∧ t.g.n2 ≤ 9223372036854775807) ∧ t.hn ≤ 9223372036854775807 ∧ t.on ≤ 9223372036854775807
def SmSt (t : Sto) : Prop := (t.pn ≤ 1048576 ∧ (∀ i, i < t.pn → SmPg (t.pT i)) ∧ smPg t.pT t.pn ≤ 1048576) ∧ Small t.d ∧ (t.g.n1 ≤ 1048576 ∧ t.g.n2 ≤ 1048576) ∧ t.hn ≤ 1048576 ∧ t.on ≤ 1048576
/-- How many elements its slices have. -/
def szSt (t : Sto) : Nat := t.pn + smPg t.pT t.pn + (t.d.n + sumL t.d.L t.d.n + t.d.m + sumL t.d.M t.d.m) + (t.g.n1 + t.g.n2) + t.hn + t.on
theorem smallSt {t : Sto} (h : 0 ≤ (1048576 : Int) - szSt t) : SmSt t := by
  unfold szSt at h
  refine ⟨⟨by omega, fun i hi => ?_, by omega⟩, small_of (by omega), ⟨by omega, by omega⟩, by omega, by omega⟩
  have := smf9_ge (fun i => szPg (t.pT i)) t.pn i hi
  unfold smPg at h
  unfold szPg at *
  exact ⟨by omega, trivial⟩
/-- What its slices hold. -/
def InSt (w : World) (a0 a1 a2 a3 a4 a5 a6 : Option Addr) (t : Sto) : Prop := PgsAt w a0 t.pn t.pT ∧ DiskAt w a1 a2 t.d ∧ LogAt w a3 a4 t.g ∧ CellsAt w a5 t.hn t.hK t.hV ∧ IntsAt w a6 t.on t.oF
theorem InSt.below {w w' : World} {a0 a1 a2 a3 a4 a5 a6 : Option Addr} {t : Sto} (h : InSt w a0 a1 a2 a3 a4 a5 a6 t) (hb : Below w.heap.size w w') : InSt w' a0 a1 a2 a3 a4 a5 a6 t := by
  obtain ⟨h0, h1, h2, h3, h4⟩ := h
  exact ⟨h0.below hb, h1.below hb, h2.below hb, h3.below hb, h4.below hb⟩
/-- In blocks of their own, one behind the other, from l on, below h. -/
def OwnInSt (w : World) (l h : Nat) (a0 a1 a2 a3 a4 a5 a6 : Option Addr) (t : Sto) : Prop := ∃ m0 m1 m2 m3 m4 m5, l ≤ m0 ∧ m0 ≤ m1 ∧ m1 ≤ m2 ∧ m2 ≤ m3 ∧ m3 ≤ m4 ∧ m4 ≤ m5 ∧ m5 ≤ h ∧ h ≤ w.heap.size ∧ OwnPg w m0 m1 a0 t.pn t.pT ∧ OwnD w m1 m2 a1 a2 t.d ∧ OwnG w m2 m3 a3 a4 t.g ∧ Own w m3 m4 a5 t.hn t.hK t.hV ∧ OwnI w m4 m5 a6 t.on t.oF
theorem OwnInSt.writes {w w' : World} {l h lo' hi' : Nat} {a0 a1 a2 a3 a4 a5 a6 : Option Addr} {t : Sto} (k : OwnInSt w l h a0 a1 a2 a3 a4 a5 a6 t) (hw : Writes lo' hi' w w') (hd : h ≤ lo' ∨ hi' ≤ l) : OwnInSt w' l h a0 a1 a2 a3 a4 a5 a6 t := by
  obtain ⟨m0, m1, m2, m3, m4, m5, g0, g1, g2, g3, g4, g5, g6, gz, k0, k1, k2, k3, k4⟩ := k
  exact ⟨m0, m1, m2, m3, m4, m5, g0, g1, g2, g3, g4, g5, g6, Nat.le_trans gz hw.size, k0.writes hw (by omega), k1.writes hw (by omega), k2.writes hw (by omega), k3.writes hw (by omega), k4.writes hw (by omega)⟩
theorem OwnInSt.at {w : World} {l h : Nat} {a0 a1 a2 a3 a4 a5 a6 : Option Addr} {t : Sto} (k : OwnInSt w l h a0 a1 a2 a3 a4 a5 a6 t) : InSt w a0 a1 a2 a3 a4 a5 a6 t := by
  obtain ⟨m0, m1, m2, m3, m4, m5, g0, g1, g2, g3, g4, g5, g6, gz, k0, k1, k2, k3, k4⟩ := k
  exact ⟨k0.at, k1.at, k2.at, k3.at, k4.at⟩
theorem OwnInSt.below {w w' : World} {l h : Nat} {a0 a1 a2 a3 a4 a5 a6 : Option Addr} {t : Sto} (k : OwnInSt w l h a0 a1 a2 a3 a4 a5 a6 t) (hb : Below w.heap.size w w') : OwnInSt w' l h a0 a1 a2 a3 a4 a5 a6 t :=
  k.writes (Writes.of_below (lo := h) (hi := h) hb) (.inl (Nat.le_refl _))
theorem OwnInSt.wide {w : World} {l h l' h' : Nat} {a0 a1 a2 a3 a4 a5 a6 : Option Addr} {t : Sto} (k : OwnInSt w l h a0 a1 a2 a3 a4 a5 a6 t) (h1 : l' ≤ l) (h2 : h ≤ h') (h3 : h' ≤ w.heap.size) : OwnInSt w l' h' a0 a1 a2 a3 a4 a5 a6 t := by
  obtain ⟨m0, m1, m2, m3, m4, m5, g0, g1, g2, g3, g4, g5, g6, gz, k0, k1, k2, k3, k4⟩ := k
  exact ⟨m0, m1, m2, m3, m4, m5, by omega, by omega, by omega, by omega, by omega, by omega, by omega, h3, k0, k1, k2, k3, k4⟩
/-! ### sizes -/
theorem szDisk_xx (n m : Nat) (L : Nat → Nat) (Z : Nat → Nat → Int) (P T : Nat → Int) (L' : Nat → Nat) (Z' : Nat → Nat → Int) (a a' : Option Addr) (cap cap' : Nat) (x : Int) (w : World) (hx0 : 0 ≤ x) (hx1 : x ≤ 1048576)
    (hn : n ≤ 9223372036854775807) (hL : ∀ i, i < n → L i ≤ 9223372036854775807) (hm : m ≤ 9223372036854775807) (hL' : ∀ i, i < m → L' i ≤ 9223372036854775807) (h : PagesAt w a n L Z) (h' : LoosesAt w a' m P T L' Z') :
    Calls Tryz.prog 17 #[.agg #[.slice a n cap, .slice a' m cap'], .int .i64 x] w fun e w' => Below w.heap.size w w' ∧ ∃ r : Int, e = .returned (.int .i64 r) ∧ (r = -1 ∨ (0 ≤ r ∧ r = x - n - sumL L n - m - sumL L' m)) := by
  have HL : Hid (∀ i, i < n → L i ≤ 9223372036854775807) := hL
  have HL' : Hid (∀ i, i < m → L' i ≤ 9223372036854775807) := hL'
  have HA : Hid (PagesAt w a n L Z) := h
  have HA' : Hid (LoosesAt w a' m P T L' Z') := h'
  clear hL hL' h h'
  go_enter Tryz.func17, Tryz.ntmps17
  go_wp2_with fail
  refine (szByteSS_any n L Z a cap x _ hn HL.out (by omega) (by omega) (HA.out.below (below_new _ _))).mono ?_
  rintro e w1 ⟨rfl, r, rfl, hr⟩
  rcases hr with rfl | ⟨hr0, hr1⟩
  · go_wp2
    go_ret
    exact ⟨below_new _ _, _, rfl, .inl rfl⟩
  · have hr2 : r ≤ 1048576 := by omega
    have HR : Hid (r = x - n - sumL L n) := hr1
    clear hr1
    go_wp2_with fail
    refine (szLooseS_any m P T L' Z' a' cap' r _ hm HL'.out hr0 hr2 (HA'.out.below (below_new _ _))).mono ?_
    rintro e w2 ⟨hb, s, rfl, hs⟩
    have HB := below_then (below_new w _) hb
    rcases hs with rfl | ⟨hs0, hs1⟩
    · go_wp2
      go_ret
      exact ⟨HB, _, rfl, .inl rfl⟩
    · have HS : Hid (s = r - m - sumL L' m) := hs1
      clear hs1
      go_wp2
      go_ret
      exact ⟨HB, _, rfl, .inr ⟨hs0, by rw [HS.out, HR.out]⟩⟩
theorem szDisk_x (d : Dk) (a a' : Option Addr) (cap cap' : Nat) (x : Int) (w : World) (h1 : d.n ≤ 9223372036854775807) (h2 : ∀ i, i < d.n → d.L i ≤ 9223372036854775807) (h3 : d.m ≤ 9223372036854775807) (h4 : ∀ i, i < d.m → d.M i ≤ 9223372036854775807) (hx0 : 0 ≤ x) (hx1 : x ≤ 1048576) (h : DiskAt w a a' d) :
    Calls Tryz.prog 17 #[.agg #[.slice a d.n cap, .slice a' d.m cap'], .int .i64 x] w fun e w' => Below w.heap.size w w' ∧ ∃ r : Int, e = .returned (.int .i64 r) ∧ (r = -1 ∨ (0 ≤ r ∧ r = x - d.n - sumL d.L d.n - d.m - sumL d.M d.m)) :=
  szDisk_xx d.n d.m d.L d.Z d.P d.T d.M d.Y a a' cap cap' x w hx0 hx1 h1 h2 h3 h4 h.1 h.2
theorem szLog_x (L : Lo) (a1 a2 : Option Addr) (c1 c2 : Nat) (x : Int) (w : World) (hn1 : L.n1 ≤ 9223372036854775807) (hn2 : L.n2 ≤ 9223372036854775807) (hx0 : 0 ≤ x) (hx1 : x ≤ 1048576) :
    Calls Tryz.prog 18 #[.agg #[.slice a1 L.n1 c1, .slice a2 L.n2 c2], .int .i64 x] w fun e w' => Below w.heap.size w w' ∧ ∃ r : Int, e = .returned (.int .i64 r) ∧ (r = -1 ∨ (0 ≤ r ∧ r = x - L.n1 - L.n2)) := by
  go_enter Tryz.func18, Tryz.ntmps18
  go_wp2_with fail
  refine (szByteS_any L.n1 a1 c1 x _ hn1 (by omega) (by omega)).mono ?_
  rintro e w1 ⟨rfl, rfl⟩
  by_cases h1 : x - L.n1 < 0
  · rw [if_pos h1]
    go_wp2_with fail
    go_ret
    exact ⟨below_new _ _, _, rfl, .inl rfl⟩
  · rw [if_neg h1]
    go_wp2_with fail
    refine (szByteS_any L.n2 a2 c2 (x - L.n1) _ hn2 (by omega) (by omega)).mono ?_
    rintro e w2 ⟨rfl, rfl⟩
    by_cases h2 : x - L.n1 - L.n2 < 0
    · rw [if_pos h2]
      go_wp2_with fail
      go_ret
      exact ⟨below_new _ _, _, rfl, .inl rfl⟩
    · rw [if_neg h2]
      go_wp2_with fail
      go_ret
      exact ⟨below_new _ _, _, rfl, .inr ⟨by omega, rfl⟩⟩
set_option maxHeartbeats 2000000 in
theorem szStore_any (t : Sto) (a0 : Option Addr) (c0 : Nat) (a1 : Option Addr) (c1 : Nat) (a2 : Option Addr) (c2 : Nat) (a3 : Option Addr) (c3 : Nat) (a4 : Option Addr) (c4 : Nat) (a5 : Option Addr) (c5 : Nat) (a6 : Option Addr) (c6 : Nat) (x : Int) (w : World) (hB : BigSt t) (h0 : 0 ≤ x) (h1 : x ≤ 1048576) (h : InSt w a0 a1 a2 a3 a4 a5 a6 t) :
    Calls Tryz.prog 4 #[.agg #[.int .i64 t.nx, .slice a0 t.pn c0, .slice a1 t.d.n c1, .slice a2 t.d.m c2, .slice a3 t.g.n1 c3, .slice a4 t.g.n2 c4, .slice a5 t.hn c5, .slice a6 t.on c6], .int .i64 x] w fun e w' => Below w.heap.size w w' ∧ ∃ r : Int, e = .returned (.int .i64 r) ∧ (r = -1 ∨ (0 ≤ r ∧ r = x - szSt t)) := by
  obtain ⟨hB0, hB1, hB2, hB3, hB4⟩ := hB
  have HA : Hid (InSt w a0 a1 a2 a3 a4 a5 a6 t) := h
  have HZ : Hid (szSt t = t.pn + smPg t.pT t.pn + (t.d.n + sumL t.d.L t.d.n + t.d.m + sumL t.d.M t.d.m) + (t.g.n1 + t.g.n2) + t.hn + t.on) := rfl
  clear h
  go_enter Tryz.func4, Tryz.ntmps4
  go_wp2_with fail
  refine (szPageS_any t.pn t.pT a0 c0 x _ hB0.1 hB0.2 (by omega) (by omega) ((HA.out.1).below (below_new _ _))).mono ?_
  rintro e w1 ⟨hb, r0, rfl, hr⟩
  have HB1 : Hid (Below w.heap.size w w1) := below_then (below_new _ _) hb
  have q1 : w1.cell? ⟨w.heap.size, 2, none⟩ = some (.slice a1 t.d.n c1) := by rw [(bcell29 hb).1 _ _ (by simp)]; simp [go_sem]
  have q2 : w1.cell? ⟨w.heap.size, 3, none⟩ = some (.slice a2 t.d.m c2) := by rw [(bcell29 hb).1 _ _ (by simp)]; simp [go_sem]
  have q3 : w1.cell? ⟨w.heap.size, 4, none⟩ = some (.slice a3 t.g.n1 c3) := by rw [(bcell29 hb).1 _ _ (by simp)]; simp [go_sem]
  have q4 : w1.cell? ⟨w.heap.size, 5, none⟩ = some (.slice a4 t.g.n2 c4) := by rw [(bcell29 hb).1 _ _ (by simp)]; simp [go_sem]
  have q5 : w1.cell? ⟨w.heap.size, 6, none⟩ = some (.slice a5 t.hn c5) := by rw [(bcell29 hb).1 _ _ (by simp)]; simp [go_sem]
  have q6 : w1.cell? ⟨w.heap.size, 7, none⟩ = some (.slice a6 t.on c6) := by rw [(bcell29 hb).1 _ _ (by simp)]; simp [go_sem]
  clear hb
  rcases hr with rfl | ⟨hr0, hr1⟩
  · go_wp2_with fail
    go_ret
    exact ⟨HB1.out, _, rfl, .inl rfl⟩
  have hng0 : ¬ r0 < 0 := by omega
  have HR0 : Hid (r0 = x - t.pn - smPg t.pT t.pn) := hr1
  have hle0 : r0 ≤ 1048576 := by omega
  clear hr1
  go_wp2_with fail
  refine (szDisk_x t.d a1 a2 c1 c2 r0 _ hB1.1 hB1.2.1 hB1.2.2.1 hB1.2.2.2 (by omega) (by omega) ((HA.out.2.1).below HB1.out)).mono ?_
  rintro e w2 ⟨hb, r1, rfl, hr⟩
  have HB2 : Hid (Below w.heap.size w w2) := below_then HB1.out hb
  replace q3 := cell_below q3 hb
  replace q4 := cell_below q4 hb
  replace q5 := cell_below q5 hb
  replace q6 := cell_below q6 hb
  clear hb
  rcases hr with rfl | ⟨hr0, hr1⟩
  · go_wp2_with fail
    go_ret
    exact ⟨HB2.out, _, rfl, .inl rfl⟩
  have hng1 : ¬ r1 < 0 := by omega
  have HR1 : Hid (r1 = r0 - t.d.n - sumL t.d.L t.d.n - t.d.m - sumL t.d.M t.d.m) := hr1
  have hle1 : r1 ≤ 1048576 := by omega
  clear hr1
  go_wp2_with fail
  refine (szLog_x t.g a3 a4 c3 c4 r1 _ hB2.1 hB2.2 (by omega) (by omega)).mono ?_
  rintro e w3 ⟨hb, r2, rfl, hr⟩
  have HB3 : Hid (Below w.heap.size w w3) := below_then HB2.out hb
  replace q5 := cell_below q5 hb
  replace q6 := cell_below q6 hb
  clear hb
  rcases hr with rfl | ⟨hr0, hr1⟩
  · go_wp2_with fail
    go_ret
    exact ⟨HB3.out, _, rfl, .inl rfl⟩
  have hng2 : ¬ r2 < 0 := by omega
  have HR2 : Hid (r2 = r1 - t.g.n1 - t.g.n2) := hr1
  have hle2 : r2 ≤ 1048576 := by omega
  clear hr1
  go_wp2_with fail
  refine (szHeldS_r t.hn a5 c5 r2 _ hB3 (by omega) (by omega)).mono ?_
  rintro e w4 ⟨hb, r3, rfl, hr⟩
  have HB4 : Hid (Below w.heap.size w w4) := below_then HB3.out hb
  replace q6 := cell_below q6 hb
  clear hb
  rcases hr with rfl | ⟨hr0, hr1⟩
  · go_wp2_with fail
    go_ret
    exact ⟨HB4.out, _, rfl, .inl rfl⟩
  have hng3 : ¬ r3 < 0 := by omega
  have HR3 : Hid (r3 = r2 - t.hn) := hr1
  have hle3 : r3 ≤ 1048576 := by omega
  clear hr1
  go_wp2_with fail
  refine (szInt64S_r t.on a6 c6 r3 _ hB4 (by omega) (by omega)).mono ?_
  rintro e w5 ⟨hb, r4, rfl, hr⟩
  have HB5 : Hid (Below w.heap.size w w5) := below_then HB4.out hb
  clear hb
  rcases hr with rfl | ⟨hr0, hr1⟩
  · go_wp2_with fail
    go_ret
    exact ⟨HB5.out, _, rfl, .inl rfl⟩
  have hng4 : ¬ r4 < 0 := by omega
  have HR4 : Hid (r4 = r3 - t.on) := hr1
  have hle4 : r4 ≤ 1048576 := by omega
  clear hr1
  go_wp2_with fail
  go_ret
  exact ⟨HB5.out, _, rfl, .inr ⟨hr0, by have e0 := HR0.out; have e1 := HR1.out; have e2 := HR2.out; have e3 := HR3.out; have e4 := HR4.out; have ez := HZ.out; omega⟩⟩
/-! ### one copied -/
set_option maxHeartbeats 8000000 in
theorem toStore_any (t : Sto) (a0 : Option Addr) (c0 : Nat) (a1 : Option Addr) (c1 : Nat) (a2 : Option Addr) (c2 : Nat) (a3 : Option Addr) (c3 : Nat) (a4 : Option Addr) (c4 : Nat) (a5 : Option Addr) (c5 : Nat) (a6 : Option Addr) (c6 : Nat) (w : World) (hS : SmSt t) (h : InSt w a0 a1 a2 a3 a4 a5 a6 t) :
    Calls Tryz.prog 6 #[.agg #[.int .i64 t.nx, .slice a0 t.pn c0, .slice a1 t.d.n c1, .slice a2 t.d.m c2, .slice a3 t.g.n1 c3, .slice a4 t.g.n2 c4, .slice a5 t.hn c5, .slice a6 t.on c6]] w fun e w' =>
      ∃ B0 B1 B2 B3 B4 B5 B6, e = .returned (.agg #[.int .i64 t.nx, .slice (some ⟨B0, 0, none⟩) t.pn t.pn, .slice (some ⟨B1, 0, none⟩) t.d.n t.d.n, .slice (some ⟨B2, 0, none⟩) t.d.m t.d.m, .slice (some ⟨B3, 0, none⟩) t.g.n1 t.g.n1, .slice (some ⟨B4, 0, none⟩) t.g.n2 t.g.n2, .slice (some ⟨B5, 0, none⟩) t.hn t.hn, .slice (some ⟨B6, 0, none⟩) t.on t.on]) ∧ Below w.heap.size w w' ∧ OwnInSt w' w.heap.size w'.heap.size (some ⟨B0, 0, none⟩) (some ⟨B1, 0, none⟩) (some ⟨B2, 0, none⟩) (some ⟨B3, 0, none⟩) (some ⟨B4, 0, none⟩) (some ⟨B5, 0, none⟩) (some ⟨B6, 0, none⟩) t := by
  obtain ⟨hS0, hS1, hS2, hS3, hS4⟩ := hS
  have HA : Hid (InSt w a0 a1 a2 a3 a4 a5 a6 t) := h
  clear h
  go_enter Tryz.func6, Tryz.ntmps6
  go_wp2_with fail
  have hb0 : ∀ o1 o2 o3, Below w.heap.size w (((w.alloc o1).alloc o2).alloc o3) := fun o1 o2 o3 => (((Below.refl _ _).alloc (Nat.le_refl _) _).alloc (by simp) _).alloc (by simp; omega) _
  refine (toPageS_any t.pn t.pT a0 c0 _ hS0.1 hS0.2.1 ((HA.out.1).below (hb0 _ _ _))).mono ?_
  rintro e w1 ⟨rfl, hb, hr⟩
  obtain ⟨hc, hf⟩ := bcell29 hb
  have hz : w.heap.size + 3 ≤ w1.heap.size := by have := hb.size; simp at this; omega
  have e3 : ∀ o1 o2 o3 : Obj, (((w.alloc o1).alloc o2).alloc o3).heap.size = w.heap.size + 3 := fun _ _ _ => by simp
  rw [e3] at hr
  rw [e3]
  have HR0 : Hid (OwnPg w1 (w.heap.size + 3) w1.heap.size (some ⟨w.heap.size + 3, 0, none⟩) t.pn t.pT) := hr
  have HB1 : Hid (Below w.heap.size w w1) := below_then (hb0 _ _ _) hb
  have r1 : w1.cell? ⟨w.heap.size, 2, none⟩ = some (.slice a1 t.d.n c1) := by rw [hc _ _ (by simp <;> omega)]; simp [go_sem]
  have r2 : w1.cell? ⟨w.heap.size, 3, none⟩ = some (.slice a2 t.d.m c2) := by rw [hc _ _ (by simp <;> omega)]; simp [go_sem]
  have r3 : w1.cell? ⟨w.heap.size, 4, none⟩ = some (.slice a3 t.g.n1 c3) := by rw [hc _ _ (by simp <;> omega)]; simp [go_sem]
  have r4 : w1.cell? ⟨w.heap.size, 5, none⟩ = some (.slice a4 t.g.n2 c4) := by rw [hc _ _ (by simp <;> omega)]; simp [go_sem]
  have r5 : w1.cell? ⟨w.heap.size, 6, none⟩ = some (.slice a5 t.hn c5) := by rw [hc _ _ (by simp <;> omega)]; simp [go_sem]
  have r6 : w1.cell? ⟨w.heap.size, 7, none⟩ = some (.slice a6 t.on c6) := by rw [hc _ _ (by simp <;> omega)]; simp [go_sem]
  have s0 : w1.cell? ⟨w.heap.size + 1, 0, none⟩ = some (.int .i64 0) := by rw [hc _ _ (by simp <;> omega)]; simp [go_sem]
  have s1 : w1.cell? ⟨w.heap.size + 1, 1, none⟩ = some (.slice none 0 0) := by rw [hc _ _ (by simp <;> omega)]; simp [go_sem]
  have s2 : w1.cell? ⟨w.heap.size + 1, 2, none⟩ = some (.slice none 0 0) := by rw [hc _ _ (by simp <;> omega)]; simp [go_sem]
  have s3 : w1.cell? ⟨w.heap.size + 1, 3, none⟩ = some (.slice none 0 0) := by rw [hc _ _ (by simp <;> omega)]; simp [go_sem]
  have s4 : w1.cell? ⟨w.heap.size + 1, 4, none⟩ = some (.slice none 0 0) := by rw [hc _ _ (by simp <;> omega)]; simp [go_sem]
  have s5 : w1.cell? ⟨w.heap.size + 1, 5, none⟩ = some (.slice none 0 0) := by rw [hc _ _ (by simp <;> omega)]; simp [go_sem]
  have s6 : w1.cell? ⟨w.heap.size + 1, 6, none⟩ = some (.slice none 0 0) := by rw [hc _ _ (by simp <;> omega)]; simp [go_sem]
  have s7 : w1.cell? ⟨w.heap.size + 1, 7, none⟩ = some (.slice none 0 0) := by rw [hc _ _ (by simp <;> omega)]; simp [go_sem]
  have x0 : w1.cell? ⟨w.heap.size + 2, 0, none⟩ = some (.int .i64 t.nx) := by rw [hc _ _ (by simp <;> omega)]; simp [go_sem]
  have x1 : w1.cell? ⟨w.heap.size + 2, 1, none⟩ = some (.slice none 0 0) := by rw [hc _ _ (by simp <;> omega)]; simp [go_sem]
  have x2 : w1.cell? ⟨w.heap.size + 2, 2, none⟩ = some (.slice none 0 0) := by rw [hc _ _ (by simp <;> omega)]; simp [go_sem]
  have x3 : w1.cell? ⟨w.heap.size + 2, 3, none⟩ = some (.slice none 0 0) := by rw [hc _ _ (by simp <;> omega)]; simp [go_sem]
  have x4 : w1.cell? ⟨w.heap.size + 2, 4, none⟩ = some (.slice none 0 0) := by rw [hc _ _ (by simp <;> omega)]; simp [go_sem]
  have x5 : w1.cell? ⟨w.heap.size + 2, 5, none⟩ = some (.slice none 0 0) := by rw [hc _ _ (by simp <;> omega)]; simp [go_sem]
  have x6 : w1.cell? ⟨w.heap.size + 2, 6, none⟩ = some (.slice none 0 0) := by rw [hc _ _ (by simp <;> omega)]; simp [go_sem]
  have x7 : w1.cell? ⟨w.heap.size + 2, 7, none⟩ = some (.slice none 0 0) := by rw [hc _ _ (by simp <;> omega)]; simp [go_sem]
  have f1 : ∀ i, w1.frozen? ⟨w.heap.size + 1, i, none⟩ = false := fun i => by rw [hf _ _ (by simp <;> omega)]; simp [go_sem]
  have f2 : ∀ i, w1.frozen? ⟨w.heap.size + 2, i, none⟩ = false := fun i => by rw [hf _ _ (by simp <;> omega)]; simp [go_sem]
  clear hc hf hb hr e3 hb0
  go_upto_region 4 with fail
  obtain ⟨W1, hW⟩ : ∃ y, y = w1.setCell ⟨w.heap.size + 2, 1, none⟩ (.slice (some ⟨w.heap.size + 3, 0, none⟩) t.pn t.pn) := ⟨_, rfl⟩
  replace x0 : W1.cell? ⟨w.heap.size + 2, 0, none⟩ = some (.int .i64 t.nx) := by rw [hW, setO (by omega)]; exact x0
  replace x1 : W1.cell? ⟨w.heap.size + 2, 1, none⟩ = some (.slice (some ⟨w.heap.size + 3, 0, none⟩) t.pn t.pn) := by rw [hW]; exact setS x1
  replace x2 : W1.cell? ⟨w.heap.size + 2, 2, none⟩ = some (.slice none 0 0) := by rw [hW, setO (by omega)]; exact x2
  replace x3 : W1.cell? ⟨w.heap.size + 2, 3, none⟩ = some (.slice none 0 0) := by rw [hW, setO (by omega)]; exact x3
  replace x4 : W1.cell? ⟨w.heap.size + 2, 4, none⟩ = some (.slice none 0 0) := by rw [hW, setO (by omega)]; exact x4
  replace x5 : W1.cell? ⟨w.heap.size + 2, 5, none⟩ = some (.slice none 0 0) := by rw [hW, setO (by omega)]; exact x5
  replace x6 : W1.cell? ⟨w.heap.size + 2, 6, none⟩ = some (.slice none 0 0) := by rw [hW, setO (by omega)]; exact x6
  replace x7 : W1.cell? ⟨w.heap.size + 2, 7, none⟩ = some (.slice none 0 0) := by rw [hW, setO (by omega)]; exact x7
  have far : ∀ b i, b ≠ w.heap.size + 2 → W1.cell? ⟨b, i, none⟩ = w1.cell? ⟨b, i, none⟩ := fun b i hne => by rw [hW]; exact World.cell?_setCell_far _ _ _ _ (Ne.symm hne)
  replace r1 := (far _ _ (by omega)).trans r1
  replace r2 := (far _ _ (by omega)).trans r2
  replace r3 := (far _ _ (by omega)).trans r3
  replace r4 := (far _ _ (by omega)).trans r4
  replace r5 := (far _ _ (by omega)).trans r5
  replace r6 := (far _ _ (by omega)).trans r6
  replace s0 := (far _ _ (by omega)).trans s0
  replace s1 := (far _ _ (by omega)).trans s1
  replace s2 := (far _ _ (by omega)).trans s2
  replace s3 := (far _ _ (by omega)).trans s3
  replace s4 := (far _ _ (by omega)).trans s4
  replace s5 := (far _ _ (by omega)).trans s5
  replace s6 := (far _ _ (by omega)).trans s6
  replace s7 := (far _ _ (by omega)).trans s7
  replace f1 : ∀ i, W1.frozen? ⟨w.heap.size + 1, i, none⟩ = false := fun i => by rw [hW, World.frozen?_setCell]; exact f1 i
  replace f2 : ∀ i, W1.frozen? ⟨w.heap.size + 2, i, none⟩ = false := fun i => by rw [hW, World.frozen?_setCell]; exact f2 i
  have hsz1 : W1.heap.size = w1.heap.size := by rw [hW]; simp [World.setCell]
  have HW : Hid (Writes (w.heap.size) (w.heap.size + 3) w1 W1) := by rw [hW]; exact ((Writes.refl _ _ _).setCell (by simp) (by simp) _)
  rw [← hW]
  clear hW far
  replace HB1 : Hid (Below w.heap.size w W1) := HW.out.below HB1.out (Nat.le_refl _)
  replace HR0 : Hid (OwnPg W1 (w.heap.size + 3) w1.heap.size (some ⟨w.heap.size + 3, 0, none⟩) t.pn t.pT) := HR0.out.writes HW.out (.inr (by omega))
  clear HW
  go_wp2_with fail
  refine (toDisk_any t.d a1 a2 c1 c2 _ hS1 ((HA.out.2.1).below HB1.out)).mono ?_
  rintro e w2 ⟨B1, B2, rfl, hb, hr⟩
  have HB2 : Hid (Below w.heap.size w w2) := below_then HB1.out hb
  rw [hsz1] at hr
  have HR1 : Hid (OwnD w2 w1.heap.size w2.heap.size (some ⟨B1, 0, none⟩) (some ⟨B2, 0, none⟩) t.d) := hr
  replace HR0 : Hid (OwnPg w2 (w.heap.size + 3) w1.heap.size (some ⟨w.heap.size + 3, 0, none⟩) t.pn t.pT) := HR0.out.below hb
  have hz1 : w1.heap.size ≤ w2.heap.size := by have := hb.size; omega
  replace x0 := cell_below x0 hb
  replace x1 := cell_below x1 hb
  replace x2 := cell_below x2 hb
  replace x3 := cell_below x3 hb
  replace x4 := cell_below x4 hb
  replace x5 := cell_below x5 hb
  replace x6 := cell_below x6 hb
  replace x7 := cell_below x7 hb
  replace s0 := cell_below s0 hb
  replace s1 := cell_below s1 hb
  replace s2 := cell_below s2 hb
  replace s3 := cell_below s3 hb
  replace s4 := cell_below s4 hb
  replace s5 := cell_below s5 hb
  replace s6 := cell_below s6 hb
  replace s7 := cell_below s7 hb
  replace r3 := cell_below r3 hb
  replace r4 := cell_below r4 hb
  replace r5 := cell_below r5 hb
  replace r6 := cell_below r6 hb
  replace f1 : ∀ i, w2.frozen? ⟨w.heap.size + 1, i, none⟩ = false := fun i => (hb.frozen (p := ⟨_, i, none⟩) (by show w.heap.size + 1 < W1.heap.size; omega)).trans (f1 i)
  replace f2 : ∀ i, w2.frozen? ⟨w.heap.size + 2, i, none⟩ = false := fun i => (hb.frozen (p := ⟨_, i, none⟩) (by show w.heap.size + 2 < W1.heap.size; omega)).trans (f2 i)
  clear hb hr hsz1 HB1
  go_upto_region 5 with fail
  obtain ⟨W2, hW⟩ : ∃ y, y = (w2.setCell ⟨w.heap.size + 2, 2, none⟩ (.slice (some ⟨B1, 0, none⟩) t.d.n t.d.n)).setCell ⟨w.heap.size + 2, 3, none⟩ (.slice (some ⟨B2, 0, none⟩) t.d.m t.d.m) := ⟨_, rfl⟩
  replace x0 : W2.cell? ⟨w.heap.size + 2, 0, none⟩ = some (.int .i64 t.nx) := by rw [hW, setO (by omega), setO (by omega)]; exact x0
  replace x1 : W2.cell? ⟨w.heap.size + 2, 1, none⟩ = some (.slice (some ⟨w.heap.size + 3, 0, none⟩) t.pn t.pn) := by rw [hW, setO (by omega), setO (by omega)]; exact x1
  replace x2 : W2.cell? ⟨w.heap.size + 2, 2, none⟩ = some (.slice (some ⟨B1, 0, none⟩) t.d.n t.d.n) := by rw [hW, setO (by omega)]; exact setS x2
  replace x3 : W2.cell? ⟨w.heap.size + 2, 3, none⟩ = some (.slice (some ⟨B2, 0, none⟩) t.d.m t.d.m) := by rw [hW]; exact setS (by rw [setO (by omega)]; exact x3)
  replace x4 : W2.cell? ⟨w.heap.size + 2, 4, none⟩ = some (.slice none 0 0) := by rw [hW, setO (by omega), setO (by omega)]; exact x4
  replace x5 : W2.cell? ⟨w.heap.size + 2, 5, none⟩ = some (.slice none 0 0) := by rw [hW, setO (by omega), setO (by omega)]; exact x5
  replace x6 : W2.cell? ⟨w.heap.size + 2, 6, none⟩ = some (.slice none 0 0) := by rw [hW, setO (by omega), setO (by omega)]; exact x6
  replace x7 : W2.cell? ⟨w.heap.size + 2, 7, none⟩ = some (.slice none 0 0) := by rw [hW, setO (by omega), setO (by omega)]; exact x7
  have far : ∀ b i, b ≠ w.heap.size + 2 → W2.cell? ⟨b, i, none⟩ = w2.cell? ⟨b, i, none⟩ := fun b i hne => by rw [hW, World.cell?_setCell_far _ _ _ _ (Ne.symm hne)]; exact World.cell?_setCell_far _ _ _ _ (Ne.symm hne)
  replace r3 := (far _ _ (by omega)).trans r3
  replace r4 := (far _ _ (by omega)).trans r4
  replace r5 := (far _ _ (by omega)).trans r5
  replace r6 := (far _ _ (by omega)).trans r6
  replace s0 := (far _ _ (by omega)).trans s0
  replace s1 := (far _ _ (by omega)).trans s1
  replace s2 := (far _ _ (by omega)).trans s2
  replace s3 := (far _ _ (by omega)).trans s3
  replace s4 := (far _ _ (by omega)).trans s4
  replace s5 := (far _ _ (by omega)).trans s5
  replace s6 := (far _ _ (by omega)).trans s6
  replace s7 := (far _ _ (by omega)).trans s7
  replace f1 : ∀ i, W2.frozen? ⟨w.heap.size + 1, i, none⟩ = false := fun i => by rw [hW, World.frozen?_setCell, World.frozen?_setCell]; exact f1 i
  replace f2 : ∀ i, W2.frozen? ⟨w.heap.size + 2, i, none⟩ = false := fun i => by rw [hW, World.frozen?_setCell, World.frozen?_setCell]; exact f2 i
  have hsz2 : W2.heap.size = w2.heap.size := by rw [hW]; simp [World.setCell]
  have HW : Hid (Writes (w.heap.size) (w.heap.size + 3) w2 W2) := by rw [hW]; exact (((Writes.refl _ _ _).setCell (by simp) (by simp) _).setCell (by simp) (by simp) _)
  rw [← hW]
  clear hW far
  replace HB2 : Hid (Below w.heap.size w W2) := HW.out.below HB2.out (Nat.le_refl _)
  replace HR0 : Hid (OwnPg W2 (w.heap.size + 3) w1.heap.size (some ⟨w.heap.size + 3, 0, none⟩) t.pn t.pT) := HR0.out.writes HW.out (.inr (by omega))
  replace HR1 : Hid (OwnD W2 w1.heap.size w2.heap.size (some ⟨B1, 0, none⟩) (some ⟨B2, 0, none⟩) t.d) := HR1.out.writes HW.out (.inr (by omega))
  clear HW
  go_wp2_with fail
  refine (toLog_any t.g a3 a4 c3 c4 _ hS2.1 hS2.2 ((HA.out.2.2.1).below HB2.out)).mono ?_
  rintro e w3 ⟨B3, B4, rfl, hb, hr⟩
  have HB3 : Hid (Below w.heap.size w w3) := below_then HB2.out hb
  rw [hsz2] at hr
  have HR2 : Hid (OwnG w3 w2.heap.size w3.heap.size (some ⟨B3, 0, none⟩) (some ⟨B4, 0, none⟩) t.g) := hr
  replace HR0 : Hid (OwnPg w3 (w.heap.size + 3) w1.heap.size (some ⟨w.heap.size + 3, 0, none⟩) t.pn t.pT) := HR0.out.below hb
  replace HR1 : Hid (OwnD w3 w1.heap.size w2.heap.size (some ⟨B1, 0, none⟩) (some ⟨B2, 0, none⟩) t.d) := HR1.out.below hb
  have hz2 : w2.heap.size ≤ w3.heap.size := by have := hb.size; omega
  replace x0 := cell_below x0 hb
  replace x1 := cell_below x1 hb
  replace x2 := cell_below x2 hb
  replace x3 := cell_below x3 hb
  replace x4 := cell_below x4 hb
  replace x5 := cell_below x5 hb
  replace x6 := cell_below x6 hb
  replace x7 := cell_below x7 hb
  replace s0 := cell_below s0 hb
  replace s1 := cell_below s1 hb
  replace s2 := cell_below s2 hb
  replace s3 := cell_below s3 hb
  replace s4 := cell_below s4 hb
  replace s5 := cell_below s5 hb
  replace s6 := cell_below s6 hb
  replace s7 := cell_below s7 hb
  replace r5 := cell_below r5 hb
  replace r6 := cell_below r6 hb
  replace f1 : ∀ i, w3.frozen? ⟨w.heap.size + 1, i, none⟩ = false := fun i => (hb.frozen (p := ⟨_, i, none⟩) (by show w.heap.size + 1 < W2.heap.size; omega)).trans (f1 i)
  replace f2 : ∀ i, w3.frozen? ⟨w.heap.size + 2, i, none⟩ = false := fun i => (hb.frozen (p := ⟨_, i, none⟩) (by show w.heap.size + 2 < W2.heap.size; omega)).trans (f2 i)
  clear hb hr hsz2 HB2
  go_upto_region 6 with fail
  obtain ⟨W3, hW⟩ : ∃ y, y = (w3.setCell ⟨w.heap.size + 2, 4, none⟩ (.slice (some ⟨B3, 0, none⟩) t.g.n1 t.g.n1)).setCell ⟨w.heap.size + 2, 5, none⟩ (.slice (some ⟨B4, 0, none⟩) t.g.n2 t.g.n2) := ⟨_, rfl⟩
  replace x0 : W3.cell? ⟨w.heap.size + 2, 0, none⟩ = some (.int .i64 t.nx) := by rw [hW, setO (by omega), setO (by omega)]; exact x0
  replace x1 : W3.cell? ⟨w.heap.size + 2, 1, none⟩ = some (.slice (some ⟨w.heap.size + 3, 0, none⟩) t.pn t.pn) := by rw [hW, setO (by omega), setO (by omega)]; exact x1
  replace x2 : W3.cell? ⟨w.heap.size + 2, 2, none⟩ = some (.slice (some ⟨B1, 0, none⟩) t.d.n t.d.n) := by rw [hW, setO (by omega), setO (by omega)]; exact x2
  replace x3 : W3.cell? ⟨w.heap.size + 2, 3, none⟩ = some (.slice (some ⟨B2, 0, none⟩) t.d.m t.d.m) := by rw [hW, setO (by omega), setO (by omega)]; exact x3
  replace x4 : W3.cell? ⟨w.heap.size + 2, 4, none⟩ = some (.slice (some ⟨B3, 0, none⟩) t.g.n1 t.g.n1) := by rw [hW, setO (by omega)]; exact setS x4
  replace x5 : W3.cell? ⟨w.heap.size + 2, 5, none⟩ = some (.slice (some ⟨B4, 0, none⟩) t.g.n2 t.g.n2) := by rw [hW]; exact setS (by rw [setO (by omega)]; exact x5)
  replace x6 : W3.cell? ⟨w.heap.size + 2, 6, none⟩ = some (.slice none 0 0) := by rw [hW, setO (by omega), setO (by omega)]; exact x6
  replace x7 : W3.cell? ⟨w.heap.size + 2, 7, none⟩ = some (.slice none 0 0) := by rw [hW, setO (by omega), setO (by omega)]; exact x7
  have far : ∀ b i, b ≠ w.heap.size + 2 → W3.cell? ⟨b, i, none⟩ = w3.cell? ⟨b, i, none⟩ := fun b i hne => by rw [hW, World.cell?_setCell_far _ _ _ _ (Ne.symm hne)]; exact World.cell?_setCell_far _ _ _ _ (Ne.symm hne)
  replace r5 := (far _ _ (by omega)).trans r5
  replace r6 := (far _ _ (by omega)).trans r6
  replace s0 := (far _ _ (by omega)).trans s0
  replace s1 := (far _ _ (by omega)).trans s1
  replace s2 := (far _ _ (by omega)).trans s2
  replace s3 := (far _ _ (by omega)).trans s3
  replace s4 := (far _ _ (by omega)).trans s4
  replace s5 := (far _ _ (by omega)).trans s5
  replace s6 := (far _ _ (by omega)).trans s6
  replace s7 := (far _ _ (by omega)).trans s7
  replace f1 : ∀ i, W3.frozen? ⟨w.heap.size + 1, i, none⟩ = false := fun i => by rw [hW, World.frozen?_setCell, World.frozen?_setCell]; exact f1 i
  replace f2 : ∀ i, W3.frozen? ⟨w.heap.size + 2, i, none⟩ = false := fun i => by rw [hW, World.frozen?_setCell, World.frozen?_setCell]; exact f2 i
  have hsz3 : W3.heap.size = w3.heap.size := by rw [hW]; simp [World.setCell]
  have HW : Hid (Writes (w.heap.size) (w.heap.size + 3) w3 W3) := by rw [hW]; exact (((Writes.refl _ _ _).setCell (by simp) (by simp) _).setCell (by simp) (by simp) _)
  rw [← hW]
  clear hW far
  replace HB3 : Hid (Below w.heap.size w W3) := HW.out.below HB3.out (Nat.le_refl _)
  replace HR0 : Hid (OwnPg W3 (w.heap.size + 3) w1.heap.size (some ⟨w.heap.size + 3, 0, none⟩) t.pn t.pT) := HR0.out.writes HW.out (.inr (by omega))
  replace HR1 : Hid (OwnD W3 w1.heap.size w2.heap.size (some ⟨B1, 0, none⟩) (some ⟨B2, 0, none⟩) t.d) := HR1.out.writes HW.out (.inr (by omega))
  replace HR2 : Hid (OwnG W3 w2.heap.size w3.heap.size (some ⟨B3, 0, none⟩) (some ⟨B4, 0, none⟩) t.g) := HR2.out.writes HW.out (.inr (by omega))
  clear HW
  go_wp2_with fail
  refine (toHeldS_own t.hn t.hK t.hV a5 c5 _ hS3 ((HA.out.2.2.2.1).below HB3.out)).mono ?_
  rintro e w4 ⟨B5, rfl, hb, hr⟩
  have HB4 : Hid (Below w.heap.size w w4) := below_then HB3.out hb
  rw [hsz3] at hr
  have HR3 : Hid (Own w4 w3.heap.size w4.heap.size (some ⟨B5, 0, none⟩) t.hn t.hK t.hV) := hr
  replace HR0 : Hid (OwnPg w4 (w.heap.size + 3) w1.heap.size (some ⟨w.heap.size + 3, 0, none⟩) t.pn t.pT) := HR0.out.below hb
  replace HR1 : Hid (OwnD w4 w1.heap.size w2.heap.size (some ⟨B1, 0, none⟩) (some ⟨B2, 0, none⟩) t.d) := HR1.out.below hb
  replace HR2 : Hid (OwnG w4 w2.heap.size w3.heap.size (some ⟨B3, 0, none⟩) (some ⟨B4, 0, none⟩) t.g) := HR2.out.below hb
  have hz3 : w3.heap.size ≤ w4.heap.size := by have := hb.size; omega
  replace x0 := cell_below x0 hb
  replace x1 := cell_below x1 hb
  replace x2 := cell_below x2 hb
  replace x3 := cell_below x3 hb
  replace x4 := cell_below x4 hb
  replace x5 := cell_below x5 hb
  replace x6 := cell_below x6 hb
  replace x7 := cell_below x7 hb
  replace s0 := cell_below s0 hb
  replace s1 := cell_below s1 hb
  replace s2 := cell_below s2 hb
  replace s3 := cell_below s3 hb
  replace s4 := cell_below s4 hb
  replace s5 := cell_below s5 hb
  replace s6 := cell_below s6 hb
  replace s7 := cell_below s7 hb
  replace r6 := cell_below r6 hb
  replace f1 : ∀ i, w4.frozen? ⟨w.heap.size + 1, i, none⟩ = false := fun i => (hb.frozen (p := ⟨_, i, none⟩) (by show w.heap.size + 1 < W3.heap.size; omega)).trans (f1 i)
  replace f2 : ∀ i, w4.frozen? ⟨w.heap.size + 2, i, none⟩ = false := fun i => (hb.frozen (p := ⟨_, i, none⟩) (by show w.heap.size + 2 < W3.heap.size; omega)).trans (f2 i)
  clear hb hr hsz3 HB3
  go_upto_region 7 with fail
  obtain ⟨W4, hW⟩ : ∃ y, y = w4.setCell ⟨w.heap.size + 2, 6, none⟩ (.slice (some ⟨B5, 0, none⟩) t.hn t.hn) := ⟨_, rfl⟩
  replace x0 : W4.cell? ⟨w.heap.size + 2, 0, none⟩ = some (.int .i64 t.nx) := by rw [hW, setO (by omega)]; exact x0
  replace x1 : W4.cell? ⟨w.heap.size + 2, 1, none⟩ = some (.slice (some ⟨w.heap.size + 3, 0, none⟩) t.pn t.pn) := by rw [hW, setO (by omega)]; exact x1
  replace x2 : W4.cell? ⟨w.heap.size + 2, 2, none⟩ = some (.slice (some ⟨B1, 0, none⟩) t.d.n t.d.n) := by rw [hW, setO (by omega)]; exact x2
  replace x3 : W4.cell? ⟨w.heap.size + 2, 3, none⟩ = some (.slice (some ⟨B2, 0, none⟩) t.d.m t.d.m) := by rw [hW, setO (by omega)]; exact x3
  replace x4 : W4.cell? ⟨w.heap.size + 2, 4, none⟩ = some (.slice (some ⟨B3, 0, none⟩) t.g.n1 t.g.n1) := by rw [hW, setO (by omega)]; exact x4
  replace x5 : W4.cell? ⟨w.heap.size + 2, 5, none⟩ = some (.slice (some ⟨B4, 0, none⟩) t.g.n2 t.g.n2) := by rw [hW, setO (by omega)]; exact x5
  replace x6 : W4.cell? ⟨w.heap.size + 2, 6, none⟩ = some (.slice (some ⟨B5, 0, none⟩) t.hn t.hn) := by rw [hW]; exact setS x6
  replace x7 : W4.cell? ⟨w.heap.size + 2, 7, none⟩ = some (.slice none 0 0) := by rw [hW, setO (by omega)]; exact x7
  have far : ∀ b i, b ≠ w.heap.size + 2 → W4.cell? ⟨b, i, none⟩ = w4.cell? ⟨b, i, none⟩ := fun b i hne => by rw [hW]; exact World.cell?_setCell_far _ _ _ _ (Ne.symm hne)
  replace r6 := (far _ _ (by omega)).trans r6
  replace s0 := (far _ _ (by omega)).trans s0
  replace s1 := (far _ _ (by omega)).trans s1
  replace s2 := (far _ _ (by omega)).trans s2
  replace s3 := (far _ _ (by omega)).trans s3
  replace s4 := (far _ _ (by omega)).trans s4
  replace s5 := (far _ _ (by omega)).trans s5
  replace s6 := (far _ _ (by omega)).trans s6
  replace s7 := (far _ _ (by omega)).trans s7
  replace f1 : ∀ i, W4.frozen? ⟨w.heap.size + 1, i, none⟩ = false := fun i => by rw [hW, World.frozen?_setCell]; exact f1 i
  replace f2 : ∀ i, W4.frozen? ⟨w.heap.size + 2, i, none⟩ = false := fun i => by rw [hW, World.frozen?_setCell]; exact f2 i
  have hsz4 : W4.heap.size = w4.heap.size := by rw [hW]; simp [World.setCell]
  have HW : Hid (Writes (w.heap.size) (w.heap.size + 3) w4 W4) := by rw [hW]; exact ((Writes.refl _ _ _).setCell (by simp) (by simp) _)
  rw [← hW]
  clear hW far
  replace HB4 : Hid (Below w.heap.size w W4) := HW.out.below HB4.out (Nat.le_refl _)
  replace HR0 : Hid (OwnPg W4 (w.heap.size + 3) w1.heap.size (some ⟨w.heap.size + 3, 0, none⟩) t.pn t.pT) := HR0.out.writes HW.out (.inr (by omega))
  replace HR1 : Hid (OwnD W4 w1.heap.size w2.heap.size (some ⟨B1, 0, none⟩) (some ⟨B2, 0, none⟩) t.d) := HR1.out.writes HW.out (.inr (by omega))
  replace HR2 : Hid (OwnG W4 w2.heap.size w3.heap.size (some ⟨B3, 0, none⟩) (some ⟨B4, 0, none⟩) t.g) := HR2.out.writes HW.out (.inr (by omega))
  replace HR3 : Hid (Own W4 w3.heap.size w4.heap.size (some ⟨B5, 0, none⟩) t.hn t.hK t.hV) := HR3.out.writes HW.out (.inr (by omega))
  clear HW
  go_wp2_with fail
  refine (toInt64S_own t.on t.oF a6 c6 _ hS4 ((HA.out.2.2.2.2).below HB4.out)).mono ?_
  rintro e w5 ⟨B6, rfl, hb, hr⟩
  have HB5 : Hid (Below w.heap.size w w5) := below_then HB4.out hb
  rw [hsz4] at hr
  have HR4 : Hid (OwnI w5 w4.heap.size w5.heap.size (some ⟨B6, 0, none⟩) t.on t.oF) := hr
  replace HR0 : Hid (OwnPg w5 (w.heap.size + 3) w1.heap.size (some ⟨w.heap.size + 3, 0, none⟩) t.pn t.pT) := HR0.out.below hb
  replace HR1 : Hid (OwnD w5 w1.heap.size w2.heap.size (some ⟨B1, 0, none⟩) (some ⟨B2, 0, none⟩) t.d) := HR1.out.below hb
  replace HR2 : Hid (OwnG w5 w2.heap.size w3.heap.size (some ⟨B3, 0, none⟩) (some ⟨B4, 0, none⟩) t.g) := HR2.out.below hb
  replace HR3 : Hid (Own w5 w3.heap.size w4.heap.size (some ⟨B5, 0, none⟩) t.hn t.hK t.hV) := HR3.out.below hb
  have hz4 : w4.heap.size ≤ w5.heap.size := by have := hb.size; omega
  replace x0 := cell_below x0 hb
  replace x1 := cell_below x1 hb
  replace x2 := cell_below x2 hb
  replace x3 := cell_below x3 hb
  replace x4 := cell_below x4 hb
  replace x5 := cell_below x5 hb
  replace x6 := cell_below x6 hb
  replace x7 := cell_below x7 hb
  replace s0 := cell_below s0 hb
  replace s1 := cell_below s1 hb
  replace s2 := cell_below s2 hb
  replace s3 := cell_below s3 hb
  replace s4 := cell_below s4 hb
  replace s5 := cell_below s5 hb
  replace s6 := cell_below s6 hb
  replace s7 := cell_below s7 hb
  replace f1 : ∀ i, w5.frozen? ⟨w.heap.size + 1, i, none⟩ = false := fun i => (hb.frozen (p := ⟨_, i, none⟩) (by show w.heap.size + 1 < W4.heap.size; omega)).trans (f1 i)
  replace f2 : ∀ i, w5.frozen? ⟨w.heap.size + 2, i, none⟩ = false := fun i => (hb.frozen (p := ⟨_, i, none⟩) (by show w.heap.size + 2 < W4.heap.size; omega)).trans (f2 i)
  clear hb hr hsz4 HB4
  have HWW : Hid (∀ w', Writes w.heap.size (w.heap.size + 3) w5 w' → w'.heap.size = w5.heap.size → Below w.heap.size w w' ∧ OwnInSt w' w.heap.size w'.heap.size (some ⟨w.heap.size + 3, 0, none⟩) (some ⟨B1, 0, none⟩) (some ⟨B2, 0, none⟩) (some ⟨B3, 0, none⟩) (some ⟨B4, 0, none⟩) (some ⟨B5, 0, none⟩) (some ⟨B6, 0, none⟩) t) := fun w' h e =>
    ⟨h.below HB5.out (Nat.le_refl _), w.heap.size + 3, w1.heap.size, w2.heap.size, w3.heap.size, w4.heap.size, w5.heap.size, by omega, by omega, by omega, by omega, by omega, by omega, by omega, Nat.le_refl _, HR0.out.writes h (.inr (by omega)), HR1.out.writes h (.inr (by omega)), HR2.out.writes h (.inr (by omega)), HR3.out.writes h (.inr (by omega)), HR4.out.writes h (.inr (by omega))⟩
  clear HR0 HR1 HR2 HR3 HR4
  go_wp2_with fail
  refine bodyPost_ret (v := .agg #[.int .i64 t.nx, .slice (some ⟨w.heap.size + 3, 0, none⟩) t.pn t.pn, .slice (some ⟨B1, 0, none⟩) t.d.n t.d.n, .slice (some ⟨B2, 0, none⟩) t.d.m t.d.m, .slice (some ⟨B3, 0, none⟩) t.g.n1 t.g.n1, .slice (some ⟨B4, 0, none⟩) t.g.n2 t.g.n2, .slice (some ⟨B5, 0, none⟩) t.hn t.hn, .slice (some ⟨B6, 0, none⟩) t.on t.on]) (by simp [results, Tryz.results6, go_sem, s0, s1, s2, s3, s4, s5, s6, s7]) rfl ⟨_, _, _, _, _, _, _, rfl, ?_⟩
  refine HWW.out _ ?_ (by simp [World.setCell])
  repeat (first | with_reducible exact Writes.refl _ _ _ | with_reducible refine Writes.setCell ?_ (by first | omega | (simp <;> omega)) (by first | omega | (simp <;> omega)) _)
/-! ### equal -/
set_option maxHeartbeats 2000000 in
theorem eqStore_same (t : Sto) (a0 : Option Addr) (c0 : Nat) (a1 : Option Addr) (c1 : Nat) (a2 : Option Addr) (c2 : Nat) (a3 : Option Addr) (c3 : Nat) (a4 : Option Addr) (c4 : Nat) (a5 : Option Addr) (c5 : Nat) (a6 : Option Addr) (c6 : Nat) (d0 : Option Addr) (e0 : Nat) (d1 : Option Addr) (e1 : Nat) (d2 : Option Addr) (e2 : Nat) (d3 : Option Addr) (e3 : Nat) (d4 : Option Addr) (e4 : Nat) (d5 : Option Addr) (e5 : Nat) (d6 : Option Addr) (e6 : Nat) (w : World) (hS : SmSt t) (h : InSt w a0 a1 a2 a3 a4 a5 a6 t) (h' : InSt w d0 d1 d2 d3 d4 d5 d6 t) :
    Calls Tryz.prog 10 #[.agg #[.int .i64 t.nx, .slice a0 t.pn c0, .slice a1 t.d.n c1, .slice a2 t.d.m c2, .slice a3 t.g.n1 c3, .slice a4 t.g.n2 c4, .slice a5 t.hn c5, .slice a6 t.on c6], .agg #[.int .i64 t.nx, .slice d0 t.pn e0, .slice d1 t.d.n e1, .slice d2 t.d.m e2, .slice d3 t.g.n1 e3, .slice d4 t.g.n2 e4, .slice d5 t.hn e5, .slice d6 t.on e6]] w fun e w' => e = .returned (.bool true) ∧ Below w.heap.size w w' := by
  obtain ⟨hS0, hS1, hS2, hS3, hS4⟩ := hS
  have HA : Hid (InSt w a0 a1 a2 a3 a4 a5 a6 t) := h
  have HD : Hid (InSt w d0 d1 d2 d3 d4 d5 d6 t) := h'
  clear h h'
  have hne0 : (t.nx != t.nx) = false := by simp
  have hb0 : ∀ o1 o2, Below w.heap.size w ((w.alloc o1).alloc o2) := fun o1 o2 => (((Below.refl _ _).alloc (Nat.le_refl _) _).alloc (by simp) _)
  go_enter Tryz.func10, Tryz.ntmps10
  go_wp2_with fail
  refine (eqPageS_any t.pn t.pT a0 d0 c0 e0 _ hS0.1 hS0.2.1 ((HA.out.1).below (hb0 _ _)) ((HD.out.1).below (hb0 _ _))).mono ?_
  rintro e w1 ⟨rfl, hb⟩
  have HB1 : Hid (Below w.heap.size w w1) := below_then (hb0 _ _) hb
  have q1 : w1.cell? ⟨w.heap.size, 2, none⟩ = some (.slice a1 t.d.n c1) := by rw [(bcell29 hb).1 _ _ (by simp <;> omega)]; simp [go_sem]
  have y1 : w1.cell? ⟨w.heap.size + 1, 2, none⟩ = some (.slice d1 t.d.n e1) := by rw [(bcell29 hb).1 _ _ (by simp <;> omega)]; simp [go_sem]
  have q2 : w1.cell? ⟨w.heap.size, 3, none⟩ = some (.slice a2 t.d.m c2) := by rw [(bcell29 hb).1 _ _ (by simp <;> omega)]; simp [go_sem]
  have y2 : w1.cell? ⟨w.heap.size + 1, 3, none⟩ = some (.slice d2 t.d.m e2) := by rw [(bcell29 hb).1 _ _ (by simp <;> omega)]; simp [go_sem]
  have q3 : w1.cell? ⟨w.heap.size, 4, none⟩ = some (.slice a3 t.g.n1 c3) := by rw [(bcell29 hb).1 _ _ (by simp <;> omega)]; simp [go_sem]
  have y3 : w1.cell? ⟨w.heap.size + 1, 4, none⟩ = some (.slice d3 t.g.n1 e3) := by rw [(bcell29 hb).1 _ _ (by simp <;> omega)]; simp [go_sem]
  have q4 : w1.cell? ⟨w.heap.size, 5, none⟩ = some (.slice a4 t.g.n2 c4) := by rw [(bcell29 hb).1 _ _ (by simp <;> omega)]; simp [go_sem]
  have y4 : w1.cell? ⟨w.heap.size + 1, 5, none⟩ = some (.slice d4 t.g.n2 e4) := by rw [(bcell29 hb).1 _ _ (by simp <;> omega)]; simp [go_sem]
  have q5 : w1.cell? ⟨w.heap.size, 6, none⟩ = some (.slice a5 t.hn c5) := by rw [(bcell29 hb).1 _ _ (by simp <;> omega)]; simp [go_sem]
  have y5 : w1.cell? ⟨w.heap.size + 1, 6, none⟩ = some (.slice d5 t.hn e5) := by rw [(bcell29 hb).1 _ _ (by simp <;> omega)]; simp [go_sem]
  have q6 : w1.cell? ⟨w.heap.size, 7, none⟩ = some (.slice a6 t.on c6) := by rw [(bcell29 hb).1 _ _ (by simp <;> omega)]; simp [go_sem]
  have y6 : w1.cell? ⟨w.heap.size + 1, 7, none⟩ = some (.slice d6 t.on e6) := by rw [(bcell29 hb).1 _ _ (by simp <;> omega)]; simp [go_sem]
  clear hb
  clear hb0
  go_wp2_with fail
  refine (eqDisk_same t.d a1 a2 d1 d2 c1 c2 e1 e2 _ hS1 ((HA.out.2.1).below HB1.out) ((HD.out.2.1).below HB1.out)).mono ?_
  rintro e w2 ⟨rfl, hb⟩
  have HB2 : Hid (Below w.heap.size w w2) := below_then HB1.out hb
  replace q3 := cell_below q3 hb
  replace y3 := cell_below y3 hb
  replace q4 := cell_below q4 hb
  replace y4 := cell_below y4 hb
  replace q5 := cell_below q5 hb
  replace y5 := cell_below y5 hb
  replace q6 := cell_below q6 hb
  replace y6 := cell_below y6 hb
  clear hb
  go_wp2_with fail
  refine (eqLog_same t.g a3 a4 d3 d4 c3 c4 e3 e4 _ hS2.1 hS2.2 ((HA.out.2.2.1).below HB2.out) ((HD.out.2.2.1).below HB2.out)).mono ?_
  rintro e w3 ⟨rfl, hb⟩
  have HB3 : Hid (Below w.heap.size w w3) := below_then HB2.out hb
  replace q5 := cell_below q5 hb
  replace y5 := cell_below y5 hb
  replace q6 := cell_below q6 hb
  replace y6 := cell_below y6 hb
  clear hb
  go_wp2_with fail
  refine (eqHeldS_any t.hn t.hK t.hV a5 d5 c5 e5 _ (by omega) ((HA.out.2.2.2.1).below HB3.out) ((HD.out.2.2.2.1).below HB3.out)).mono ?_
  rintro e w4 ⟨rfl, hb⟩
  have HB4 : Hid (Below w.heap.size w w4) := below_then HB3.out hb
  replace q6 := cell_below q6 hb
  replace y6 := cell_below y6 hb
  clear hb
  go_wp2_with fail
  refine (eqInt64S_any t.on t.oF a6 d6 c6 e6 _ (by omega) ((HA.out.2.2.2.2).below HB4.out) ((HD.out.2.2.2.2).below HB4.out)).mono ?_
  rintro e w5 ⟨rfl, hb⟩
  have HB5 : Hid (Below w.heap.size w w5) := below_then HB4.out hb
  clear hb
  go_wp2_with fail
  go_ret
  exact ⟨rfl, HB5.out⟩
/-! ### opened -/
theorem cellsStore : Tryz.prog.cellsOf 33 = 8 := by kernel_rfl
theorem cellsPageS : Tryz.prog.cellsOf 22 = 1 := by kernel_rfl
theorem cellsHeldS : Tryz.prog.cellsOf 30 = 1 := by kernel_rfl
theorem cellsIntS : Tryz.prog.cellsOf 31 = 1 := by kernel_rfl
theorem cellsByteSS : Tryz.prog.cellsOf 23 = 1 := by kernel_rfl
theorem cellsLooseS : Tryz.prog.cellsOf 24 = 1 := by kernel_rfl
end Go.Proofs.YtldnfiadafmomaaGreat
