/- NewDisk: pages without cells, appended to a disk that lies in a box; both walks. -/
import Derived.Test.YtjggplfhkejbbaaQSec
import Derived.Test.YtjggplfhkejbbaaQSum
import Derived.Test.YtjggplfhkejbbaaQUp
import Derived.Test.YtjggplfhkejbbaaQNew
import Derived.Deep.RegionLaw
import Derived.Deep.AppendLies
namespace Go.Proofs.Ytjggplfhkejbbaa
open Go.RowKit Go.Deep
set_option linter.unusedVariables false
set_option maxRecDepth 20000

/-- The bytes of a page without cells. -/
def nB (i : Int) : List Int := pgb i 0 0 (fun _ => 0) (fun _ => 0)
def nZ (i q : Nat) : Int := zOf (nB i) q
def nD (n : Nat) : Dk := ⟨n, fun _ => 48, nZ, 0, fun _ => 0, fun _ => 0, fun _ => 0, fun _ _ => 0⟩
def nC (x : Int) : Int := if 1 ≤ x ∧ x ≤ 8 then 0 else 3
theorem nB_len (i : Int) : (nB i).length = 48 := pgb_48 (by omega)
theorem npf {i : Int} (h0 : 0 ≤ i) (h1 : i ≤ 7) : pf i 0 0 (fun _ => 0) (fun _ => 0) = 0 := by
  unfold pf
  rw [if_neg (by simp [inB]; omega), if_neg (by omega)]
  rfl
/-- One page without cells by the model's packer. -/
theorem specNk (k : Int) (w : World) (h0 : 0 ≤ k) (h1 : k ≤ 7) :
    Calls Try.prog 100 #[.agg #[.int .i64 k, .int .i64 0, .slice none 0 0]] w fun e w' => ∃ G C, e = .returned (.slice (some ⟨G, 0, none⟩) 48 C) ∧ Below w.heap.size w w' ∧ w'.ownsRow w.heap.size 5 1 (.slice (some ⟨G, 0, none⟩) 48 C) 48 (bl (nB k)) := by
  refine (specPk_any k 0 0 (fun _ => 0) (fun _ => 0) none 0 w (good_of (npf h0 h1)) (.inl rfl)).mono ?_
  rintro e w' ⟨v, rfl, hb, ho⟩
  have hl : (pgb k 0 0 (fun _ => 0) (fun _ => 0)).length = 48 := nB_len k
  rw [hl] at ho
  obtain ⟨G, C, rfl, -, -⟩ := ho.form (by decide)
  exact ⟨G, C, rfl, hb, ho⟩
theorem implNk0 (k : Int) (w : World) (h0 : 0 ≤ k) (h1 : k ≤ 7) :
    Calls Try.prog 41 #[.int .i64 k] w fun e w' => e = .returned (.agg #[.int .i64 0, .int .i64 k, .int .i64 0, .slice none 0 0]) ∧ Below w.heap.size w w' := by
  refine (implNew_any k w).mono ?_
  rintro e w' ⟨rfl, hb⟩
  rw [newCode, newId, if_pos ⟨h0, h1⟩, if_pos ⟨h0, h1⟩]
  exact ⟨rfl, hb⟩
/-- k pages were appended to the list in cell j of the box that lies behind the answer's. -/
structure Nd (j : Nat) (w W0 wr : World) (v : Value) (k : Nat) : Prop where
  below : Below w.heap.size w wr
  hsz : w.heap.size + 2 ≤ wr.heap.size
  cv : wr.cell? ⟨w.heap.size + 1, j, none⟩ = some v
  co : ∀ o, o ≠ j → wr.cell? ⟨w.heap.size + 1, o, none⟩ = W0.cell? ⟨w.heap.size + 1, o, none⟩
  fz : ∀ o, wr.frozen? ⟨w.heap.size + 1, o, none⟩ = false
  res : wr.heap[w.heap.size]? = W0.heap[w.heap.size]?
  ap : AP (w.heap.size + 2) wr v k (fun _ => 48) nZ
theorem Nd.mono {j : Nat} {w W0 wr wq : World} {v : Value} {k : Nat} (h : Nd j w W0 wr v k) (hb : Below wr.heap.size wr wq) : Nd j w W0 wq v k := by
  have hs := h.hsz
  exact ⟨below_then h.below hb, Nat.le_trans hs hb.size, cell_below h.cv hb, fun o ho => (hb.cell (p := ⟨w.heap.size + 1, o, none⟩) (by show w.heap.size + 1 < _; omega)).trans (h.co o ho), fun o => (hb.frozen (p := ⟨w.heap.size + 1, o, none⟩) (by show w.heap.size + 1 < _; omega)).trans (h.fz o), (hb.block _ (by omega)).trans h.res, h.ap.below hb⟩
theorem AP.setBelow {base : Nat} {w : World} {v : Value} {k : Nat} {L : Nat → Nat} {Z : Nat → Nat → Int} (h : AP base w v k L Z) {b o : Nat} (hb : b < base) (u : Value) : AP base (w.setCell ⟨b, o, none⟩ u) v k L Z := by
  obtain ⟨g, c, ho, hj, hc⟩ := h
  refine ⟨g, c, ownsRow_setCell_below ho hb u, hj, fun i hi => ?_⟩
  obtain ⟨h1, h2, h3, h4, h5⟩ := hc i hi
  exact ⟨h1, by simpa [World.setCell] using h2, h3, h4.block (Below.heap_setCell _ _ _ _ (by show g i ≠ b; omega)), h5⟩
theorem row_of_nB {w : World} {B G C k : Nat} (h : w.ownsRow B 5 1 (.slice (some ⟨G, 0, none⟩) 48 C) 48 (bl (nB k))) : Row1 w G 0 48 (nZ k) ∧ 48 ≤ C ∧ B ≤ G ∧ G < w.heap.size := by
  rcases h.2 with ⟨e, -⟩ | ⟨g, cap, cur, e, hbg, hg, hnc, r⟩
  · cases e
  · simp only [Value.slice.injEq, Option.some.injEq, Addr.mk.injEq, true_and, and_true] at e
    obtain ⟨rfl, rfl⟩ := e
    have hlt : G < w.heap.size := by obtain ⟨hlt, _⟩ := Array.getElem?_eq_some_iff.1 hg; exact hlt
    refine ⟨⟨fun i hi => ?_, fun i hi => h.frozenAt _⟩, hnc, hbg, hlt⟩
    have := h.cellAt i (by omega)
    rw [Nat.zero_add, this]
    have hl := nB_len k
    simp [bl, hl, hi, nZ, zOf]
/-- A page that was just made is appended: one step of a region that draws. -/
theorem step_page {ops : Array Oper} {o : Oper} {a : Act} {K : Act → World → Prop} {Q : Exit → Act → World → Prop} {E : Prop} {j k Bq G C : Nat} {w W0 wr w1 : World} {v : Value} (hgd : o.guard = none) (s x : Operand)
    (ho : o.op = .call { callee := .builtin .append, args := #[s, x], argTypes := #[23, 23] })
    (h : Nd j w W0 wr v k) (hk : k ≤ 8) (hs : a.eval s = v) (hb : Below wr.heap.size wr w1) (hq : w1.ownsRow Bq 5 1 (.slice (some ⟨G, 0, none⟩) 48 C) 48 (bl (nB k))) (hBq : wr.heap.size ≤ Bq) (hx : a.eval x = .slice (some ⟨w1.heap.size, 0, none⟩) 1 1)
    (hK : ∀ g' cap' w2, w2.cell? ⟨w.heap.size + 1, j, none⟩ = some v → w2.frozen? ⟨w.heap.size + 1, j, none⟩ = false → Hid (Nd j w W0 (w2.setCell ⟨w.heap.size + 1, j, none⟩ (.slice (some ⟨g', 0, none⟩) (k + 1) cap')) (.slice (some ⟨g', 0, none⟩) (k + 1) cap') (k + 1)) → K (a.put o.dst (.slice (some ⟨g', 0, none⟩) (k + 1) cap')) w2) :
    if Region.wanted o (yielded ops a.tmps) = true then Oper.wp Try.prog o a (w1.alloc (.cells #[.slice (some ⟨G, 0, none⟩) 48 C] 27)) K Q else E := by
  obtain ⟨i0, hi, hz0, hz1, hz2⟩ := info_parts info22
  have h1 := h.mono hb
  have hsz := h.hsz
  have hsz1 := h1.hsz
  have hsw := hb.size
  obtain ⟨hrow, hC, hG0, hG1⟩ := row_of_nB hq
  obtain ⟨g, c, hown, hj, hc⟩ := h.ap
  have hown1 := own_below hown hb
  refine step_append_lies _ hgd s x 23 ho (w.heap.size + 2) 27 i0 (.slice none 0 0) 1 24 Try.underlying23 hi hz0 hz1 hz2 rfl (by decide) v k (slv g (fun _ => 48) c k) hs (hown1.alloc _) ⟨w1.heap.size, 0, none⟩ 1 1 [.slice (some ⟨G, 0, none⟩) 48 C] hx rfl (cell_one_new _ _ _) (by intro u hu; simp at hu; subst hu; rfl) (by decide) (by unfold maxLen; omega) (by omega) (by rw [World.size_alloc]; omega) _ (World.size_alloc _ _) ?_
  intro g' cap' w2 ho2 hg2 hl2 hlt2
  have hA : AP (w.heap.size + 2) w2 (.slice (some ⟨g', 0, none⟩) (k + 1) cap') (k + 1) (fun _ => 48) nZ := by
    refine AP.step hj (fun i hi => ?_) (by omega) hG1 (fun e => by have := (hown.lt G e).2; omega) (fun i hi => by have := (hc i hi).2.1; omega) hrow hC ho2 hg2 hl2
    obtain ⟨h1, h2, h3, h4, h5⟩ := hc i hi
    exact ⟨h1, Nat.lt_of_lt_of_le h2 hb.size, h3, h4.block (hb.block _ h2), h5⟩
  have hne : ∀ q, q < w.heap.size + 2 → some q ≠ v.ownBlock := fun q hq e => by have := (hown.lt q e.symm).1; omega
  have hblk : ∀ q, q < w.heap.size + 2 → w2.heap[q]? = w1.heap[q]? := fun q hq => (hg2.block q (by rw [World.size_alloc]; omega) (hne q hq)).trans (Below.heap_alloc _ _ _ (by omega))
  have hcell : ∀ i, w2.cell? ⟨w.heap.size + 1, i, none⟩ = w1.cell? ⟨w.heap.size + 1, i, none⟩ := fun i => World.cell?_of_block (w := w1) (a := ⟨w.heap.size + 1, i, none⟩) (hblk (w.heap.size + 1) (by omega))
  have hfz : ∀ i, w2.frozen? ⟨w.heap.size + 1, i, none⟩ = false := fun i => (World.frozen?_of_block (w := w1) (a := ⟨w.heap.size + 1, i, none⟩) (hblk (w.heap.size + 1) (by omega))).trans (h1.fz i)
  have hB : Below w.heap.size w w2 := (h1.below.alloc (by omega) _).grown hg2 (by rw [World.size_alloc]; omega) fun q hq => by have := (hown.lt q hq).1; omega
  refine hK g' cap' w2 ((hcell j).trans h1.cv) (hfz j) ⟨hB.setCell (p := ⟨w.heap.size + 1, j, none⟩) (by show w.heap.size ≤ w.heap.size + 1; omega) _, ?_, setS ((hcell j).trans h1.cv), fun o ho => ?_, fun o => ?_, ?_, hA.setBelow (by omega) _⟩
  · have := hg2.size; rw [World.size_alloc] at this; show w.heap.size + 2 ≤ (w2.setCell _ _).heap.size; simp [World.setCell]; omega
  · rw [setO (fun e => ho e.symm)]; exact (hcell o).trans (h1.co o ho)
  · rw [World.frozen?_setCell]; exact hfz o
  · rw [Below.heap_setCell _ _ _ _ (by show w.heap.size ≠ w.heap.size + 1; omega)]; exact (hblk _ (by omega)).trans h1.res
theorem drewB {w1 w2 : World} (hb : Below w1.drew.heap.size w1.drew w2) : Below w1.heap.size w1 w2 := ((Below.refl _ _).drew).trans hb
theorem nd_end {j n : Nat} {w W0 wr w7 : World} {a : Option Addr} {cap : Nat} (h : Nd j w W0 wr (.slice a n cap) n) (hw : Writes w.heap.size (w.heap.size + 1) wr w7) (hs : w7.heap.size = wr.heap.size) :
    Below w.heap.size w w7 ∧ OwnD w7 w.heap.size w7.heap.size a none (nD n) := by
  have hsz := h.hsz
  refine ⟨Writes.below h.below hw (Nat.le_refl _), ?_⟩
  obtain ⟨a', cap', e, hc, ho⟩ := h.ap.own
  simp only [Value.slice.injEq, true_and] at e
  obtain ⟨rfl, rfl⟩ := e
  have h2 := ho.writes hw (.inr (by omega))
  rw [hs]
  exact ⟨by omega, w.heap.size + 2, wr.heap.size, w.heap.size, w.heap.size, by omega, Nat.le_refl _, Nat.le_refl _, by omega, .inr (by omega), h2, ⟨by omega, .inl rfl⟩⟩
theorem Nd.form {j k : Nat} {w W0 wr : World} {v : Value} (h : Nd j w W0 wr v k) : ∃ a cap, v = .slice a k cap := by
  obtain ⟨a, cap, e, -⟩ := h.ap.own
  exact ⟨a, cap, e⟩
set_option maxHeartbeats 4000000 in
theorem specNd_ok (n : Nat) (w : World) (h1 : 1 ≤ n) (h8 : n ≤ 8) :
    Calls Try.prog 70 #[.int .i64 n] w fun e w' => ∃ a cap, e = .returned (.agg #[.int .i64 0, .slice a n cap, .slice none 0 0]) ∧ Below w.heap.size w w' ∧ OwnD w' w.heap.size w'.heap.size a none (nD n) := by
  have hin : inB n 1 8 = true := by simp [inB]; omega
  go_enter Try.func70, Try.ntmps70
  go_wp2_with fail
  refine (l1In_any n 1 8 _).mono ?_
  rintro e w1 ⟨rfl, rfl⟩
  rw [hin]
  clear hin
  go_wp2_with fail
  go_loopw [4] (fun i wr => ∃ k : Nat, ∃ v, i = .int .i64 k ∧ k ≤ n ∧ Hid (Nd 1 w ((w.alloc (.cells #[.int .i64 0, .slice none 0 0, .slice none 0 0] 78)).alloc (.cells #[.int .i64 0, .slice none 0 0, .slice none 0 0] 78)) wr v k)) (fun i _ => n - (intOf i).toNat)
  case atStart => exact ⟨0, .slice none 0 0, rfl, by omega, ⟨((Below.refl _ _).alloc (Nat.le_refl _) _).alloc (by simp) _, by simp, by simp, fun o _ => rfl, fun o => by simp, rfl, AP.nil _ _ _ _⟩⟩
  case round =>
    obtain ⟨k, v, rfl, hk, HR⟩ := hrel
    by_cases hlt : k < n
    · have hlt' : (k : Int) < (n : Int) := by omega
      have c1 := HR.out.cv
      have k7 : (k : Int) ≤ 7 := by omega
      have k0 : (0 : Int) ≤ (k : Int) := by omega
      have k8 : k ≤ 8 := by omega
      go_wp2_with fail
      go_region_law (first | (go_simp; go_at_call 100; refine (specNk k _ k0 k7).mono ?_; rintro e w1 ⟨G, C, rfl, hb1, hoq⟩; have hbd := drewB hb1; have d1 := cell_below c1 hbd; have d2 := fun o : Obj => cell_alloc d1 o) | (refine step_page rfl (.tmp 17) (.tmp 21) rfl HR.out k8 rfl hbd hoq (Nat.le_refl _) rfl ?_; intro g22 c22 w22 hc22 hf22 HN22))
      all_goals
        go_wp2_with fail
        go_roundw
        case rel => exact ⟨k + 1, _, by go_num, hlt, HN22⟩
        case measure => simp [intOf]; omega
    · have hkn : k = n := by omega
      subst hkn
      obtain ⟨a, cap, rfl⟩ := HR.out.form
      have c1 := HR.out.cv
      have c0 : wr.cell? ⟨w.heap.size + 1, 0, none⟩ = some (.int .i64 0) := by rw [HR.out.co 0 (by decide)]; simp
      have c2 : wr.cell? ⟨w.heap.size + 1, 2, none⟩ = some (.slice none 0 0) := by rw [HR.out.co 2 (by decide)]; simp
      have hr := HR.out.res
      have rc : ∀ o, wr.cell? ⟨w.heap.size, o, none⟩ = ((w.alloc (.cells #[.int .i64 0, .slice none 0 0, .slice none 0 0] 78)).alloc (.cells #[.int .i64 0, .slice none 0 0, .slice none 0 0] 78)).cell? ⟨w.heap.size, o, none⟩ := fun o => World.cell?_of_block (a := ⟨w.heap.size, o, none⟩) hr
      have rf : ∀ o, wr.frozen? ⟨w.heap.size, o, none⟩ = false := fun o => (World.frozen?_of_block (a := ⟨w.heap.size, o, none⟩) hr).trans (by simp)
      have r0 : wr.cell? ⟨w.heap.size, 0, none⟩ = some (.int .i64 0) := by rw [rc]; simp
      have r1 : wr.cell? ⟨w.heap.size, 1, none⟩ = some (.slice none 0 0) := by rw [rc]; simp
      have r2 : wr.cell? ⟨w.heap.size, 2, none⟩ = some (.slice none 0 0) := by rw [rc]; simp
      clear hr rc
      go_wp2_with fail
      refine bodyPost_ret (v := .agg #[.int .i64 0, .slice a k cap, .slice none 0 0]) (by simp [results, Try.results70, go_sem, *]) rfl ?_
      refine ⟨a, cap, rfl, nd_end HR.out ?_ (by simp [World.setCell])⟩
      repeat (first | exact Writes.refl _ _ _ | apply Writes.drew | refine Writes.setCell ?_ (by first | omega | (simp <;> omega)) (by first | omega | (simp <;> omega)) _)
set_option maxHeartbeats 2000000 in
theorem implPack3 (idn lsn : Int) (n : Nat) (K V : Nat → Int) (a : Option Addr) (cap : Nat) (w : World) (hn : n ≤ 140737488355328) (h : CellsAt w a n K V) (h0 : pf idn lsn n K V = 0) :
    Calls Try.prog 71 #[.agg #[.int .i64 idn, .int .i64 lsn, .slice a n cap]] w fun e w' => ∃ v, e = .returned (.agg #[.int .i64 0, v]) ∧ Below w.heap.size w w' ∧ w'.ownsRow w.heap.size 5 1 v (pgb idn lsn n K V).length (bl (pgb idn lsn n K V)) := by
  have hb0 : ∀ o1 o2, Below w.heap.size w ((w.alloc o1).alloc o2) := fun o1 o2 => ((Below.refl _ _).alloc (Nat.le_refl _) _).alloc (by simp) _
  · have HG : Hid (GoodP idn lsn n K V) := good_of h0
    have E : Hid (pf idn lsn n K V = 0) := h0
    have HBN : Hid (∀ b o, a = some ⟨b, o, none⟩ → n = 0 ∨ b < w.heap.size) := by
      intro b o e
      rcases h with h | ⟨b', o', e', hl, _⟩
      · exact .inl h
      · rw [e] at e'
        simp only [Option.some.injEq, Addr.mk.injEq, and_true] at e'
        exact .inr (by omega)
    go_enter Try.func71, Try.ntmps71
    go_wp2_with fail
    refine (implFault_any idn lsn n K V _ cap _ (by omega) (h.below (hb0 _ _))).mono ?_
    rintro e w1 ⟨rfl, hb1⟩
    rw [h0]
    have HA : Hid (CellsAt w1 a n K V) := (h.below (hb0 _ _)).below hb1
    obtain ⟨hc, hf⟩ := bcell hb1
    have hz : w.heap.size + 1 < w1.heap.size := by have hq := hb1.size; simp at hq; omega
    have k0 : w1.cell? ⟨w.heap.size, 0, none⟩ = some (.int .i64 idn) := by rw [hc _ _ (by simp <;> omega)]; simp [go_sem]
    have k1 : w1.cell? ⟨w.heap.size, 1, none⟩ = some (.int .i64 lsn) := by rw [hc _ _ (by simp <;> omega)]; simp [go_sem]
    have k2 : w1.cell? ⟨w.heap.size, 2, none⟩ = some (.slice a n cap) := by rw [hc _ _ (by simp <;> omega)]; simp [go_sem]
    have r0 : w1.cell? ⟨w.heap.size + 1, 0, none⟩ = some (.int .i64 0) := by simp [hc]
    have r1 : w1.cell? ⟨w.heap.size + 1, 1, none⟩ = some (.slice none 0 0) := by simp [hc]
    have f0 : ∀ i, w1.frozen? ⟨w.heap.size + 1, i, none⟩ = false := fun i => by simp [hf, go_sem]
    have m0 := fun o : Obj => cell_alloc k0 o
    have m1 := fun o : Obj => cell_alloc k1 o
    have m2 := fun o : Obj => cell_alloc k2 o
    have HB : Hid (Below w.heap.size w w1) := below_then (hb0 _ _) hb1
    clear h0 hc hf hb1 hb0 h
    go_wp2_with fail
    refine (putPage_any w1.heap.size idn lsn n K V a cap (w1.alloc (.cells #[.slice none 0 0] 142)) HG.out (by simp) (HA.out.below (below_new _ _)) ?_ ⟨by simp, by simp, World.ownsRow_nil _ _ _ _⟩).mono ?_
    · intro b o e
      rcases HBN.out b o e with h | h
      · exact .inl h
      · exact .inr (by omega)
    rintro e w3 ⟨rfl, v3, hm3, hos, htape, hout, hsz3, hblk⟩
    obtain ⟨a3, cap3, rfl, ho3⟩ := ownB_of_row hm3.2.2
    have HCP : Hid ((pgb idn lsn n K V).length ≤ cap3) := own_cap hm3.2.2
    have hc3 := hm3.1
    have hs3 : w1.heap.size + 1 ≤ w3.heap.size := by rw [World.size_alloc] at hsz3; exact hsz3
    have hbk : ∀ k, k < w1.heap.size → w3.heap[k]? = w1.heap[k]? := fun k hk => (hblk k (by rw [World.size_alloc]; omega) (by omega)).trans (Below.heap_alloc _ _ _ hk)
    have t0 : w3.cell? ⟨w.heap.size + 1, 0, none⟩ = some (.int .i64 0) := (World.cell?_of_block (w := w1) (a := ⟨w.heap.size + 1, 0, none⟩) (hbk _ hz)).trans r0
    have t1 : w3.cell? ⟨w.heap.size + 1, 1, none⟩ = some (.slice none 0 0) := (World.cell?_of_block (w := w1) (a := ⟨w.heap.size + 1, 1, none⟩) (hbk _ hz)).trans r1
    have fz : ∀ i, w3.frozen? ⟨w.heap.size + 1, i, none⟩ = false := fun i => (World.frozen?_of_block (w := w1) (a := ⟨w.heap.size + 1, i, none⟩) (hbk _ hz)).trans (f0 i)
    have HB3 : Hid (Below w.heap.size w w3) := ⟨hos.trans HB.out.os, htape.trans HB.out.tape, hout.trans HB.out.output, by have := HB.out.size; omega, fun k hk => (hbk k (by omega)).trans (HB.out.block k hk)⟩
    have HO3 : Hid (w3.ownsRow ((w1.alloc (.cells #[.slice none 0 0] 142)).heap.size + 1) 5 1 (.slice a3 (pgb idn lsn n K V).length cap3) (pgb idn lsn n K V).length (bl (pgb idn lsn n K V))) := hm3.2.2
    have hlo : w.heap.size + 1 < (w1.alloc (.cells #[.slice none 0 0] 142)).heap.size + 1 := by rw [World.size_alloc]; omega
    generalize hZ : pgb idn lsn n K V = Z at *
    have HZ : Hid (pgb idn lsn n K V = Z) := hZ
    clear hZ
    clear hm3 ho3 hblk hbk hos htape hout hsz3 r0 r1 f0 m0 m1 m2 k0 k1 k2 HA
    go_wp2_with fail
    refine bodyPost_ret (v := .agg #[.int .i64 0, .slice a3 Z.length cap3]) (by simp [results, Try.results71, go_sem, *]) rfl ?_
    rw [HZ.out]
    refine ⟨_, rfl, ?_, ?_⟩
    · repeat (first | exact HB3.out | apply Below.drew | refine Below.setCell ?_ (by first | omega | (simp <;> omega)) _)
    · refine rowB_down (B := (w1.alloc (.cells #[.slice none 0 0] 142)).heap.size + 1) ?_ (by omega)
      repeat (first | exact HO3.out | refine ownsRow_setCell_below ?_ (by first | exact hlo | (show w.heap.size + 1 < _; omega)) _)
/-- impl.PackPage of a page without cells. -/
theorem implNk (k : Int) (w : World) (h0 : 0 ≤ k) (h1 : k ≤ 7) :
    Calls Try.prog 71 #[.agg #[.int .i64 k, .int .i64 0, .slice none 0 0]] w fun e w' => ∃ G C, e = .returned (.agg #[.int .i64 0, .slice (some ⟨G, 0, none⟩) 48 C]) ∧ Below w.heap.size w w' ∧ w'.ownsRow w.heap.size 5 1 (.slice (some ⟨G, 0, none⟩) 48 C) 48 (bl (nB k)) := by
  refine (implPack3 k 0 0 (fun _ => 0) (fun _ => 0) none 0 w (by omega) (.inl rfl) (npf h0 h1)).mono ?_
  rintro e w' ⟨v, rfl, hb, ho⟩
  have hl : (pgb k 0 0 (fun _ => 0) (fun _ => 0)).length = 48 := nB_len k
  rw [hl] at ho
  obtain ⟨G, C, rfl, -, -⟩ := ho.form (by decide)
  exact ⟨G, C, rfl, hb, ho⟩
set_option maxHeartbeats 4000000 in
theorem implNd_ok (n : Nat) (w : World) (h1 : 1 ≤ n) (h8 : n ≤ 8) :
    Calls Try.prog 40 #[.int .i64 n] w fun e w' => ∃ a cap, e = .returned (.agg #[.int .i64 0, .slice a n cap, .slice none 0 0]) ∧ Below w.heap.size w w' ∧ OwnD w' w.heap.size w'.heap.size a none (nD n) := by
  have hin : inB n 1 8 = true := by simp [inB]; omega
  go_enter Try.func40, Try.ntmps40
  go_wp2_with fail
  refine (within_any n 1 8 _).mono ?_
  rintro e w1 ⟨rfl, rfl⟩
  rw [hin]
  clear hin
  go_wp2_with fail
  go_loopw [4, 10] (fun _ i wr => ∃ k : Nat, ∃ v, i = .int .i64 k ∧ k ≤ n ∧ Hid (Nd 0 w ((w.alloc (.cells #[.int .i64 0, .slice none 0 0, .slice none 0 0] 78)).alloc (.cells #[.slice none 0 0, .slice none 0 0] 39)) wr v k)) (fun _ i _ => n - (intOf i).toNat)
  case atStart => exact ⟨0, .slice none 0 0, rfl, by omega, ⟨((Below.refl _ _).alloc (Nat.le_refl _) _).alloc (by simp) _, by simp, by simp, fun o _ => rfl, fun o => by simp, rfl, AP.nil _ _ _ _⟩⟩
  case round =>
    obtain ⟨k, v, rfl, hk, HR⟩ := hrel
    by_cases hlt : k < n
    · have hlt' : (k : Int) < (n : Int) := by omega
      have c1 := HR.out.cv
      have k7 : (k : Int) ≤ 7 := by omega
      have k0 : (0 : Int) ≤ (k : Int) := by omega
      have k8 : k ≤ 8 := by omega
      have hf1 : ∀ w : World, (Instr.field 81 (.agg #[.int .i64 0, .int .i64 k, .int .i64 0, .slice none 0 0]) 1).run Try.prog w = .ok (.agg #[.int .i64 k, .int .i64 0, .slice none 0 0]) w := fun _ => by kernel_rfl
      have hf2 : ∀ (G C : Nat) (w : World), (Instr.field 113 (.agg #[.int .i64 0, .slice (some ⟨G, 0, none⟩) 48 C]) 1).run Try.prog w = .ok (.slice (some ⟨G, 0, none⟩) 48 C) w := fun _ _ _ => by kernel_rfl
      go_wp2_with fail
      go_region_law (first | (go_simp; go_at_call 41; refine (implNk0 k _ k0 k7).mono ?_; rintro e w0 ⟨rfl, hb0⟩; have hbd0 := drewB hb0; have d0 := cell_below c1 hbd0) | (go_simp; go_at_call 71; refine (implNk k _ k0 k7).mono ?_; rintro e w1 ⟨G, C, rfl, hb1, hoq⟩; have hbd := below_then hbd0 hb1; have hbq := hbd0.size; have d1 := cell_below c1 hbd; have d2 := fun o : Obj => cell_alloc d1 o) | (refine step_page rfl (.tmp 14) (.tmp 20) rfl HR.out k8 rfl hbd hoq hbq rfl ?_; intro g22 c22 w22 hc22 hf22 HN22))
      all_goals
        go_wp2_with fail
        go_roundw
        case rel => exact ⟨k + 1, _, by go_num, hlt, HN22⟩
        case measure => simp [intOf]; omega
    · have hkn : k = n := by omega
      subst hkn
      obtain ⟨a, cap, rfl⟩ := HR.out.form
      have c0 := HR.out.cv
      have c1 : wr.cell? ⟨w.heap.size + 1, 1, none⟩ = some (.slice none 0 0) := by rw [HR.out.co 1 (by decide)]; simp
      have hr := HR.out.res
      have rc : ∀ o, wr.cell? ⟨w.heap.size, o, none⟩ = ((w.alloc (.cells #[.int .i64 0, .slice none 0 0, .slice none 0 0] 78)).alloc (.cells #[.slice none 0 0, .slice none 0 0] 39)).cell? ⟨w.heap.size, o, none⟩ := fun o => World.cell?_of_block (a := ⟨w.heap.size, o, none⟩) hr
      have rf : ∀ o, wr.frozen? ⟨w.heap.size, o, none⟩ = false := fun o => (World.frozen?_of_block (a := ⟨w.heap.size, o, none⟩) hr).trans (by simp)
      have r0 : wr.cell? ⟨w.heap.size, 0, none⟩ = some (.int .i64 0) := by rw [rc]; simp
      have r1 : wr.cell? ⟨w.heap.size, 1, none⟩ = some (.slice none 0 0) := by rw [rc]; simp
      have r2 : wr.cell? ⟨w.heap.size, 2, none⟩ = some (.slice none 0 0) := by rw [rc]; simp
      clear hr rc
      go_wp2_with fail
      refine bodyPost_ret (v := .agg #[.int .i64 0, .slice a k cap, .slice none 0 0]) (by simp [results, Try.results40, go_sem, *]) rfl ?_
      refine ⟨a, cap, rfl, nd_end HR.out ?_ (by simp [World.setCell])⟩
      repeat (first | exact Writes.refl _ _ _ | apply Writes.drew | refine Writes.setCell ?_ (by first | omega | (simp <;> omega)) (by first | omega | (simp <;> omega)) _)
theorem nC_ok {n : Nat} (h1 : 1 ≤ n) (h8 : n ≤ 8) : nC n = 0 := by unfold nC; rw [if_pos (by omega)]
/-- What both answer, whatever the number is. -/
theorem specNd_any (x : Int) (w : World) : Calls Try.prog 70 #[.int .i64 x] w (DRes (nC x) (nD x.toNat) w) := by
  by_cases h : 1 ≤ x ∧ x ≤ 8
  · obtain ⟨n, rfl⟩ : ∃ n : Nat, x = n := ⟨x.toNat, by omega⟩
    refine (specNd_ok n w (by omega) (by omega)).mono ?_
    rintro e w' ⟨a, cap, rfl, hb, ho⟩
    unfold DRes rD
    rw [nC_ok (by omega) (by omega), if_pos rfl]
    exact ⟨a, none, cap, 0, rfl, hb, ho⟩
  · have hin : inB x 1 8 = false := by
      cases e : inB x 1 8
      · rfl
      · exact absurd (inB_iff.1 e) h
    have hc : nC x = 3 := by unfold nC; rw [if_neg h]
    rw [hc]
    clear hc h
    go_enter Try.func70, Try.ntmps70
    go_wp2_with fail
    refine (l1In_any x 1 8 _).mono ?_
    rintro e w1 ⟨rfl, rfl⟩
    rw [hin]
    clear hin
    go_wp2_with fail
    exact bodyPost_ret (v := .agg #[.int .i64 3, .slice none 0 0, .slice none 0 0]) (by simp [results, Try.results70, go_sem]) rfl (dres_bad (below_new _ _) (by decide))
theorem implNd_any (x : Int) (w : World) : Calls Try.prog 40 #[.int .i64 x] w (DRes (nC x) (nD x.toNat) w) := by
  by_cases h : 1 ≤ x ∧ x ≤ 8
  · obtain ⟨n, rfl⟩ : ∃ n : Nat, x = n := ⟨x.toNat, by omega⟩
    refine (implNd_ok n w (by omega) (by omega)).mono ?_
    rintro e w' ⟨a, cap, rfl, hb, ho⟩
    unfold DRes rD
    rw [nC_ok (by omega) (by omega), if_pos rfl]
    exact ⟨a, none, cap, 0, rfl, hb, ho⟩
  · have hin : inB x 1 8 = false := by
      cases e : inB x 1 8
      · rfl
      · exact absurd (inB_iff.1 e) h
    have hc : nC x = 3 := by unfold nC; rw [if_neg h]
    rw [hc]
    clear hc h
    go_enter Try.func40, Try.ntmps40
    go_wp2_with fail
    refine (within_any x 1 8 _).mono ?_
    rintro e w1 ⟨rfl, rfl⟩
    rw [hin]
    clear hin
    go_wp2_with fail
    exact bodyPost_ret (v := .agg #[.int .i64 3, .slice none 0 0, .slice none 0 0]) (by simp [results, Try.results40, go_sem]) rfl (dres_bad (below_new _ _) (by decide))
end Go.Proofs.Ytjggplfhkejbbaa
