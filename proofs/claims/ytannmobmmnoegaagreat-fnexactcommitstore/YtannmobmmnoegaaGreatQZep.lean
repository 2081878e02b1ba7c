/- A store's copy at work, and the log of it behind one more record. -/
import Derived.Test.YtannmobmmnoegaaGreatQZei
import Derived.Test.YtannmobmmnoegaaGreatQZec
import Derived.Test.YtannmobmmnoegaaGreatQAp
import Derived.Deep.AppendLies
namespace Go.Proofs.YtannmobmmnoegaaGreat
open Go.ChangeShapes Go.WideShapes Go.ChangeAt Go.RowKit Go.Deep Go.Joins
set_option linter.unusedVariables false
set_option linter.unusedSimpArgs false
set_option maxRecDepth 20000

theorem cellB {w w' : World} {b o : Nat} (e : w'.heap[b]? = w.heap[b]?) : w'.cell? ⟨b, o, none⟩ = w.cell? ⟨b, o, none⟩ := World.cell?_of_block (w := w) (a := ⟨b, o, none⟩) e
theorem frozB {w w' : World} {b o : Nat} (e : w'.heap[b]? = w.heap[b]?) : w'.frozen? ⟨b, o, none⟩ = w.frozen? ⟨b, o, none⟩ := World.frozen?_of_block (w := w) (a := ⟨b, o, none⟩) e
/-- A store's copy at work in the box B: its lists in blocks of colours, its records as a row, and how a record is appended. -/
def Wk (s : Sto) (n : Nat) (xs : List Value) (lo : Nat) (col : Nat → Nat) (B : Nat) (w : World) : Prop :=
  ∃ b0 e0 b1 e1 b2 e2 b3 e3 b4 e4 b5 e5 b6 e6 ra rc, lo ≤ B ∧ BoxS w B (.int .i64 s.nx) (.slice b0 s.pn e0) (.slice b1 s.d.n e1) (.slice b2 s.d.m e2) (.slice b3 s.g.n1 e3) (.slice b4 s.g.n2 e4) (.slice b5 s.hn e5) (.slice b6 s.on e6) ∧ w.cell? ⟨B, 8, none⟩ = some (.slice ra n rc) ∧ w.cell? ⟨B, 9, none⟩ = some (.func (Fn.func 170) #[] #[]) ∧ (∀ i, w.frozen? ⟨B, i, none⟩ = false) ∧ col B = 0 ∧ Pce s lo col true true s.pn (.slice b0 s.pn e0) (.slice b1 s.d.n e1) (.slice b2 s.d.m e2) (.slice b3 s.g.n1 e3) (.slice b4 s.g.n2 e4) (.slice b5 s.hn e5) (.slice b6 s.on e6) w ∧ w.ownsRow lo 67 8 (.slice ra n rc) n xs ∧ ∀ q, (Value.slice ra n rc).ownBlock = some q → col q = 6
theorem Wk.lt {s : Sto} {n : Nat} {xs : List Value} {lo : Nat} {col : Nat → Nat} {B : Nat} {w : World} (H : Wk s n xs lo col B w) : lo ≤ B ∧ B < w.heap.size ∧ ∀ x, col x ≠ 0 → lo ≤ x ∧ x < w.heap.size := by
  obtain ⟨b0, e0, b1, e1, b2, e2, b3, e3, b4, e4, b5, e5, b6, e6, ra, rc, h1, h2, _, _, _, _, h3, _⟩ := H
  exact ⟨h1, h2.lt, h3.hc⟩
theorem Wk.keep {s : Sto} {n : Nat} {xs : List Value} {lo : Nat} {col : Nat → Nat} {B : Nat} {w w' : World} (H : Wk s n xs lo col B w) (hs : w.heap.size ≤ w'.heap.size) (hk : ∀ x, x = B ∨ col x ≠ 0 → x < w.heap.size → w'.heap[x]? = w.heap[x]?) : Wk s n xs lo col B w' := by
  obtain ⟨b0, e0, b1, e1, b2, e2, b3, e3, b4, e4, b5, e5, b6, e6, ra, rc, h1, ⟨h2, h3, h4, h5, h6, h7, h8, h9⟩, g1, g2, g3, g4, g5, g6, g7⟩ := H
  have hB : B < w.heap.size := Go.block_lt_of_cell h2
  have e : w'.heap[B]? = w.heap[B]? := hk B (.inl rfl) hB
  have ec : ∀ o, w'.cell? ⟨B, o, none⟩ = w.cell? ⟨B, o, none⟩ := fun o => cellB e
  refine ⟨b0, e0, b1, e1, b2, e2, b3, e3, b4, e4, b5, e5, b6, e6, ra, rc, h1, ⟨by rw [ec]; exact h2, by rw [ec]; exact h3, by rw [ec]; exact h4, by rw [ec]; exact h5, by rw [ec]; exact h6, by rw [ec]; exact h7, by rw [ec]; exact h8, by rw [ec]; exact h9⟩, by rw [ec]; exact g1, by rw [ec]; exact g2, fun i => (frozB e).trans (g3 i), g4, g5.keep hs fun x hx hl => hk x (.inr hx) hl, ownsRow_of g6 fun q hq => hk q (.inr (by rw [g7 q hq]; omega)) (g6.lt q hq).2, g7⟩
theorem Wk.below {s : Sto} {n : Nat} {xs : List Value} {lo : Nat} {col : Nat → Nat} {B : Nat} {w w' : World} (H : Wk s n xs lo col B w) (hb : Below w.heap.size w w') : Wk s n xs lo col B w' := H.keep hb.size fun x _ hl => hb.block x hl
/-- workOn's answer in these words. -/
theorem WRes.wk {t : Sto} {w w' : World} {e : Ending} (H : WRes t w e w') : ∃ B col, e = .returned (.pointer (some ⟨B, 0, none⟩)) ∧ Below w.heap.size w w' ∧ Wk t (cnt (aZ t.g) (t.g.n1 + t.g.n2)) (rvs (aZ t.g) (cnt (aZ t.g) (t.g.n1 + t.g.n2))) w.heap.size col B w' := by
  obtain ⟨B, b0, e0, b1, e1, b2, e2, b3, e3, b4, e4, b5, e5, b6, e6, ra, rc, col, h1, h2, h3, h4, h5, h6, h7, h8, h9, h10, h11⟩ := H
  exact ⟨B, col, h1, h2, b0, e0, b1, e1, b2, e2, b3, e3, b4, e4, b5, e5, b6, e6, ra, rc, h3, h4, h5, h6, h7, h8, h9, h10, h11⟩
/-- What may turn while the copy is worked on. -/
def WkF (col : Nat → Nat) (B : Nat) (w w' : World) : Prop := WritesP (fun x => x = B ∨ col x ≠ 0) w w'
/-- A store behind one more record. -/
def lgS (s : Sto) (rs : List Int) : Sto := ⟨s.nx, s.pn, s.pT, s.d, apR s.g rs, s.hn, s.hK, s.hV, s.on, s.oF⟩
/-- Another log, in blocks that have no colour yet, is laid into the box. -/
theorem Wk.log {s : Sto} {n : Nat} {xs : List Value} {lo : Nat} {col : Nat → Nat} {B l h d1 d2 : Nat} {w : World} {x1 x2 : Option Addr} {rs : List Int} (H : Wk s n xs lo col B w) (hll : lo ≤ l) (hlh : l ≤ h) (hh : h ≤ w.heap.size) (hc : ∀ x, l ≤ x → x < h → col x = 0 ∧ x ≠ B) (hg : OwnG w l h x1 x2 (apR s.g rs)) :
    Wk (lgS s rs) n xs lo (colr col l h 3) B ((w.setCell ⟨B, 4, none⟩ (.slice x1 s.g.n1 d1)).setCell ⟨B, 5, none⟩ (.slice x2 (s.g.n2 + 13) d2)) := by
  obtain ⟨b0, e0, b1, e1, b2, e2, b3, e3, b4, e4, b5, e5, b6, e6, ra, rc, h1, ⟨h2, h3, h4, h5, h6, h7, h8, h9⟩, g1, g2, g3, g4, g5, g6, g7⟩ := H
  obtain ⟨W, hW⟩ : ∃ x, x = (w.setCell ⟨B, 4, none⟩ (.slice x1 s.g.n1 d1)).setCell ⟨B, 5, none⟩ (.slice x2 (s.g.n2 + 13) d2) := ⟨_, rfl⟩
  have hw : Writes B (B + 1) w W := by rw [hW]; exact ((Writes.refl _ _ _).setCell (p := ⟨B, 4, none⟩) (Nat.le_refl _) (Nat.lt_succ_self _) _).setCell (p := ⟨B, 5, none⟩) (Nat.le_refl _) (Nat.lt_succ_self _) _
  have hbx : BoxS W B (.int .i64 s.nx) (.slice b0 s.pn e0) (.slice b1 s.d.n e1) (.slice b2 s.d.m e2) (.slice x1 s.g.n1 d1) (.slice x2 (s.g.n2 + 13) d2) (.slice b5 s.hn e5) (.slice b6 s.on e6) := by
    rw [hW]
    refine ⟨?_, ?_, ?_, ?_, ?_, ?_, ?_, ?_⟩ <;> simp [go_sem, *]
  have q8 : W.cell? ⟨B, 8, none⟩ = some (.slice ra n rc) := by rw [hW]; simp [go_sem, *]
  have q9 : W.cell? ⟨B, 9, none⟩ = some (.func (Fn.func 170) #[] #[]) := by rw [hW]; simp [go_sem, *]
  have qf : ∀ i, W.frozen? ⟨B, i, none⟩ = false := fun i => by rw [hW, World.frozen?_setCell, World.frozen?_setCell]; exact g3 i
  rw [← hW]
  clear hW
  have hne : ∀ x, col x ≠ 0 → x < w.heap.size → W.heap[x]? = w.heap[x]? := fun x hx hl => hw.block x hl (by
    have : x ≠ B := fun e => by rw [e] at hx; exact hx g4
    omega)
  have hcr : ∀ x, col x ≠ 0 → colr col l h 3 x = col x := fun x hx => by
    unfold colr
    rw [if_neg (fun c => hx (hc x c.1 c.2).1)]
  have p1 := g5.keep hw.size hne
  have p2 := p1.recol (col' := colr col l h 3) (fun x hx => by
    by_cases c : l ≤ x ∧ x < h
    · have := hw.size; omega
    · unfold colr at hx; rw [if_neg c] at hx; exact p1.hc x hx) hcr
  refine ⟨b0, e0, b1, e1, b2, e2, x1, d1, x2, d2, b5, e5, b6, e6, ra, rc, h1, hbx, q8, q9, qf, ?_, ?_, ownsRow_of g6 fun q hq => hne q (by rw [g7 q hq]; omega) (g6.lt q hq).2, fun q hq => by rw [hcr q (by rw [g7 q hq]; omega)]; exact g7 q hq⟩
  · unfold colr
    by_cases c : l ≤ B ∧ B < h
    · exact absurd rfl (hc B c.1 c.2).2
    · rw [if_neg c]; exact g4
  · exact ⟨p2.hc, p2.ph, p2.po, p2.pp, p2.pd, fun _ => ⟨x1, d1, x2, d2, l, h, rfl, rfl, fun x k1 k2 => colr_new k1 k2, hg.writes hw (by
      by_cases c : l ≤ B ∧ B < h
      · exact absurd rfl (hc B c.1 c.2).2
      · omega)⟩⟩
/-- The records' row has grown and is laid into the box. -/
theorem Wk.recs {s : Sto} {n : Nat} {xs ys : List Value} {lo : Nat} {col : Nat → Nat} {B : Nat} {w w1 w2 : World} {ra : Option Addr} {rc g cap : Nat} (H : Wk s n xs lo col B w) (hra : w.cell? ⟨B, 8, none⟩ = some (.slice ra n rc)) (h01 : Below w.heap.size w w1) (hgr : w1.grownBy w2 (Value.slice ra n rc).ownBlock) (ho : w2.ownsRow lo 67 8 (.slice (some ⟨g, 0, none⟩) (n + 1) cap) (n + 1) ys) (hl : (Value.slice ra n rc).ownBlock = some g ∨ g = w1.heap.size) :
    Wk s (n + 1) ys lo (colr col w.heap.size w2.heap.size 6) B (w2.setCell ⟨B, 8, none⟩ (.slice (some ⟨g, 0, none⟩) (n + 1) cap)) ∧ WkF col B w (w2.setCell ⟨B, 8, none⟩ (.slice (some ⟨g, 0, none⟩) (n + 1) cap)) := by
  obtain ⟨b0, e0, b1, e1, b2, e2, b3, e3, b4, e4, b5, e5, b6, e6, ra', rc', h1, ⟨h2, h3, h4, h5, h6, h7, h8, h9⟩, g1, g2, g3, g4, g5, g6, g7⟩ := H
  rw [hra] at g1
  obtain ⟨rfl, rfl⟩ : ra = ra' ∧ rc = rc' := by
    injection g1 with g1
    injection g1 with g11 g12 g13
    exact ⟨g11, g13⟩
  have hB : B < w.heap.size := Go.block_lt_of_cell h2
  have hs1 := h01.size
  have hs2 := hgr.size
  obtain ⟨W, hW⟩ : ∃ x, x = w2.setCell ⟨B, 8, none⟩ (.slice (some ⟨g, 0, none⟩) (n + 1) cap) := ⟨_, rfl⟩
  have hw : Writes B (B + 1) w2 W := by rw [hW]; exact (Writes.refl _ _ _).setCell (p := ⟨B, 8, none⟩) (Nat.le_refl _) (Nat.lt_succ_self _) _
  have eq2 : ∀ x, x < w.heap.size → col x ≠ 6 → w2.heap[x]? = w.heap[x]? := fun x hx hc => (hgr.block x (by omega) (fun e => hc (g7 x e.symm))).trans (h01.block x hx)
  have ec : ∀ o, w2.cell? ⟨B, o, none⟩ = w.cell? ⟨B, o, none⟩ := fun o => cellB (eq2 B hB (by rw [g4]; omega))
  have hq8 : w2.cell? ⟨B, 8, none⟩ = some (.slice ra n rc) := (ec 8).trans hra
  have hbx : BoxS W B (.int .i64 s.nx) (.slice b0 s.pn e0) (.slice b1 s.d.n e1) (.slice b2 s.d.m e2) (.slice b3 s.g.n1 e3) (.slice b4 s.g.n2 e4) (.slice b5 s.hn e5) (.slice b6 s.on e6) := by
    rw [hW]
    refine ⟨?_, ?_, ?_, ?_, ?_, ?_, ?_, ?_⟩ <;> simp [go_sem, ec, *]
  have q8 : W.cell? ⟨B, 8, none⟩ = some (.slice (some ⟨g, 0, none⟩) (n + 1) cap) := by rw [hW]; simp [go_sem, hq8]
  have q9 : W.cell? ⟨B, 9, none⟩ = some (.func (Fn.func 170) #[] #[]) := by rw [hW]; simp [go_sem, ec, *]
  have qf : ∀ i, W.frozen? ⟨B, i, none⟩ = false := fun i => by rw [hW, World.frozen?_setCell]; exact (frozB (eq2 B hB (by rw [g4]; omega))).trans (g3 i)
  have eW : ∀ x, x < w.heap.size → col x ≠ 6 → x ≠ B → W.heap[x]? = w.heap[x]? := fun x hx hc hn => (hw.block x (by omega) (by omega)).trans (eq2 x hx hc)
  have hos : W.os = w.os ∧ W.tape = w.tape ∧ W.output = w.output := ⟨hw.os.trans (hgr.os.trans h01.os), hw.tape.trans (hgr.tape.trans h01.tape), hw.output.trans (hgr.output.trans h01.output)⟩
  have hsW : w2.heap.size ≤ W.heap.size := hw.size
  rw [← hW]
  clear hW
  have hcr : ∀ x, col x ≠ 0 → colr col w.heap.size w2.heap.size 6 x = col x := fun x hx => colr_old (g5.hc x hx).2
  have gB : g ≠ B := fun e => by
    rcases hl with hl | hl
    · have := g7 g hl; rw [e, g4] at this; omega
    · omega
  have c6 : colr col w.heap.size w2.heap.size 6 g = 6 := by
    rcases hl with hl | hl
    · rw [hcr g (by rw [g7 g hl]; omega)]; exact g7 g hl
    · refine colr_new (by omega) ?_
      exact (ho.lt g rfl).2
  refine ⟨⟨b0, e0, b1, e1, b2, e2, b3, e3, b4, e4, b5, e5, b6, e6, some ⟨g, 0, none⟩, cap, h1, hbx, q8, q9, qf, by rw [colr_old hB]; exact g4, ?_, ownsRow_of ho fun q hq => hw.block q (ho.lt q hq).2 ?_, fun q hq => by simp only [Value.ownBlock, Option.some.injEq] at hq; rw [← hq]; exact c6⟩, ⟨hos.1, hos.2.1, hos.2.2, by omega, fun x hx hn => eW x hx (fun e => hn (.inr (by rw [e]; omega))) (fun e => hn (.inl e))⟩⟩
  · obtain ⟨k1, ⟨k2, k3⟩, ⟨k4, k5⟩, ⟨M, top, m1, m2, m3, m4⟩, k6, k7⟩ := g5
    have kk : ∀ x j, j ≠ 0 → j ≠ 6 → col x = j → x < w.heap.size → W.heap[x]? = w.heap[x]? := fun x j hj0 hj6 hx hlx => eW x hlx (by omega) (fun e => by rw [e, g4] at hx; omega)
    have cc : ∀ x j, j ≠ 0 → col x = j → colr col w.heap.size w2.heap.size 6 x = j := fun x j hj hx => by rw [hcr x (by omega)]; exact hx
    have hsw : w.heap.size ≤ W.heap.size := by omega
    refine ⟨fun x hx => ?_, ⟨ownsRow_of k2 fun q hq => kk q 4 (by omega) (by omega) (k3 q hq) (k2.lt q hq).2, fun q hq => cc q 4 (by omega) (k3 q hq)⟩, ⟨ownsRow_of k4 fun q hq => kk q 5 (by omega) (by omega) (k5 q hq) (k4.lt q hq).2, fun q hq => cc q 5 (by omega) (k5 q hq)⟩, ⟨M, top, m1, m2, fun x x1 x2 => cc x 1 (by omega) (m3 x x1 x2), m4.keep hsw fun x x1 x2 x3 => kk x 1 (by omega) (by omega) (m3 x x1 x2) x3⟩, fun e => ?_, fun e => ?_⟩
    · by_cases c : w.heap.size ≤ x ∧ x < w2.heap.size
      · omega
      · unfold colr at hx; rw [if_neg c] at hx; have := k1 x hx; omega
    · obtain ⟨a, c, a', c', l, h, p1, p2, p3, p4⟩ := k6 e
      exact ⟨a, c, a', c', l, h, p1, p2, fun x x1 x2 => cc x 2 (by omega) (p3 x x1 x2), p4.keep hsw fun x x1 x2 x3 => kk x 2 (by omega) (by omega) (p3 x x1 x2) x3⟩
    · obtain ⟨a, c, a', c', l, h, p1, p2, p3, p4⟩ := k7 e
      exact ⟨a, c, a', c', l, h, p1, p2, fun x x1 x2 => cc x 3 (by omega) (p3 x x1 x2), p4.keep hsw fun x x1 x2 x3 => kk x 3 (by omega) (by omega) (p3 x x1 x2) x3⟩
  · simp only [Value.ownBlock, Option.some.injEq] at hq
    omega
/-! ### one record as a slice, and appended -/
def rv8 (k t key : Int) (hd : Bool) (old : Int) (hs : Bool) (nw bk : Int) : List Value := [.int .i64 k, .int .i64 t, .int .i64 key, .bool hd, .int .i64 old, .bool hs, .int .i64 nw, .int .i64 bk]
theorem rv8_one (k t key : Int) (hd : Bool) (old : Int) (hs : Bool) (nw bk : Int) : ∀ u ∈ rv8 k t key hd old hs nw bk, u.oneCell' = true := by
  intro u hu
  simp [rv8] at hu
  rcases hu with rfl | rfl | rfl | rfl | rfl | rfl | rfl | rfl <;> rfl
theorem box8_list {w : World} {b : Nat} {k t key : Int} {hd : Bool} {old : Int} {hs : Bool} {nw bk : Int} (h : Box8 w b k t key hd old hs nw bk) : ∀ j u, (rv8 k t key hd old hs nw bk)[j]? = some u → w.cell? ⟨b, 0 + j, none⟩ = some u := by
  intro j u hu
  obtain ⟨h0, h1, h2, h3, h4, h5, h6, h7⟩ := h
  have hd : j < 8 := by have := (List.getElem?_eq_some_iff.1 hu).1; simpa [rv8] using this
  have : j = 0 ∨ j = 1 ∨ j = 2 ∨ j = 3 ∨ j = 4 ∨ j = 5 ∨ j = 6 ∨ j = 7 := by omega
  rcases this with rfl | rfl | rfl | rfl | rfl | rfl | rfl | rfl
  · rw [← hu]; exact h0
  · rw [← hu]; exact h1
  · rw [← hu]; exact h2
  · rw [← hu]; exact h3
  · rw [← hu]; exact h4
  · rw [← hu]; exact h5
  · rw [← hu]; exact h6
  · rw [← hu]; exact h7
theorem infoRec : (Tryz.prog.info? 67).map (fun i => (i.zero, i.size, i.bytes)) = some (some (.agg #[.int .i64 0, .int .i64 0, .int .i64 0, .bool false, .int .i64 0, .bool false, .int .i64 0, .int .i64 0]), 8, 64) := by kernel_rfl
theorem run_bsRec (w : World) (k t key : Int) (hd : Bool) (old : Int) (hs : Bool) (nw bk : Int) : (Instr.buildSlice 78 1 #[(0, .agg #[.int .i64 k, .int .i64 t, .int .i64 key, .bool hd, .int .i64 old, .bool hs, .int .i64 nw, .int .i64 bk])]).run Tryz.prog w = .ok (.slice (some ⟨w.heap.size, 0, none⟩) 1 1) (w.alloc (.cells #[.int .i64 k, .int .i64 t, .int .i64 key, .bool hd, .int .i64 old, .bool hs, .int .i64 nw, .int .i64 bk] 67)) := by
  obtain ⟨i0, hi, hzz⟩ := Option.map_eq_some_iff.1 infoRec
  simp only [Prod.mk.injEq] at hzz
  obtain ⟨hz0, hz1, hz2⟩ := hzz
  simp [Instr.buildSlice, Sem.run_bind, run_underlying Tryz.underlying78, sizeOf, typeInfo, hi, hz1, zeroValue, hz0, Instr.fill, Value.cells, newRow, show Array.range 8 = #[0, 1, 2, 3, 4, 5, 6, 7] from rfl]
theorem step_bsRec {ops : Array Oper} {o : Oper} {a : Act} {K : Act → World → Prop} {Q : Exit → Act → World → Prop} {E : Prop} (w : World) (d : Option Tmp) (hdd : o.dst = d) (hgd : o.guard = none) (x : Operand) (ho : o.op = .buildSlice 78 1 #[(0, x)]) (k t key : Int) (hd : Bool) (old : Int) (hs : Bool) (nw bk : Int) (hx : a.eval x = .agg #[.int .i64 k, .int .i64 t, .int .i64 key, .bool hd, .int .i64 old, .bool hs, .int .i64 nw, .int .i64 bk])
    (h : ∀ X w', Box8 w' X k t key hd old hs nw bk → w.heap.size ≤ X → Below w.heap.size w w' → K (a.put d (.slice (some ⟨X, 0, none⟩) 1 1)) w') : if Region.wanted o (yielded ops a.tmps) = true then Oper.wp Tryz.prog o a w K Q else E := by
  have hw : Region.wanted o (yielded ops a.tmps) = true := by simp [Region.wanted, hgd]
  rw [if_pos hw]
  subst hdd
  unfold Oper.wp execOp
  simp only [ho, hx, List.map_toArray, List.map_cons, List.map_nil, run_bsRec w, Sem.run_bind, Sem.run_pure, Result.andThen_ok]
  exact h _ _ ⟨by simp [go_sem], by simp [go_sem], by simp [go_sem], by simp [go_sem], by simp [go_sem], by simp [go_sem], by simp [go_sem], by simp [go_sem]⟩ (Nat.le_refl _) (below_new _ _)
theorem step_appRec {ops : Array Oper} {o : Oper} {a : Act} {K : Act → World → Prop} {Q : Exit → Act → World → Prop} {E : Prop} (w : World) (d : Option Tmp) (hdd : o.dst = d) (hgd : o.guard = none) (s x : Operand)
    (ho : o.op = .call { callee := .builtin .append, args := #[s, x], argTypes := #[78, 78] })
    (base : Nat) (v : Value) (n : Nat) (xs : List Value) (hs0 : a.eval s = v) (hown : w.ownsRow base 67 8 v n xs)
    (X cx : Nat) (k t key : Int) (hd : Bool) (old : Int) (hs : Bool) (nw bk : Int) (hx : a.eval x = .slice (some ⟨X, 0, none⟩) 1 cx) (hC : Box8 w X k t key hd old hs nw bk) (hlen : n ≤ 100000) (hbase : base ≤ w.heap.size)
    (h : ∀ g cap w', w'.ownsRow base 67 8 (.slice (some ⟨g, 0, none⟩) (n + 1) cap) (n + 1) (xs ++ rv8 k t key hd old hs nw bk) → w.grownBy w' v.ownBlock → v.ownBlock = some g ∨ g = w.heap.size → K (a.put d (.slice (some ⟨g, 0, none⟩) (n + 1) cap)) w') : if Region.wanted o (yielded ops a.tmps) = true then Oper.wp Tryz.prog o a w K Q else E := by
  have hw : Region.wanted o (yielded ops a.tmps) = true := by simp [Region.wanted, hgd]
  rw [if_pos hw]
  subst hdd
  obtain ⟨i0, hi, hzz⟩ := Option.map_eq_some_iff.1 infoRec
  simp only [Prod.mk.injEq] at hzz
  obtain ⟨hz0, hz1, hz2⟩ := hzz
  refine wp_append_lies w s x 78 ho base 67 i0 _ 8 64 Tryz.underlying78 hi hz0 hz1 hz2 rfl (by decide) v n xs hs0 hown ⟨X, 0, none⟩ 1 cx (rv8 k t key hd old hs nw bk) hx rfl (fun j u hj => ?_) (rv8_one k t key hd old hs nw bk) (by omega) (by unfold maxLen; omega) (by omega) hbase _ rfl fun g cap w' h2 h3 h4 h5 => h g cap w' h2 h3 h4
  rw [WideShapes.add_plain]
  exact box8_list hC j u hj
/-! ### AppendRec in these words -/
def ApK (L : Lo) (rs : List Int) (y : World) (e : Ending) (w1 : World) : Prop :=
  ∃ c su x1 m1 d1 x2 m2 d2, e = .returned (.agg #[.int .i64 c, .int .i64 su, .slice x1 m1 d1, .slice x2 m2 d2]) ∧ Below y.heap.size y w1 ∧ (c = 2 ∧ 4000 < L.n1 + L.n2 + 13 ∨ c = 0 ∧ L.n1 + L.n2 + 13 ≤ 4000 ∧ m1 = L.n1 ∧ m2 = L.n2 + 13 ∧ OwnG w1 y.heap.size w1.heap.size x1 x2 (apR L rs))
theorem appendRec_k (L : Lo) (a1 a2 : Option Addr) (c1 c2 : Nat) (k t key : Int) (hd : Bool) (old : Int) (hs : Bool) (nw bk : Int) (w : World) (hsz : L.n1 + L.n2 ≤ 4000) (hlg : lgC L = 0) (hrf : rf k t key hd old hs nw bk = 0) (hby : LogByt L) (h : LogAt w a1 a2 L) :
    Calls Tryz.prog 170 #[.agg #[.slice a1 L.n1 c1, .slice a2 L.n2 c2], .agg #[.int .i64 k, .int .i64 t, .int .i64 key, .bool hd, .int .i64 old, .bool hs, .int .i64 nw, .int .i64 bk]] w (ApK L (rb k t key hd old hs nw bk) w) := by
  refine (implAr_any L a1 a2 c1 c2 k t key hd old hs nw bk w (by omega) (by omega) hby h).mono ?_
  rintro e w1 ⟨x1, x2, d1, d2, rfl, hb, ho⟩
  by_cases c : L.n1 + L.n2 + 13 ≤ 4000
  · obtain ⟨q1, q2, q3⟩ := ap_ok (rb k t key hd old hs nw bk) hlg hrf c
    rw [q3] at ho
    rw [q1, q3]
    exact ⟨_, _, _, _, _, _, _, _, rfl, hb, .inr ⟨rfl, c, rfl, rfl, ho⟩⟩
  · obtain ⟨q1, q2, q3⟩ := ap_full (rb k t key hd old hs nw bk) hlg hrf (by omega)
    rw [q1, q3]
    exact ⟨_, _, _, _, _, _, _, _, rfl, hb, .inl ⟨rfl, by omega⟩⟩
/-- What is told, in its box d. -/
def TA (L : Lo) (rs : List Int) (W wx : World) (d : Nat) (c su : Int) (x1 : Option Addr) (m1 d1 : Nat) (x2 : Option Addr) (m2 d2 : Nat) : Prop :=
  W.heap.size ≤ d ∧ Below W.heap.size W wx ∧ Box4 wx d (.int .i64 c) (.int .i64 su) (.slice x1 m1 d1) (.slice x2 m2 d2) ∧ (c = 2 ∧ 4000 < L.n1 + L.n2 + 13 ∨ c = 0 ∧ L.n1 + L.n2 + 13 ≤ 4000 ∧ m1 = L.n1 ∧ m2 = L.n2 + 13 ∧ ∃ l h, W.heap.size ≤ l ∧ l ≤ h ∧ h ≤ wx.heap.size ∧ (d < l ∨ h ≤ d) ∧ OwnG wx l h x1 x2 (apR L rs))
section
variable {L : Lo} {rs : List Int} {W y0 w1 : World} {c su : Int} {x1 x2 : Option Addr} {m1 d1 m2 d2 : Nat}
theorem TA.a (ty : TypeId) (h0 : Below W.heap.size W y0) (hb : Below y0.heap.size y0 w1) (hk : c = 2 ∧ 4000 < L.n1 + L.n2 + 13 ∨ c = 0 ∧ L.n1 + L.n2 + 13 ≤ 4000 ∧ m1 = L.n1 ∧ m2 = L.n2 + 13 ∧ OwnG w1 y0.heap.size w1.heap.size x1 x2 (apR L rs)) :
    TA L rs W (w1.alloc (.cells #[.int .i64 c, .int .i64 su, .slice x1 m1 d1, .slice x2 m2 d2] ty)) w1.heap.size c su x1 m1 d1 x2 m2 d2 := by
  have hz0 := h0.size
  have hz1 := hb.size
  refine ⟨by omega, below_then (below_then h0 hb) (below_new _ _), Box4.new _ _ _ _ _ _, ?_⟩
  rcases hk with hk | ⟨k1, k2, k3, k4, k5⟩
  · exact .inl hk
  · exact .inr ⟨k1, k2, k3, k4, y0.heap.size, w1.heap.size, hz0, hz1, by simp, .inr (Nat.le_refl _), k5.below (below_new _ _)⟩
theorem TA.b {y1 : World} {u0 u1 u2 u3 : Value} (h0 : Below W.heap.size W y0) (h1 : Below y0.heap.size y0 y1) (hs1 : y1.heap.size = y0.heap.size + 1) (hbx : Box4 y1 y0.heap.size u0 u1 u2 u3) (hb : Below y1.heap.size y1 w1) (hk : c = 2 ∧ 4000 < L.n1 + L.n2 + 13 ∨ c = 0 ∧ L.n1 + L.n2 + 13 ≤ 4000 ∧ m1 = L.n1 ∧ m2 = L.n2 + 13 ∧ OwnG w1 y1.heap.size w1.heap.size x1 x2 (apR L rs)) :
    TA L rs W ((((w1.setCell ⟨y0.heap.size, 0, none⟩ (.int .i64 c)).setCell ⟨y0.heap.size, 1, none⟩ (.int .i64 su)).setCell ⟨y0.heap.size, 2, none⟩ (.slice x1 m1 d1)).setCell ⟨y0.heap.size, 3, none⟩ (.slice x2 m2 d2)) y0.heap.size c su x1 m1 d1 x2 m2 d2 := by
  have hz0 := h0.size
  have hz1 := hb.size
  obtain ⟨r0, r1, r2, r3⟩ := hbx.below hb
  have hw : Writes y0.heap.size (y0.heap.size + 1) w1 ((((w1.setCell ⟨y0.heap.size, 0, none⟩ (.int .i64 c)).setCell ⟨y0.heap.size, 1, none⟩ (.int .i64 su)).setCell ⟨y0.heap.size, 2, none⟩ (.slice x1 m1 d1)).setCell ⟨y0.heap.size, 3, none⟩ (.slice x2 m2 d2)) := by
    exact ((((Writes.refl _ _ _).setCell (p := ⟨y0.heap.size, 0, none⟩) (Nat.le_refl _) (Nat.lt_succ_self _) _).setCell (p := ⟨y0.heap.size, 1, none⟩) (Nat.le_refl _) (Nat.lt_succ_self _) _).setCell (p := ⟨y0.heap.size, 2, none⟩) (Nat.le_refl _) (Nat.lt_succ_self _) _).setCell (p := ⟨y0.heap.size, 3, none⟩) (Nat.le_refl _) (Nat.lt_succ_self _) _
  refine ⟨hz0, hw.below (below_then (below_then h0 h1) hb) hz0, ⟨?_, ?_, ?_, ?_⟩, ?_⟩
  · simp [go_sem, r0, r1, r2, r3]
  · simp [go_sem, r0, r1, r2, r3]
  · simp [go_sem, r0, r1, r2, r3]
  · simp [go_sem, r0, r1, r2, r3]
  · rcases hk with hk | ⟨k1, k2, k3, k4, k5⟩
    · exact .inl hk
    · exact .inr ⟨k1, k2, k3, k4, y1.heap.size, w1.heap.size, by omega, hz1, hw.size, .inl (by omega), k5.writes hw (.inr (by omega))⟩
end
/-- What tell answers, and what it does to the copy. -/
def TlR (s : Sto) (n : Nat) (xs : List Value) (lo : Nat) (col : Nat → Nat) (B : Nat) (k t key : Int) (hd : Bool) (old : Int) (hs : Bool) (nw bk : Int) (w : World) (e : Ending) (w' : World) : Prop :=
  (4000 < s.g.n1 + s.g.n2 + 13 ∧ e = .returned (.agg #[.int .i64 2, .int .i64 0]) ∧ Below w.heap.size w w') ∨ (s.g.n1 + s.g.n2 + 13 ≤ 4000 ∧ e = .returned (.agg #[.int .i64 0, .int .i64 ((n + 1 : Nat) : Int)]) ∧ ∃ col', (∀ x, x < w.heap.size → col' x ≠ 0 → col x ≠ 0) ∧ WkF col B w w' ∧ Wk (lgS s (rb k t key hd old hs nw bk)) (n + 1) (xs ++ rv8 k t key hd old hs nw bk) lo col' B w')
theorem tl_end {s s' : Sto} {n n' : Nat} {xs xs' : List Value} {lo : Nat} {col : Nat → Nat} {B l h k6 : Nat} {w W wc V Z : World} (HK : Wk s n xs lo col B w) (h0 : Below w.heap.size w W) (hW : W.heap.size = w.heap.size + 2) (h1 : Below W.heap.size W wc) (h2 : Writes B (B + 1) wc V) (hV : V.heap.size = wc.heap.size) (hl : W.heap.size ≤ l ∧ l ≤ h ∧ h ≤ wc.heap.size) (h3 : Wk s' n' xs' lo (colr (colr col l h 3) V.heap.size k6 6) B Z) (h4 : WkF (colr col l h 3) B V Z) :
    ∀ Z', Writes (w.heap.size + 1) (w.heap.size + 2) Z Z' → ∃ col', (∀ x, x < w.heap.size → col' x ≠ 0 → col x ≠ 0) ∧ WkF col B w Z' ∧ Wk s' n' xs' lo col' B Z' := by
  intro Z' hw
  obtain ⟨k1, k2, k3⟩ := HK.lt
  have s1 := h1.size
  have s2 := h2.size
  have s4 := h4.size
  have s5 := hw.size
  refine ⟨_, fun x hx hc => ?_, ⟨hw.os.trans (h4.os.trans (h2.os.trans (h1.os.trans h0.os))), hw.tape.trans (h4.tape.trans (h2.tape.trans (h1.tape.trans h0.tape))), hw.output.trans (h4.output.trans (h2.output.trans (h1.output.trans h0.output))), by omega, fun x hx hn => ?_⟩, h3.keep hw.size fun x hx hl3 => hw.block x hl3 ?_⟩
  · rw [colr_old (by omega), colr_old (by omega)] at hc
    exact hc
  · have n1 : x ≠ B := fun e => hn (.inl e)
    have n2 : col x = 0 := by
      by_cases e : col x = 0
      · exact e
      · exact absurd (.inr e) hn
    rw [hw.block x (by omega) (by omega), h4.block x (by omega) (fun c => ?_), h2.block x (by omega) (by omega), h1.block x (by omega), h0.block x hx]
    rcases c with c | c
    · exact n1 c
    · exact c (by rw [colr_old (by omega)]; exact n2)
  · rcases hx with rfl | hx
    · omega
    · have : x ≠ w.heap.size + 1 := fun e => by
        subst e
        rw [colr_old (by omega), colr_old (by omega)] at hx
        have := (k3 _ hx).2
        omega
      omega
end Go.Proofs.YtannmobmmnoegaaGreat
