/- impl.BeginStore$1: a transaction begun in a store at work. -/
import Derived.Test.YtannmobmmnoegaaGreatQZeq
import Derived.Test.YtannmobmmnoegaaGreatQZee
namespace Go.Proofs.YtannmobmmnoegaaGreat
open Go.ChangeShapes Go.WideShapes Go.ChangeAt Go.RowKit Go.Deep Go.Joins
set_option linter.unusedVariables false
set_option linter.unusedSimpArgs false
set_option maxRecDepth 20000

/-- A store in which z is open too, and whose next one is y. -/
def opS (s : Sto) (y z : Int) : Sto := ⟨y, s.pn, s.pT, s.d, s.g, s.hn, s.hK, s.hV, s.on + 1, apI s.oF s.on z⟩
theorem ivs_up (F : Nat → Int) (n : Nat) (z : Int) : ivs F n ++ [.int .i64 z] = ivs (apI F n z) (n + 1) := by
  rw [ivs_succ]
  congr 1
  · unfold ivs
    refine List.map_congr_left fun i hi => ?_
    have : i < n := List.mem_range.1 hi
    simp [apI, this]
  · simp [apI]
theorem infoInt : (Tryz.prog.info? 2).map (fun i => (i.zero, i.size, i.bytes)) = some (some (.int .i64 0), 1, 8) := by kernel_rfl
theorem wpList_appOn {ops : Array Oper} {rest : List Oper} {o : Oper} {a : Act} {Q : Exit → Act → World → Prop} (w : World) (hgd : o.guard = none) (s x : Operand)
    (ho : o.op = .call { callee := .builtin .append, args := #[s, x], argTypes := #[31, 31] })
    (base : Nat) (v : Value) (n : Nat) (xs : List Value) (hs : a.eval s = v) (hown : w.ownsRow base 2 1 v n xs) (X cx : Nat) (z : Int) (hx : a.eval x = .slice (some ⟨X, 0, none⟩) 1 cx) (hc : w.cell? ⟨X, 0, none⟩ = some (.int .i64 z)) (hn : n ≤ 100000) (hbase : base ≤ w.heap.size)
    (h : ∀ g cap w', w'.ownsRow base 2 1 (.slice (some ⟨g, 0, none⟩) (n + 1) cap) (n + 1) (xs ++ [.int .i64 z]) → w.grownBy w' v.ownBlock → v.ownBlock = some g ∨ g = w.heap.size → wpList Tryz.prog ops Q rest (a.put o.dst (.slice (some ⟨g, 0, none⟩) (n + 1) cap)) w') : wpList Tryz.prog ops Q (o :: rest) a w := by
  obtain ⟨i0, hi, hzz⟩ := Option.map_eq_some_iff.1 infoInt
  simp only [Prod.mk.injEq] at hzz
  obtain ⟨hz0, hz1, hz2⟩ := hzz
  refine wpList_plain hgd fun _ hKK => wp_append_lies w s x 31 ho base 2 i0 _ 1 8 Tryz.underlying31 hi hz0 hz1 hz2 rfl (by decide) v n xs hs hown ⟨X, 0, none⟩ 1 cx [.int .i64 z] hx rfl (fun j u hj => ?_) (by intro u hu; simp at hu; subst hu; rfl) (by omega) (by unfold maxLen; omega) (by omega) hbase _ rfl fun g cap w' h2 h3 h4 h5 => hKK _ _ (h g cap w' h2 h3 h4)
  have hj0 : j = 0 := by
    have := (List.getElem?_eq_some_iff.1 hj).1
    simp at this
    exact this
  subst hj0
  simp at hj
  subst hj
  rw [WideShapes.add_plain]
  exact hc
/-- Who is open has grown and is laid into the box, the next number with it. -/
theorem Wk.opened {s : Sto} {n : Nat} {xs : List Value} {lo : Nat} {col : Nat → Nat} {B : Nat} {w w1 w2 : World} {ra : Option Addr} {rc g cap : Nat} {z : Int} (y : Int) (H : Wk s n xs lo col B w) (hra : w.cell? ⟨B, 7, none⟩ = some (.slice ra s.on rc)) (h01 : Below w.heap.size w w1) (hgr : w1.grownBy w2 (Value.slice ra s.on rc).ownBlock) (ho : w2.ownsRow lo 2 1 (.slice (some ⟨g, 0, none⟩) (s.on + 1) cap) (s.on + 1) (ivs s.oF s.on ++ [.int .i64 z])) (hl : (Value.slice ra s.on rc).ownBlock = some g ∨ g = w1.heap.size) :
    Wk (opS s y z) n xs lo (colr col w.heap.size w2.heap.size 5) B ((w2.setCell ⟨B, 7, none⟩ (.slice (some ⟨g, 0, none⟩) (s.on + 1) cap)).setCell ⟨B, 0, none⟩ (.int .i64 y)) ∧ WkF col B w ((w2.setCell ⟨B, 7, none⟩ (.slice (some ⟨g, 0, none⟩) (s.on + 1) cap)).setCell ⟨B, 0, none⟩ (.int .i64 y)) := by
  obtain ⟨b0, e0, b1, e1, b2, e2, b3, e3, b4, e4, b5, e5, b6, e6, ra', rc', h1, ⟨h2, h3, h4, h5, h6, h7, h8, h9⟩, g1, g2, g3, g4, g5, g6, g7⟩ := H
  rw [hra] at h9
  obtain ⟨rfl, rfl⟩ : ra = b6 ∧ rc = e6 := by
    injection h9 with h9
    injection h9 with g11 g12 g13
    exact ⟨g11, g13⟩
  have hB : B < w.heap.size := Go.block_lt_of_cell h2
  have hs1 := h01.size
  have hs2 := hgr.size
  have g8 := g5.po.2
  obtain ⟨W, hW⟩ : ∃ x, x = (w2.setCell ⟨B, 7, none⟩ (.slice (some ⟨g, 0, none⟩) (s.on + 1) cap)).setCell ⟨B, 0, none⟩ (.int .i64 y) := ⟨_, rfl⟩
  have hw : Writes B (B + 1) w2 W := by rw [hW]; exact ((Writes.refl _ _ _).setCell (p := ⟨B, 7, none⟩) (Nat.le_refl _) (Nat.lt_succ_self _) _).setCell (p := ⟨B, 0, none⟩) (Nat.le_refl _) (Nat.lt_succ_self _) _
  have eq2 : ∀ x, x < w.heap.size → col x ≠ 5 → w2.heap[x]? = w.heap[x]? := fun x hx hc => (hgr.block x (by omega) (fun e => hc (g8 x e.symm))).trans (h01.block x hx)
  have ec : ∀ o, w2.cell? ⟨B, o, none⟩ = w.cell? ⟨B, o, none⟩ := fun o => cellB (eq2 B hB (by rw [g4]; omega))
  have hq7 : w2.cell? ⟨B, 7, none⟩ = some (.slice ra s.on rc) := (ec 7).trans hra
  have hq0 : w2.cell? ⟨B, 0, none⟩ = some (.int .i64 s.nx) := (ec 0).trans h2
  have hbx : BoxS W B (.int .i64 y) (.slice b0 s.pn e0) (.slice b1 s.d.n e1) (.slice b2 s.d.m e2) (.slice b3 s.g.n1 e3) (.slice b4 s.g.n2 e4) (.slice b5 s.hn e5) (.slice (some ⟨g, 0, none⟩) (s.on + 1) cap) := by
    rw [hW]
    refine ⟨?_, ?_, ?_, ?_, ?_, ?_, ?_, ?_⟩ <;> simp [go_sem, ec, hq7, hq0, h3, h4, h5, h6, h7, h8, h2, hra]
  have q8 : W.cell? ⟨B, 8, none⟩ = some (.slice ra' n rc') := by rw [hW]; simp [go_sem, ec, g1]
  have q9 : W.cell? ⟨B, 9, none⟩ = some (.func (Fn.func 170) #[] #[]) := by rw [hW]; simp [go_sem, ec, g2]
  have qf : ∀ i, W.frozen? ⟨B, i, none⟩ = false := fun i => by rw [hW, World.frozen?_setCell, World.frozen?_setCell]; exact (frozB (eq2 B hB (by rw [g4]; omega))).trans (g3 i)
  have eW : ∀ x, x < w.heap.size → col x ≠ 5 → x ≠ B → W.heap[x]? = w.heap[x]? := fun x hx hc hn => (hw.block x (by omega) (by omega)).trans (eq2 x hx hc)
  have hos : W.os = w.os ∧ W.tape = w.tape ∧ W.output = w.output := ⟨hw.os.trans (hgr.os.trans h01.os), hw.tape.trans (hgr.tape.trans h01.tape), hw.output.trans (hgr.output.trans h01.output)⟩
  have hsW : w2.heap.size ≤ W.heap.size := hw.size
  rw [← hW]
  clear hW
  have hcr : ∀ x, col x ≠ 0 → colr col w.heap.size w2.heap.size 5 x = col x := fun x hx => colr_old (g5.hc x hx).2
  have gB : g ≠ B := fun e => by
    rcases hl with hl | hl
    · have := g8 g hl; rw [e, g4] at this; omega
    · omega
  have c5 : colr col w.heap.size w2.heap.size 5 g = 5 := by
    rcases hl with hl | hl
    · rw [hcr g (by rw [g8 g hl]; omega)]; exact g8 g hl
    · refine colr_new (by omega) ?_
      exact (ho.lt g rfl).2
  have kk : ∀ x j, j ≠ 0 → j ≠ 5 → col x = j → x < w.heap.size → W.heap[x]? = w.heap[x]? := fun x j hj0 hj6 hx hlx => eW x hlx (by omega) (fun e => by rw [e, g4] at hx; omega)
  have cc : ∀ x j, j ≠ 0 → col x = j → colr col w.heap.size w2.heap.size 5 x = j := fun x j hj hx => by rw [hcr x (by omega)]; exact hx
  refine ⟨⟨b0, e0, b1, e1, b2, e2, b3, e3, b4, e4, b5, e5, some ⟨g, 0, none⟩, cap, ra', rc', h1, hbx, q8, q9, qf, by rw [colr_old hB]; exact g4, ?_, ownsRow_of g6 fun q hq => kk q 6 (by omega) (by omega) (g7 q hq) (g6.lt q hq).2, fun q hq => cc q 6 (by omega) (g7 q hq)⟩, ⟨hos.1, hos.2.1, hos.2.2, by omega, fun x hx hn => eW x hx (fun e => hn (.inr (by rw [e]; omega))) (fun e => hn (.inl e))⟩⟩
  obtain ⟨k1, ⟨k2, k3⟩, ⟨k4, k5⟩, ⟨M, top, m1, m2, m3, m4⟩, k6, k7⟩ := g5
  have hsw : w.heap.size ≤ W.heap.size := by omega
  refine ⟨fun x hx => ?_, ⟨ownsRow_of k2 fun q hq => kk q 4 (by omega) (by omega) (k3 q hq) (k2.lt q hq).2, fun q hq => cc q 4 (by omega) (k3 q hq)⟩, ⟨?_, fun q hq => by simp only [Value.ownBlock, Option.some.injEq] at hq; rw [← hq]; exact c5⟩, ⟨M, top, m1, m2, fun x x1 x2 => cc x 1 (by omega) (m3 x x1 x2), m4.keep hsw fun x x1 x2 x3 => kk x 1 (by omega) (by omega) (m3 x x1 x2) x3⟩, fun e => ?_, fun e => ?_⟩
  · by_cases c : w.heap.size ≤ x ∧ x < w2.heap.size
    · omega
    · unfold colr at hx; rw [if_neg c] at hx; have := k1 x hx; omega
  · show W.ownsRow lo 2 1 (.slice (some ⟨g, 0, none⟩) (s.on + 1) cap) (s.on + 1) (ivs (apI s.oF s.on z) (s.on + 1))
    rw [← ivs_up]
    refine ownsRow_of ho fun q hq => hw.block q (ho.lt q hq).2 ?_
    simp only [Value.ownBlock, Option.some.injEq] at hq
    omega
  · obtain ⟨a, c, a', c', l, h, p1, p2, p3, p4⟩ := k6 e
    exact ⟨a, c, a', c', l, h, p1, p2, fun x x1 x2 => cc x 2 (by omega) (p3 x x1 x2), p4.keep hsw fun x x1 x2 x3 => kk x 2 (by omega) (by omega) (p3 x x1 x2) x3⟩
  · obtain ⟨a, c, a', c', l, h, p1, p2, p3, p4⟩ := k7 e
    exact ⟨a, c, a', c', l, h, p1, p2, fun x x1 x2 => cc x 3 (by omega) (p3 x x1 x2), p4.keep hsw fun x x1 x2 x3 => kk x 3 (by omega) (by omega) (p3 x x1 x2) x3⟩
/-- What turns a store at work answers: code c and, where that is 0, value v and the store R. -/
def CbR (c v : Int) (R : Sto) (lo B : Nat) (col : Nat → Nat) (w : World) (e : Ending) (w' : World) : Prop :=
  ∃ vv R' n' xs' col', e = .returned (.agg #[.int .i64 c, .int .i64 vv]) ∧ (c = 0 → vv = v ∧ R' = R) ∧ (∀ x, x < w.heap.size → col' x ≠ 0 → col x ≠ 0) ∧ WkF col B w w' ∧ Wk R' n' xs' lo col' B w'
theorem WkF.of_below {col : Nat → Nat} {B : Nat} {w w' : World} (h : Below w.heap.size w w') : WkF col B w w' := ⟨h.os, h.tape, h.output, h.size, fun x hx _ => h.block x hx⟩
theorem CbR.bad {c v : Int} {R s : Sto} {lo B n : Nat} {xs : List Value} {col : Nat → Nat} {w w' : World} (h0 : c ≠ 0) (H : Wk s n xs lo col B w) (hb : Below w.heap.size w w') (vv : Int) : CbR c v R lo B col w (.returned (.agg #[.int .i64 c, .int .i64 vv])) w' :=
  ⟨vv, s, n, xs, col, rfl, fun h => absurd h h0, fun _ _ h => h, WkF.of_below hb, H.below hb⟩
theorem rf_begin {x : Int} (h : 1 ≤ x ∧ x ≤ 999) : rf 1 x 0 false 0 false 0 0 = 0 := by
  obtain ⟨h1, h2⟩ := h
  simp [rf, rng, frm, txb, inB, h1, h2]
/-- The end: the answer's box is set. -/
theorem cb_end {c v : Int} {R : Sto} {n' : Nat} {xs' : List Value} {lo B : Nat} {col col1 col2 : Nat → Nat} {w w0 w1 w2 w3 w4 : World} (H : Wk R n' xs' lo col2 B w3) (h0 : Below w.heap.size w w0) (hc0 : ∀ x, col x ≠ 0 → x < w.heap.size) (hB : B < w.heap.size) (h01 : WkF col B w0 w1) (hc1 : ∀ x, x < w0.heap.size → col1 x ≠ 0 → col x ≠ 0) (h12 : Below w1.heap.size w1 w2) (h23 : WkF col1 B w2 w3) (hc2 : ∀ x, x < w2.heap.size → col2 x ≠ 0 → col1 x ≠ 0) (hN : w.heap.size < w0.heap.size) (h34 : Writes w.heap.size (w.heap.size + 1) w3 w4) (hc : c = 0) :
    CbR c v R lo B col w (.returned (.agg #[.int .i64 c, .int .i64 v])) w4 := by
  have s0 := h0.size
  have s1 := h01.size
  have s2 := h12.size
  have s3 := h23.size
  have s4 := h34.size
  have k1 : ∀ x, x < w0.heap.size → col x = 0 → col1 x = 0 := fun x hx e => by
    by_cases q : col1 x = 0
    · exact q
    · exact absurd e (hc1 x hx q)
  have k2 : ∀ x, x < w2.heap.size → col1 x = 0 → col2 x = 0 := fun x hx e => by
    by_cases q : col2 x = 0
    · exact q
    · exact absurd e (hc2 x hx q)
  have n0 : col w.heap.size = 0 := by
    by_cases q : col w.heap.size = 0
    · exact q
    · have := hc0 _ q; omega
  refine ⟨v, R, n', xs', col2, rfl, fun _ => ⟨rfl, rfl⟩, fun x hx q => hc1 x (by omega) (hc2 x (by omega) q), ⟨h34.os.trans (h23.os.trans (h12.os.trans (h01.os.trans h0.os))), h34.tape.trans (h23.tape.trans (h12.tape.trans (h01.tape.trans h0.tape))), h34.output.trans (h23.output.trans (h12.output.trans (h01.output.trans h0.output))), by omega, fun x hx hn => ?_⟩, H.keep s4 fun x hx hl => h34.block x hl ?_⟩
  · have n1 : x ≠ B := fun e => hn (.inl e)
    have n2 : col x = 0 := by
      by_cases e : col x = 0
      · exact e
      · exact absurd (.inr e) hn
    have n3 := k1 x (by omega) n2
    rw [h34.block x (by omega) (by omega), h23.block x (by omega) (fun q => by rcases q with q | q; exact n1 q; exact q n3), h12.block x (by omega), h01.block x (by omega) hn, h0.block x hx]
  · have : x ≠ w.heap.size := fun e => by
      rcases hx with hx | hx
      · omega
      · rw [e] at hx
        exact hx (k2 _ (by omega) (k1 _ (by omega) n0))
    omega
/-- What BeginStore answers of a store without fault. -/
def b1C (s : Sto) : Int := if s.nx = 999 ∨ 20 ≤ s.on then 2 else (if s.g.n1 + s.g.n2 + 13 ≤ 4000 then 0 else 2)
set_option maxHeartbeats 16000000 in
theorem begin1_any (s : Sto) (n : Nat) (xs : List Value) (lo : Nat) (col : Nat → Nat) (B : Nat) (w : World) (hsz : s.g.n1 + s.g.n2 ≤ 4000) (hnx : 1 ≤ s.nx ∧ s.nx ≤ 999) (hlg : lgC s.g = 0) (hby : LogByt s.g) (hn : n ≤ 90000) (hon : s.on ≤ 1048576) (H : Wk s n xs lo col B w) :
    Calls Tryz.prog 41 #[.pointer (some ⟨B, 0, none⟩)] w (CbR (b1C s) s.nx (bgS s) lo B col w) := by
  have HWK : Hid (Wk s n xs lo col B w) := H
  have HLG : Hid (lgC s.g = 0) := hlg
  have HBY : Hid (LogByt s.g) := hby
  have HNX : Hid (1 ≤ s.nx ∧ s.nx ≤ 999) := hnx
  obtain ⟨k1, k2, k3⟩ := H.lt
  obtain ⟨b0, e0, b1, e1, b2, e2, b3, e3, b4, e4, b5, e5, b6, e6, ra, rc, -, hbx, -⟩ := H
  have HQ : Hid (∀ o : Obj, BoxS (w.alloc o) B (.int .i64 s.nx) (.slice b0 s.pn e0) (.slice b1 s.d.n e1) (.slice b2 s.d.m e2) (.slice b3 s.g.n1 e3) (.slice b4 s.g.n2 e4) (.slice b5 s.hn e5) (.slice b6 s.on e6)) := fun o => hbx.alloc o
  have hQ := fun o : Obj => hbx.alloc o
  have f0 := fun o => (hQ o).1
  have f7 : ∀ o : Obj, (w.alloc o).cell? ⟨B, 7, none⟩ = some (.slice b6 s.on e6) := fun o => (hQ o).2.2.2.2.2.2.2
  clear hlg hby hnx hbx hQ
  by_cases hA : s.nx = 999
  · have hc : b1C s = 2 := by unfold b1C; rw [if_pos (.inl hA)]
    rw [hc]
    have HE : Hid (∀ w', Below w.heap.size w w' → CbR 2 s.nx (bgS s) lo B col w (.returned (.agg #[.int .i64 2, .int .i64 0])) w') := fun w' hb => CbR.bad (by omega) HWK.out hb 0
    have hd : (s.nx == 999) = true := by simp [hA]
    clear hc hA
    go_enter Tryz.func41, Tryz.ntmps41
    go_wp2_with fail
    refine bodyPost_ret (v := .agg #[.int .i64 2, .int .i64 0]) (by simp [results, Tryz.results41, go_sem, *]) rfl (HE.out _ (below_new _ _))
  have hd : (s.nx == 999) = false := by simp [hA]
  by_cases hO : 20 ≤ s.on
  · have hc : b1C s = 2 := by unfold b1C; rw [if_pos (.inr hO)]
    rw [hc]
    have HE : Hid (∀ w', Below w.heap.size w w' → CbR 2 s.nx (bgS s) lo B col w (.returned (.agg #[.int .i64 2, .int .i64 0])) w') := fun w' hb => CbR.bad (by omega) HWK.out hb 0
    have hd2 : (20 : Int) ≤ (s.on : Int) := by omega
    clear hc hA hO
    go_enter Tryz.func41, Tryz.ntmps41
    go_wp2_with fail
    refine bodyPost_ret (v := .agg #[.int .i64 2, .int .i64 0]) (by simp [results, Tryz.results41, go_sem, *]) rfl (HE.out _ (below_new _ _))
  have hd2 : ¬ (20 : Int) ≤ (s.on : Int) := by omega
  have HC : Hid (b1C s = if s.g.n1 + s.g.n2 + 13 ≤ 4000 then 0 else 2) := by show b1C s = _; unfold b1C; rw [if_neg (by omega)]
  have HNN : Hid (¬ s.nx = 999) := hA
  clear hA hO
  go_enter Tryz.func41, Tryz.ntmps41
  go_wp2_with fail
  have HB0 : Hid (Below w.heap.size w (w.alloc (.cells #[.int .i64 0, .int .i64 0] 77))) := below_new _ _
  obtain ⟨W, hW⟩ : ∃ x, x = w.alloc (.cells #[.int .i64 0, .int .i64 0] 77) := ⟨_, rfl⟩
  have m0 : W.cell? ⟨w.heap.size, 0, none⟩ = some (.int .i64 0) := by rw [hW]; simp [go_sem]
  have m1 : W.cell? ⟨w.heap.size, 1, none⟩ = some (.int .i64 0) := by rw [hW]; simp [go_sem]
  have mf : ∀ i, W.frozen? ⟨w.heap.size, i, none⟩ = false := fun i => by rw [hW]; simp [go_sem]
  have HWS : Hid (W.heap.size = w.heap.size + 1) := by rw [hW]; simp [Hid]
  have HBX : Hid (BoxS W B (.int .i64 s.nx) (.slice b0 s.pn e0) (.slice b1 s.d.n e1) (.slice b2 s.d.m e2) (.slice b3 s.g.n1 e3) (.slice b4 s.g.n2 e4) (.slice b5 s.hn e5) (.slice b6 s.on e6)) := by rw [hW]; exact HQ.out _
  rw [← hW] at HB0 ⊢
  have HKW : Hid (Wk s n xs lo col B W) := HWK.out.below HB0.out
  clear hW f0 f7 HQ
  refine (tell_any s n xs lo col B 1 s.nx 0 false 0 false 0 0 W hsz HLG.out (rf_begin HNX.out) HBY.out hn HKW.out).mono ?_
  rintro e w1 (⟨hbig, rfl, hb1⟩ | ⟨hle, rfl, col1, hc1, hf1, hk1⟩)
  · have HE : Hid (∀ w', Below w.heap.size w w' → CbR (b1C s) s.nx (bgS s) lo B col w (.returned (.agg #[.int .i64 2, .int .i64 0])) w') := fun w' hb => by
      rw [HC.out, if_neg (by omega)]
      exact CbR.bad (by omega) HWK.out hb 0
    have n0 := fun o : Obj => cell_alloc (cell_below m0 hb1) o
    have n1 := fun o : Obj => cell_alloc (cell_below m1 hb1) o
    have nf : ∀ (o : Obj) (i : Nat), (w1.alloc o).frozen? ⟨w.heap.size, i, none⟩ = false := fun o i => ((below_new w1 o).frozen (p := ⟨w.heap.size, i, none⟩) (show w.heap.size < w1.heap.size by have := hb1.size; have := HWS.out; omega)).trans <| (hb1.frozen (p := ⟨w.heap.size, i, none⟩) (show w.heap.size < W.heap.size from Go.block_lt_of_cell m0)).trans (mf i)
    have HB1 : Hid (Below w.heap.size w w1) := below_then HB0.out hb1
    have HL1 : Hid (w.heap.size < w1.heap.size) := by have := HWS.out; have := hb1.size; show w.heap.size < w1.heap.size; omega
    clear hb1 m0 m1 mf hbig
    go_wp2_with fail
    (try simp only [Exit.inBlock, Exit.then])
    refine bodyPost_ret (v := .agg #[.int .i64 2, .int .i64 0]) ?_ rfl ?_
    · simp [results, Tryz.results41, go_sem, *]
    refine HE.out _ ?_
    refine Writes.below (below_then HB1.out (below_new w1 (.cells #[.int .i64 2, .int .i64 0] 77))) (lo := w.heap.size) (hi := w.heap.size + 1) ?_ (Nat.le_refl _)
    repeat (first | with_reducible exact Writes.refl _ _ _ | with_reducible refine Writes.setCell ?_ (by first | omega | (simp <;> omega)) (by first | omega | (simp <;> omega)) _)
  · have eN : w1.heap[w.heap.size]? = W.heap[w.heap.size]? := hf1.block _ (by have := HWS.out; omega) (fun q => by
      rcases q with q | q
      · omega
      · have := (k3 _ q).2; omega)
    have n0 : w1.cell? ⟨w.heap.size, 0, none⟩ = some (.int .i64 0) := (cellB eN).trans m0
    have n1 : w1.cell? ⟨w.heap.size, 1, none⟩ = some (.int .i64 0) := (cellB eN).trans m1
    have nf : ∀ i, w1.frozen? ⟨w.heap.size, i, none⟩ = false := fun i => (frozB eN).trans (mf i)
    have HK1 : Hid (Wk (lgS s (rb 1 s.nx 0 false 0 false 0 0)) (n + 1) (xs ++ rv8 1 s.nx 0 false 0 false 0 0) lo col1 B w1) := hk1
    have HF1 : Hid (WkF col B W w1) := hf1
    have HC1 : Hid (∀ x, x < W.heap.size → col1 x ≠ 0 → col x ≠ 0) := hc1
    have HLE : Hid (b1C s = 0) := by show b1C s = 0; rw [HC.out, if_pos hle]
    have HSZ1 : Hid (w.heap.size < w1.heap.size) := by have := HWS.out; have := hf1.size; show w.heap.size < w1.heap.size; omega
    clear hk1 hf1 hc1 eN m0 m1 mf hle
    obtain ⟨d0, f0, d1, f1, d2, f2, d3, f3, d4, f4, d5, f5, d6, f6, ra1, rc1, -, hbx1, -, -, hfz1, -, hpc1, -⟩ := HK1.out
    have HBX1 : Hid (BoxS w1 B (.int .i64 s.nx) (.slice d0 s.pn f0) (.slice d1 s.d.n f1) (.slice d2 s.d.m f2) (.slice d3 s.g.n1 f3) (.slice d4 (s.g.n2 + 13) f4) (.slice d5 s.hn f5) (.slice d6 s.on f6)) := hbx1
    have HRW : Hid (w1.ownsRow lo 2 1 (.slice d6 s.on f6) s.on (ivs s.oF s.on)) := hpc1.po.1
    have p0 := fun o : Obj => cell_alloc hbx1.1 o
    have p7 : ∀ o : Obj, (w1.alloc o).cell? ⟨B, 7, none⟩ = some (.slice d6 s.on f6) := fun o => cell_alloc hbx1.2.2.2.2.2.2.2 o
    clear hbx1 hpc1
    go_upto_region 8 with fail
    obtain ⟨U, hU⟩ : ∃ x, x = w1.alloc (.cells #[.int .i64 0, .int .i64 ((n : Int) + 1)] 77) := ⟨_, rfl⟩
    have HU : Hid (Below w1.heap.size w1 U) := by rw [hU]; exact below_new _ _
    rw [← hU]
    clear hU p0 p7
    have hu := HU.out
    have p0 : ∀ o : Obj, (U.alloc o).cell? ⟨B, 0, none⟩ = some (.int .i64 s.nx) := fun o => cell_alloc (cell_below HBX1.out.1 hu) o
    have p7 : ∀ o : Obj, (U.alloc o).cell? ⟨B, 7, none⟩ = some (.slice d6 s.on f6) := fun o => cell_alloc (cell_below HBX1.out.2.2.2.2.2.2.2 hu) o
    have r7 : U.cell? ⟨B, 7, none⟩ = some (.slice d6 s.on f6) := cell_below HBX1.out.2.2.2.2.2.2.2 hu
    have HOA : Hid (∀ o : Obj, (U.alloc o).ownsRow lo 2 1 (.slice d6 s.on f6) s.on (ivs s.oF s.on)) := fun o => own_belowI (own_belowI HRW.out hu) (below_new _ _)
    have HLO : Hid (∀ o : Obj, lo ≤ (U.alloc o).heap.size) := fun o => by have := hu.size; have := HSZ1.out; simp; omega
    clear hu
    go_wp2_with (at_builtin; refine wpList_appOn _ rfl (.tmp 39) (.tmp 41) rfl lo _ s.on (ivs s.oF s.on) rfl (HOA.out _) U.heap.size 1 s.nx rfl (by simp [go_sem]) (by omega) (HLO.out _) ?_)
    intro g cap w3 ho3 hg3 hl3
    have HO3 : Hid (w3.ownsRow lo 2 1 (.slice (some ⟨g, 0, none⟩) (s.on + 1) cap) (s.on + 1) (ivs s.oF s.on ++ [.int .i64 s.nx])) := ho3
    obtain ⟨Y, hY⟩ : ∃ x, x = U.alloc (.cells #[.int .i64 s.nx] 2) := ⟨_, rfl⟩
    rw [← hY] at hg3
    have HBY1 : Hid (Below U.heap.size U Y) := by rw [hY]; exact below_new _ _
    have HG3 : Hid (Y.grownBy w3 (Value.slice d6 s.on f6).ownBlock) := hg3
    have HL3 : Hid ((Value.slice d6 s.on f6).ownBlock = some g ∨ g = Y.heap.size) := by rw [hY]; show _ ∨ _; simpa using hl3
    have HKU : Hid (Wk (lgS s (rb 1 s.nx 0 false 0 false 0 0)) (n + 1) (xs ++ rv8 1 s.nx 0 false 0 false 0 0) lo col1 B U) := HK1.out.below HU.out
    have q0 : Y.cell? ⟨B, 0, none⟩ = some (.int .i64 s.nx) := by rw [hY]; exact p0 _
    have q7 : Y.cell? ⟨B, 7, none⟩ = some (.slice d6 s.on f6) := by rw [hY]; exact p7 _
    have nB : some B ≠ (Value.slice d6 s.on f6).ownBlock := fun e => by
      obtain ⟨_, _, _, _, _, _, _, _, _, _, _, _, _, _, _, _, _, hx, _, _, _, g4, g5, _⟩ := HKU.out
      have e6 := hx.2.2.2.2.2.2.2
      rw [r7] at e6
      injection e6 with e6
      have := g5.po.2 B (by rw [← e6]; exact e.symm)
      omega
    have eB := hg3.block B (Go.block_lt_of_cell q0) nB
    have z0 : w3.cell? ⟨B, 0, none⟩ = some (.int .i64 s.nx) := (cellB eB).trans q0
    have z7 : w3.cell? ⟨B, 7, none⟩ = some (.slice d6 s.on f6) := (cellB eB).trans q7
    have zf : ∀ i, w3.frozen? ⟨B, i, none⟩ = false := fun i => (frozB eB).trans (((below_then HU.out HBY1.out).frozen (p := ⟨B, i, none⟩) (show B < w1.heap.size by have := HSZ1.out; omega)).trans (hfz1 i))
    have HFZ : Hid (Wk (opS (lgS s (rb 1 s.nx 0 false 0 false 0 0)) (s.nx + 1) s.nx) (n + 1) (xs ++ rv8 1 s.nx 0 false 0 false 0 0) lo (colr col1 U.heap.size w3.heap.size 5) B ((w3.setCell ⟨B, 7, none⟩ (.slice (some ⟨g, 0, none⟩) (s.on + 1) cap)).setCell ⟨B, 0, none⟩ (.int .i64 (s.nx + 1))) ∧ WkF col1 B U ((w3.setCell ⟨B, 7, none⟩ (.slice (some ⟨g, 0, none⟩) (s.on + 1) cap)).setCell ⟨B, 0, none⟩ (.int .i64 (s.nx + 1)))) := Wk.opened (s.nx + 1) HKU.out r7 HBY1.out HG3.out HO3.out HL3.out
    obtain ⟨nx1, nx2⟩ := HNX.out
    clear hY ho3 hg3 hl3 eB nB q0 q7 p0 p7 r7 hfz1
    go_upto_region 10 with fail
    obtain ⟨Z, hZ⟩ : ∃ x, x = (w3.setCell ⟨B, 7, none⟩ (.slice (some ⟨g, 0, none⟩) (s.on + 1) cap)).setCell ⟨B, 0, none⟩ (.int .i64 (s.nx + 1)) := ⟨_, rfl⟩
    rw [← hZ] at HFZ ⊢
    clear hZ z0 z7 zf
    have hzu := HU.out.size
    have eN : Z.heap[w.heap.size]? = w1.heap[w.heap.size]? := (HFZ.out.2.block _ (by have := HSZ1.out; omega) (fun q => by
      rcases q with q | q
      · omega
      · have := HC1.out _ (by have := HWS.out; omega) q
        have := (k3 _ this).2
        omega)).trans (HU.out.block _ HSZ1.out)
    have z0 : Z.cell? ⟨w.heap.size, 0, none⟩ = some (.int .i64 0) := (cellB eN).trans n0
    have z1 : Z.cell? ⟨w.heap.size, 1, none⟩ = some (.int .i64 0) := (cellB eN).trans n1
    have zf : ∀ i, Z.frozen? ⟨w.heap.size, i, none⟩ = false := fun i => (frozB eN).trans (nf i)
    have HEND : Hid (∀ w4, Writes w.heap.size (w.heap.size + 1) Z w4 → CbR (b1C s) s.nx (bgS s) lo B col w (.returned (.agg #[.int .i64 0, .int .i64 s.nx])) w4) := fun w4 h4 => by
      rw [HLE.out]
      refine cb_end (R := bgS s) (col1 := col1) (w0 := W) (w1 := w1) (w2 := U) HFZ.out.1 HB0.out (fun x hx => (k3 x hx).2) k2 HF1.out HC1.out HU.out HFZ.out.2 (fun x hx q => ?_) (by have := HWS.out; omega) h4 rfl
      rw [colr_old hx] at q
      exact q
    clear eN n0 n1 nf HFZ
    go_wp2_with fail
    (try simp only [Exit.inBlock, Exit.then])
    refine bodyPost_ret (v := .agg #[.int .i64 0, .int .i64 s.nx]) ?_ rfl ?_
    · simp [results, Tryz.results41, go_sem, *]
    refine HEND.out _ ?_
    repeat (first | with_reducible exact Writes.refl _ _ _ | with_reducible refine Writes.setCell ?_ (by first | omega | (simp <;> omega)) (by first | omega | (simp <;> omega)) _)
end Go.Proofs.YtannmobmmnoegaaGreat
