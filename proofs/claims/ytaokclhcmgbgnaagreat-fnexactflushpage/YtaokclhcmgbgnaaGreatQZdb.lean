/- A store's copy by the program, under way: what is held and who is open as rows of their own. -/
import Derived.Test.YtaokclhcmgbgnaaGreatQAo
import Derived.Test.YtaokclhcmgbgnaaGreatQLm
import Derived.Test.YtaokclhcmgbgnaaGreatQCca
import Derived.Test.YtaokclhcmgbgnaaGreatQRe
import Derived.Test.YtaokclhcmgbgnaaGreatQLcp
namespace Go.Proofs.YtaokclhcmgbgnaaGreat
open Go.ChangeShapes Go.WideShapes Go.ChangeAt Go.RowKit Go.Deep Go.Joins
set_option linter.unusedVariables false
set_option maxRecDepth 20000
open Go.RowKit Go.Deep

/-- A store that is answered alone, with room for what its lists hold. -/
def SRes1 (t : Sto) (w : World) (e : Ending) (w' : World) : Prop :=
  ∃ a0 c0 a1 c1 a2 c2 a3 c3 a4 c4 a5 c5 a6 c6, e = .returned (.agg #[.int .i64 t.nx, .slice a0 t.pn c0, .slice a1 t.d.n c1, .slice a2 t.d.m c2, .slice a3 t.g.n1 c3, .slice a4 t.g.n2 c4, .slice a5 t.hn c5, .slice a6 t.on c6]) ∧ Below w.heap.size w w' ∧ OwnS w' w.heap.size w'.heap.size a0 a1 a2 a3 a4 a5 a6 t ∧ t.pn ≤ c0 ∧ t.hn ≤ c5 ∧ t.on ≤ c6
/-- The pieces of a store but its pages, in blocks of their colours. -/
structure Pcs (t : Sto) (lo hi : Nat) (col : Nat → Nat) (s1 s2 s3 s4 s5 s6 : Value) (w : World) : Prop where
  hc : ∀ x, col x ≠ 0 → lo ≤ x ∧ x < hi
  hh : hi ≤ w.heap.size
  pd : ∃ a c a' c' l h, s1 = .slice a t.d.n c ∧ s2 = .slice a' t.d.m c' ∧ (∀ x, l ≤ x → x < h → col x = 2) ∧ OwnD w l h a a' t.d
  pg : ∃ a c a' c' l h, s3 = .slice a t.g.n1 c ∧ s4 = .slice a' t.g.n2 c' ∧ (∀ x, l ≤ x → x < h → col x = 3) ∧ OwnG w l h a a' t.g
  ph : ∃ a c l h, s5 = .slice a t.hn c ∧ (∀ x, l ≤ x → x < h → col x = 4) ∧ Own w l h a t.hn t.hK t.hV ∧ t.hn ≤ c
  po : ∃ a c l h, s6 = .slice a t.on c ∧ (∀ x, l ≤ x → x < h → col x = 5) ∧ OwnI w l h a t.on t.oF ∧ t.on ≤ c
theorem Pcs.keep {t : Sto} {lo hi : Nat} {col : Nat → Nat} {s1 s2 s3 s4 s5 s6 : Value} {w w' : World} (H : Pcs t lo hi col s1 s2 s3 s4 s5 s6 w) (hs : w.heap.size ≤ w'.heap.size) (hk : ∀ x, col x ≠ 0 → x < w.heap.size → w'.heap[x]? = w.heap[x]?) : Pcs t lo hi col s1 s2 s3 s4 s5 s6 w' := by
  obtain ⟨h1, h2, ⟨a, c, a', c', l, h, q1, q2, q3, q4⟩, ⟨b, d, b', d', l', h', r1, r2, r3, r4⟩, ⟨e, f, m, n, o1, o2, o3⟩, ⟨e', f', m', n', p1, p2, p3⟩⟩ := H
  exact ⟨h1, Nat.le_trans h2 hs, ⟨a, c, a', c', l, h, q1, q2, q3, q4.keep hs fun x x1 x2 x3 => hk x (by rw [q3 x x1 x2]; omega) x3⟩, ⟨b, d, b', d', l', h', r1, r2, r3, r4.keep hs fun x x1 x2 x3 => hk x (by rw [r3 x x1 x2]; omega) x3⟩, ⟨e, f, m, n, o1, o2, o3.1.keep hs fun x x1 x2 x3 => hk x (by rw [o2 x x1 x2]; omega) x3, o3.2⟩, ⟨e', f', m', n', p1, p2, p3.1.keep hs fun x x1 x2 x3 => hk x (by rw [p2 x x1 x2]; omega) x3, p3.2⟩⟩
/-- The copy's box, all pieces but the pages in it. -/
structure LCf (t : Sto) (U0 : World) (B : Nat) (s1 s2 s3 s4 s5 s6 : Value) (w : World) : Prop where
  below : Below U0.heap.size U0 w
  hB : U0.heap.size ≤ B
  bx : BoxS w B (.int .i64 t.nx) (.slice none 0 0) s1 s2 s3 s4 s5 s6
  bf : ∀ i, w.frozen? ⟨B, i, none⟩ = false
  pc : ∃ col, col B = 0 ∧ Pcs t U0.heap.size w.heap.size col s1 s2 s3 s4 s5 s6 w
theorem BoxS.set8 {w : World} {B : Nat} {c0 c1 c2 c3 c4 c5 c6 c7 u0 u1 u2 u3 u4 u5 u6 u7 : Value} (h : BoxS w B c0 c1 c2 c3 c4 c5 c6 c7) : BoxS ((((((((w.setCell ⟨B, 0, none⟩ u0).setCell ⟨B, 1, none⟩ u1).setCell ⟨B, 2, none⟩ u2).setCell ⟨B, 3, none⟩ u3).setCell ⟨B, 4, none⟩ u4).setCell ⟨B, 5, none⟩ u5).setCell ⟨B, 6, none⟩ u6).setCell ⟨B, 7, none⟩ u7) B u0 u1 u2 u3 u4 u5 u6 u7 := by
  obtain ⟨h0, h1, h2, h3, h4, h5, h6, h7⟩ := h
  refine ⟨?_, ?_, ?_, ?_, ?_, ?_, ?_, ?_⟩
  · rw [setO (by omega), setO (by omega), setO (by omega), setO (by omega), setO (by omega), setO (by omega), setO (by omega)]; exact setS h0
  · rw [setO (by omega), setO (by omega), setO (by omega), setO (by omega), setO (by omega), setO (by omega)]; exact setS (by rw [setO (by omega)]; exact h1)
  · rw [setO (by omega), setO (by omega), setO (by omega), setO (by omega), setO (by omega)]; exact setS (by rw [setO (by omega), setO (by omega)]; exact h2)
  · rw [setO (by omega), setO (by omega), setO (by omega), setO (by omega)]; exact setS (by rw [setO (by omega), setO (by omega), setO (by omega)]; exact h3)
  · rw [setO (by omega), setO (by omega), setO (by omega)]; exact setS (by rw [setO (by omega), setO (by omega), setO (by omega), setO (by omega)]; exact h4)
  · rw [setO (by omega), setO (by omega)]; exact setS (by rw [setO (by omega), setO (by omega), setO (by omega), setO (by omega), setO (by omega)]; exact h5)
  · rw [setO (by omega)]; exact setS (by rw [setO (by omega), setO (by omega), setO (by omega), setO (by omega), setO (by omega), setO (by omega)]; exact h6)
  · exact setS (by rw [setO (by omega), setO (by omega), setO (by omega), setO (by omega), setO (by omega), setO (by omega), setO (by omega)]; exact h7)
def st8 (w : World) (B : Nat) (u0 u1 u2 u3 u4 u5 u6 u7 : Value) : World := (((((((w.setCell ⟨B, 0, none⟩ u0).setCell ⟨B, 1, none⟩ u1).setCell ⟨B, 2, none⟩ u2).setCell ⟨B, 3, none⟩ u3).setCell ⟨B, 4, none⟩ u4).setCell ⟨B, 5, none⟩ u5).setCell ⟨B, 6, none⟩ u6).setCell ⟨B, 7, none⟩ u7
theorem st8_writes (w : World) (B : Nat) (u0 u1 u2 u3 u4 u5 u6 u7 : Value) : Writes B (B + 1) w (st8 w B u0 u1 u2 u3 u4 u5 u6 u7) := by
  unfold st8
  have h : ∀ {wr : World} (i : Nat) (u : Value), Writes B (B + 1) w wr → Writes B (B + 1) w (wr.setCell ⟨B, i, none⟩ u) := fun i u h => h.setCell (p := ⟨B, i, none⟩) (Nat.le_refl _) (Nat.lt_succ_self _) u
  exact h 7 _ (h 6 _ (h 5 _ (h 4 _ (h 3 _ (h 2 _ (h 1 _ (h 0 _ (Writes.refl _ _ _))))))))
theorem st8_size (w : World) (B : Nat) (u0 u1 u2 u3 u4 u5 u6 u7 : Value) : (st8 w B u0 u1 u2 u3 u4 u5 u6 u7).heap.size = w.heap.size := by simp [st8, World.setCell]
theorem st8_frozen (w : World) (B : Nat) (u0 u1 u2 u3 u4 u5 u6 u7 : Value) (p : Addr) : (st8 w B u0 u1 u2 u3 u4 u5 u6 u7).frozen? p = w.frozen? p := by
  unfold st8
  rw [World.frozen?_setCell, World.frozen?_setCell, World.frozen?_setCell, World.frozen?_setCell, World.frozen?_setCell, World.frozen?_setCell, World.frozen?_setCell, World.frozen?_setCell]
/-- All is made, and stored. -/
theorem LCi.fin {t : Sto} {U0 w : World} {col : Nat → Nat} {x8 x12 : Bool} {v14 v17 v18 v21 v3 s1 s2 s3 s4 : Value} {B : Nat} (H : LCi t U0 col true true x8 true x12 true true (.agg #[s1, s2]) (.agg #[s3, s4]) v14 v17 v18 v21 v3 w) (hv : v3 = .pointer (some ⟨B, 0, none⟩)) :
    LCf t U0 B s1 s2 s3 s4 v17 v21 (st8 w B (.int .i64 t.nx) (.slice none 0 0) s1 s2 s3 s4 v17 v21) := by
  obtain ⟨h1, h2, h4, h7, -, h11, -, h15, h17⟩ := H
  obtain ⟨a, c, a', c', l, h, q1, q2, q3⟩ := h4 rfl
  obtain ⟨b, d, b', d', l', h', r1, r2, r3⟩ := h7 rfl
  obtain ⟨e, f, m, n, o1, o2, o3⟩ := h11 rfl
  obtain ⟨e', f', m', n', p1, p2, p3⟩ := h15 rfl
  obtain ⟨B', k1, k2, k3, k4, k5⟩ := h17 rfl
  rw [hv] at k1
  simp only [Value.pointer.injEq, Option.some.injEq, Addr.mk.injEq, and_true] at k1
  subst k1
  simp only [Value.agg.injEq, Array.mk.injEq, List.cons.injEq, and_true] at q1 r1
  obtain ⟨rfl, rfl⟩ := q1
  obtain ⟨rfl, rfl⟩ := r1
  have hw := st8_writes w B (.int .i64 t.nx) (.slice none 0 0) (.slice a t.d.n c) (.slice a' t.d.m c') (.slice b t.g.n1 d) (.slice b' t.g.n2 d') v17 v21
  have hkeep : ∀ x, col x ≠ 0 → x < w.heap.size → (st8 w B (.int .i64 t.nx) (.slice none 0 0) (.slice a t.d.n c) (.slice a' t.d.m c') (.slice b t.g.n1 d) (.slice b' t.g.n2 d') v17 v21).heap[x]? = w.heap[x]? := fun x hx hl => hw.block x hl (by
    have : x ≠ B := fun e => by rw [e] at hx; exact hx k2
    omega)
  refine ⟨hw.below h1 k3, k3, k4.set8, fun i => by rw [st8_frozen]; exact k5 i, col, k2, ?_⟩
  rw [st8_size]
  have H0 : Pcs t U0.heap.size w.heap.size col (.slice a t.d.n c) (.slice a' t.d.m c') (.slice b t.g.n1 d) (.slice b' t.g.n2 d') v17 v21 w := ⟨h2, Nat.le_refl _, ⟨a, c, a', c', l, h, rfl, rfl, q2, q3⟩, ⟨b, d, b', d', l', h', rfl, rfl, r2, r3⟩, ⟨e, f, m, n, o1, o2, o3⟩, ⟨e', f', m', n', p1, p2, p3⟩⟩
  exact H0.keep hw.size hkeep
/-- The copy in its box B, k pages of it made; M: the size of the memory ahead of the first page. -/
structure CLi (t : Sto) (U0 wr : World) (B M : Nat) (v s1 s2 s3 s4 s5 s6 : Value) (k : Nat) : Prop where
  below : Below U0.heap.size U0 wr
  hB : U0.heap.size ≤ B
  hM : B < M
  bx : BoxS wr B (.int .i64 t.nx) v s1 s2 s3 s4 s5 s6
  bf : ∀ i, wr.frozen? ⟨B, i, none⟩ = false
  pc : ∃ col, col B = 0 ∧ Pcs t U0.heap.size M col s1 s2 s3 s4 s5 s6 wr
  gr : GrPg M wr.heap.size wr v k t.pT
theorem CLi.mono {t : Sto} {U0 wr wq : World} {B M : Nat} {v s1 s2 s3 s4 s5 s6 : Value} {k : Nat} (H : CLi t U0 wr B M v s1 s2 s3 s4 s5 s6 k) (hb : Below wr.heap.size wr wq) : CLi t U0 wq B M v s1 s2 s3 s4 s5 s6 k := by
  obtain ⟨h1, h2, h3, h4, h5, ⟨col, c1, c2⟩, h7⟩ := H
  exact ⟨below_then h1 hb, h2, h3, h4.below hb, fun i => (hb.frozen (p := ⟨B, i, none⟩) h4.lt).trans (h5 i), ⟨col, c1, c2.keep hb.size fun x _ hl => hb.block x hl⟩, (h7.below hb).wide hb.size (Nat.le_refl _)⟩
theorem up_pT (T : Nat → Pg) (k : Nat) : ∀ i, i < k + 1 → upf9 T k (T k) i = T i := fun i _ => by
  by_cases e : i = k
  · subst e; exact upf9_eq _ _ _
  · exact upf9_ne _ _ e
theorem CLi.app {t : Sto} {U0 wr w2 : World} {B M g cap : Nat} {v s1 s2 s3 s4 s5 s6 : Value} {k : Nat} (H : CLi t U0 wr B M v s1 s2 s3 s4 s5 s6 k) (hg : wr.grownBy w2 v.ownBlock) (hgr : GrPg M w2.heap.size w2 (.slice (some ⟨g, 0, none⟩) (k + 1) cap) (k + 1) (upf9 t.pT k (t.pT k))) :
    CLi t U0 (w2.setCell ⟨B, 1, none⟩ (.slice (some ⟨g, 0, none⟩) (k + 1) cap)) B M (.slice (some ⟨g, 0, none⟩) (k + 1) cap) s1 s2 s3 s4 s5 s6 (k + 1) ∧ w2.cell? ⟨B, 1, none⟩ = some v ∧ (∀ i, w2.frozen? ⟨B, i, none⟩ = false) := by
  obtain ⟨h1, h2, h3, h4, h5, ⟨col, c1, c2⟩, h7⟩ := H
  have hMs : M ≤ wr.heap.size := c2.hh
  have hv : ∀ q, v.ownBlock = some q → M ≤ q := fun q hq => by
    obtain ⟨_, A, c, l, h, ho, _⟩ := h7
    exact (ho.lt q hq).1
  have hblk : ∀ q, q < M → w2.heap[q]? = wr.heap[q]? := fun q hq => hg.block q (by omega) fun e => by have := hv q e.symm; omega
  have hs := hg.size
  have e7 := h4.block (hblk B h3)
  have hB : Below U0.heap.size U0 w2 := h1.grown hg (by have := h1.size; omega) fun q hq => by have := hv q hq; omega
  have hfr : ∀ i, w2.frozen? ⟨B, i, none⟩ = false := fun i => (World.frozen?_of_block (w := wr) (a := ⟨B, i, none⟩) (hblk B h3)).trans (h5 i)
  refine ⟨⟨hB.setCell (p := ⟨B, 1, none⟩) h2 _, h2, h3, e7.set1 _, fun i => by rw [World.frozen?_setCell]; exact hfr i, ⟨col, c1, ?_⟩, ?_⟩, e7.2.1, hfr⟩
  · refine c2.keep (by simp [World.setCell]; omega) fun x hx hl => ?_
    have hxM := (c2.hc x hx).2
    have hne : x ≠ B := fun e => by rw [e] at hx; exact hx c1
    rw [Below.heap_setCell _ _ _ _ (by show x ≠ B; exact hne)]
    exact hblk x hxM
  · have h12 := hgr.congr (up_pT t.pT k)
    have e : (w2.setCell ⟨B, 1, none⟩ (.slice (some ⟨g, 0, none⟩) (k + 1) cap)).heap.size = w2.heap.size := by simp [World.setCell]
    rw [e]
    exact h12.writes (lo := B) (hi := B + 1) ((Writes.refl _ _ _).setCell (p := ⟨B, 1, none⟩) (Nat.le_refl _) (Nat.lt_succ_self _) _) (.inl h3)
/-- The copy, once its pages are made. -/
theorem CLi.fin {t : Sto} {w U0 wr w7 : World} {B M : Nat} {v s1 s2 s3 s4 s5 s6 : Value} (H : CLi t U0 wr B M v s1 s2 s3 s4 s5 s6 t.pn) (h0 : Below w.heap.size w U0) (lo hi : Nat) (hlo : w.heap.size ≤ lo) (hhi : hi ≤ U0.heap.size) (hw : Writes lo hi wr w7) (hs : w7.heap.size = wr.heap.size) :
    SRes1 t w (.returned (.agg #[.int .i64 t.nx, v, s1, s2, s3, s4, s5, s6])) w7 := by
  obtain ⟨h1, h2, h3, h4, h5, ⟨col, c1, c2⟩, h7⟩ := H
  obtain ⟨pa, pc, rfl, hpc, hp⟩ := h7.own
  have hMs := c2.hh
  have hU := h1.size
  have c3 := c2.keep hw.size fun x hx hl => hw.block x hl (by have := c2.hc x hx; omega)
  obtain ⟨-, -, ⟨a, c, a', c', l, h, rfl, rfl, q3, q4⟩, ⟨b, d, b', d', l', h', rfl, rfl, r3, r4⟩, ⟨e, f, m, n, rfl, o2, o3⟩, ⟨e', f', m', n', rfl, p2, p3⟩⟩ := c3
  have hwU := h0.size
  refine ⟨pa, pc, a, c, a', c', b, d, b', d', e, f, e', f', rfl, hw.below (below_then h0 h1) hlo, ⟨Nat.le_refl _, colr col M wr.heap.size 1, fun x hx => ?_, ?_, ⟨l, h, fun x x1 x2 => ?_, q4⟩, ⟨l', h', fun x x1 x2 => ?_, r4⟩, ⟨m, n, fun x x1 x2 => ?_, o3.1⟩, ⟨m', n', fun x x1 x2 => ?_, p3.1⟩⟩, hpc, o3.2, p3.2⟩
  · by_cases q : M ≤ x ∧ x < wr.heap.size
    · omega
    · unfold colr at hx; rw [if_neg q] at hx; have := c2.hc x hx; omega
  · exact (hp.keep hw.size fun x hx hl => hw.block x hl (by omega)).mono fun x hx => colr_new hx.1 hx.2
  · have e1 := q3 x x1 x2; have := c2.hc x (by omega); rw [colr_old this.2]; exact e1
  · have e1 := r3 x x1 x2; have := c2.hc x (by omega); rw [colr_old this.2]; exact e1
  · have e1 := o2 x x1 x2; have := c2.hc x (by omega); rw [colr_old this.2]; exact e1
  · have e1 := p2 x x1 x2; have := c2.hc x (by omega); rw [colr_old this.2]; exact e1
theorem wpList_app0Cp {ops : Array Oper} {rest : List Oper} {o : Oper} {a : Act} {Q : Exit → Act → World → Prop} (w : World) (hgd : o.guard = none) (s x : Operand)
    (ho : o.op = .call { callee := .builtin .append, args := #[s, x], argTypes := #[64, 64] })
    (p : Nat) (hs : a.eval s = .slice (some ⟨p, 0, none⟩) 0 0) (xa : Option Addr) (m c : Nat) (K V : Nat → Int) (hx : a.eval x = .slice xa m c) (hb : CellsAt w xa m K V) (h63 : m ≤ 100000)
    (h : ∀ v' w', NewC w w' v' m K V → Below w.heap.size w w' → wpList Tryz.prog ops Q rest (a.put o.dst v') w') : wpList Tryz.prog ops Q (o :: rest) a w :=
  wpList_plain hgd fun _ hKK => wp_app0C w s x ho _ hs (.inr ⟨p, rfl⟩) xa m c K V hx hb h63 fun v' w' h2 h3 => hKK _ _ (h v' w' h2 h3)
theorem lit_pg2 (w : World) (p : Pg) (a : Option Addr) (c : Nat) : CPg (w.alloc (.cells #[.int .i64 p.id, .int .i64 p.lsn, .slice a p.cn c] 66)) w.heap.size 0 p a c := by
  refine ⟨by simp [go_sem], by simp [go_sem], by simp [go_sem]⟩
theorem hdF_good {L : List Int} {K V : Nat → Int} {n : Nat} : ∀ d k, n - k = d → hdF L K V (n - k) k = 0 → ∀ i, k ≤ i → i < n → (0 ≤ V i ∧ V i ≤ 31) ∧ K i ∈ L ∧ (0 < i → V (i - 1) < V i)
  | 0, k, h, _, i, h1, h2 => by omega
  | d + 1, k, h, e, i, h1, h2 => by
    rw [hdF_at (by omega)] at e
    by_cases c1 : inB (V k) 0 31 = true
    · rw [if_pos c1] at e
      by_cases c3 : decide (K k ∈ L) = true
      · rw [if_pos c3] at e
        by_cases c2 : 0 < k ∧ V k ≤ V (k - 1)
        · rw [if_pos c2] at e; omega
        · rw [if_neg c2] at e
          by_cases q : i = k
          · subst q
            exact ⟨inB_iff.1 c1, of_decide_eq_true c3, fun h0 => by omega⟩
          · exact hdF_good d (k + 1) (by omega) e i (by omega) h2
      · rw [if_neg c3] at e; omega
    · rw [if_neg c1] at e; omega
theorem hdF_rise {L : List Int} {K V : Nat → Int} {n : Nat} (h : hdF L K V n 0 = 0) : ∀ i, i < n → (i : Int) ≤ V i
  | 0, hi => by have := (hdF_good (n := n) n 0 rfl h 0 (by omega) hi).1.1; omega
  | i + 1, hi => by
    have h1 := hdF_rise h i (by omega)
    have h2 := (hdF_good (n := n) n 0 rfl h (i + 1) (by omega) hi).2.2 (by omega)
    simp at h2
    omega
theorem hdF_few {L : List Int} {K V : Nat → Int} {n : Nat} (h : hdF L K V n 0 = 0) : n ≤ 32 := by
  rcases Nat.eq_zero_or_pos n with e | e
  · omega
  · have h1 := hdF_rise h (n - 1) (by omega)
    have h2 := (hdF_good (n := n) n 0 rfl h (n - 1) (by omega) (by omega)).1.2
    omega
set_option maxHeartbeats 16000000 in
theorem l12Copy_any (t : Sto) (a0 : Option Addr) (c0 : Nat) (a1 : Option Addr) (c1 : Nat) (a2 : Option Addr) (c2 : Nat) (a3 : Option Addr) (c3 : Nat) (a4 : Option Addr) (c4 : Nat) (a5 : Option Addr) (c5 : Nat) (a6 : Option Addr) (c6 : Nat) (w : World) (hS : SmSt t) (hG : GoodSt t) (h : InSt w a0 a1 a2 a3 a4 a5 a6 t) :
    Calls Tryz.prog 27 #[.agg #[.int .i64 t.nx, .slice a0 t.pn c0, .slice a1 t.d.n c1, .slice a2 t.d.m c2, .slice a3 t.g.n1 c3, .slice a4 t.g.n2 c4, .slice a5 t.hn c5, .slice a6 t.on c6]] w (SRes1 t w) := by
  have HA : Hid (InSt w a0 a1 a2 a3 a4 a5 a6 t) := h
  have HD : Hid (GoodD t.d) := goodD_of hG.df
  have HLG : Hid (t.g.n1 + t.g.n2 ≤ 90000) := by have := (lgC_zero hG.lg).1; show _ ≤ _; omega
  have HON : Hid (t.on ≤ 90000) := by have := onF_few hG.nx.2 hG.on; show _ ≤ _; omega
  have HHN : Hid (t.hn ≤ 90000) := by have := hdF_few hG.hd; show _ ≤ _; omega
  have hb0 : ∀ o1 o2, Below w.heap.size w ((w.alloc o1).alloc o2) := fun o1 o2 => (((Below.refl _ _).alloc (Nat.le_refl _) _).alloc (by simp) _)
  have HS : Hid (SmSt t) := hS
  clear h hS
  go_enter Tryz.func27, Tryz.ntmps27
  go_upto_region 1 with fail
  obtain ⟨W, hW⟩ : ∃ x, x = (w.alloc (.cells #[.int .i64 t.nx, .slice a0 t.pn c0, .slice a1 t.d.n c1, .slice a2 t.d.m c2, .slice a3 t.g.n1 c3, .slice a4 t.g.n2 c4, .slice a5 t.hn c5, .slice a6 t.on c6] 42)).alloc (.cells #[.int .i64 0, .slice none 0 0, .slice none 0 0, .slice none 0 0, .slice none 0 0, .slice none 0 0, .slice none 0 0, .slice none 0 0] 42) := ⟨_, rfl⟩
  have HB : Hid (Below w.heap.size w W) := by rw [hW]; exact hb0 _ _
  have HSW : Hid (W.heap.size = w.heap.size + 2) := by rw [hW]; show _ = _; simp
  have BX : BoxS W w.heap.size (.int .i64 t.nx) (.slice a0 t.pn c0) (.slice a1 t.d.n c1) (.slice a2 t.d.m c2) (.slice a3 t.g.n1 c3) (.slice a4 t.g.n2 c4) (.slice a5 t.hn c5) (.slice a6 t.on c6) := by rw [hW]; exact (BoxS.new _ _ _ _ _ _ _ _ _ _).alloc _
  have HR : Hid (BoxS W (w.heap.size + 1) (.int .i64 0) (.slice none 0 0) (.slice none 0 0) (.slice none 0 0) (.slice none 0 0) (.slice none 0 0) (.slice none 0 0) (.slice none 0 0) ∧ ∀ i, W.frozen? ⟨w.heap.size + 1, i, none⟩ = false) := by
    rw [hW]
    refine ⟨?_, fun i => by simp [go_sem]⟩
    have := BoxS.new (w.alloc (.cells #[.int .i64 t.nx, .slice a0 t.pn c0, .slice a1 t.d.n c1, .slice a2 t.d.m c2, .slice a3 t.g.n1 c3, .slice a4 t.g.n2 c4, .slice a5 t.hn c5, .slice a6 t.on c6] 42)) (.int .i64 0) (.slice none 0 0) (.slice none 0 0) (.slice none 0 0) (.slice none 0 0) (.slice none 0 0) (.slice none 0 0) (.slice none 0 0) 42
    rw [World.size_alloc] at this
    exact this
  have HI : Hid (InSt W a0 a1 a2 a3 a4 a5 a6 t) := by rw [hW]; exact HA.out.below (hb0 _ _)
  rw [← hW]
  clear hW hb0 HA
  refine wp_region_E 18 (S := fun u => BoxS u w.heap.size (.int .i64 t.nx) (.slice a0 t.pn c0) (.slice a1 t.d.n c1) (.slice a2 t.d.m c2) (.slice a3 t.g.n1 c3) (.slice a4 t.g.n2 c4) (.slice a5 t.hn c5) (.slice a6 t.on c6)) (by kernel_rfl) (BX.below ((Below.refl _ _).drew)) (fun hS => ?_)
  obtain ⟨u0, hu0⟩ : ∃ y, y = W.drew := ⟨_, rfl⟩
  have hbu : Below W.heap.size W u0 := by rw [hu0]; exact (Below.refl _ _).drew
  rw [← hu0] at hS ⊢
  clear hu0 BX
  have HSU : Hid (u0.heap.size = w.heap.size + 2 ∨ w.heap.size + 2 ≤ u0.heap.size) := .inr (by have := hbu.size; have := HSW.out; omega)
  replace HB : Hid (Below w.heap.size w u0) := below_then HB.out hbu
  replace HI : Hid (InSt u0 a0 a1 a2 a3 a4 a5 a6 t) := HI.out.below hbu
  replace HR : Hid (BoxS u0 (w.heap.size + 1) (.int .i64 0) (.slice none 0 0) (.slice none 0 0) (.slice none 0 0) (.slice none 0 0) (.slice none 0 0) (.slice none 0 0) (.slice none 0 0) ∧ ∀ i, u0.frozen? ⟨w.heap.size + 1, i, none⟩ = false) := ⟨HR.out.1.below hbu, fun i => (hbu.frozen (p := ⟨_, i, none⟩) HR.out.1.lt).trans (HR.out.2 i)⟩
  clear hbu HSW
  refine wpAnyE_takeD (L := 18) (i := 0) (v := .pointer (some ⟨w.heap.size, 0, none⟩)) (some 6) rfl rfl (by kernel_rfl) (by kernel_rfl) (by kernel_rfl) (by kernel_rfl) (fun _ _ _ h => h) (Or.inl ⟨by kernel_rfl, by intro u hSu; go_simp⟩) hS ?_
  try simp only [Act.put, List.setIfInBounds_toArray, List.set_cons_zero, List.set_cons_succ]
  refine wpAnyE_takeD (L := 18) (i := 1) (v := .int .i64 t.nx) (some 7) rfl rfl (by kernel_rfl) (by kernel_rfl) (by kernel_rfl) (by kernel_rfl) (fun _ _ _ h => h) (Or.inl ⟨by kernel_rfl, by intro u hSu; obtain ⟨h0, h1, h2, h3, h4, h5, h6, h7⟩ := hSu; go_simp⟩) hS ?_
  try simp only [Act.put, List.setIfInBounds_toArray, List.set_cons_zero, List.set_cons_succ]
  refine wpAnyE_takeD (L := 18) (i := 2) (v := .pointer (some ⟨w.heap.size, 2, none⟩)) (some 8) rfl rfl (by kernel_rfl) (by kernel_rfl) (by kernel_rfl) (by kernel_rfl) (fun _ _ _ h => h) (Or.inl ⟨by kernel_rfl, by intro u hSu; go_simp⟩) hS ?_
  try simp only [Act.put, List.setIfInBounds_toArray, List.set_cons_zero, List.set_cons_succ]
  refine wpAnyE_takeD (L := 18) (i := 3) (v := .agg #[.slice a1 t.d.n c1, .slice a2 t.d.m c2]) (some 9) rfl rfl (by kernel_rfl) (by kernel_rfl) (by kernel_rfl) (by kernel_rfl) (fun _ _ _ h => h) (Or.inl ⟨by kernel_rfl, by intro u hSu; obtain ⟨h0, h1, h2, h3, h4, h5, h6, h7⟩ := hSu; go_simp⟩) hS ?_
  try simp only [Act.put, List.setIfInBounds_toArray, List.set_cons_zero, List.set_cons_succ]
  refine wpAnyE_takeD (L := 18) (i := 5) (v := .pointer (some ⟨w.heap.size, 4, none⟩)) (some 11) rfl rfl (by kernel_rfl) (by kernel_rfl) (by kernel_rfl) (by kernel_rfl) (fun _ _ _ h => h) (Or.inl ⟨by kernel_rfl, by intro u hSu; go_simp⟩) hS ?_
  try simp only [Act.put, List.setIfInBounds_toArray, List.set_cons_zero, List.set_cons_succ]
  refine wpAnyE_takeD (L := 18) (i := 6) (v := .agg #[.slice a3 t.g.n1 c3, .slice a4 t.g.n2 c4]) (some 12) rfl rfl (by kernel_rfl) (by kernel_rfl) (by kernel_rfl) (by kernel_rfl) (fun _ _ _ h => h) (Or.inl ⟨by kernel_rfl, by intro u hSu; obtain ⟨h0, h1, h2, h3, h4, h5, h6, h7⟩ := hSu; go_simp⟩) hS ?_
  try simp only [Act.put, List.setIfInBounds_toArray, List.set_cons_zero, List.set_cons_succ]
  refine wpAnyE_takeD (L := 18) (i := 9) (v := .pointer (some ⟨w.heap.size, 6, none⟩)) (some 15) rfl rfl (by kernel_rfl) (by kernel_rfl) (by kernel_rfl) (by kernel_rfl) (fun _ _ _ h => h) (Or.inl ⟨by kernel_rfl, by intro u hSu; go_simp⟩) hS ?_
  try simp only [Act.put, List.setIfInBounds_toArray, List.set_cons_zero, List.set_cons_succ]
  refine wpAnyE_takeD (L := 18) (i := 10) (v := .slice a5 t.hn c5) (some 16) rfl rfl (by kernel_rfl) (by kernel_rfl) (by kernel_rfl) (by kernel_rfl) (fun _ _ _ h => h) (Or.inl ⟨by kernel_rfl, by intro u hSu; obtain ⟨h0, h1, h2, h3, h4, h5, h6, h7⟩ := hSu; go_simp⟩) hS ?_
  try simp only [Act.put, List.setIfInBounds_toArray, List.set_cons_zero, List.set_cons_succ]
  refine wpAnyE_takeD (L := 18) (i := 13) (v := .pointer (some ⟨w.heap.size, 7, none⟩)) (some 19) rfl rfl (by kernel_rfl) (by kernel_rfl) (by kernel_rfl) (by kernel_rfl) (fun _ _ _ h => h) (Or.inl ⟨by kernel_rfl, by intro u hSu; go_simp⟩) hS ?_
  try simp only [Act.put, List.setIfInBounds_toArray, List.set_cons_zero, List.set_cons_succ]
  refine wpAnyE_takeD (L := 18) (i := 14) (v := .slice a6 t.on c6) (some 20) rfl rfl (by kernel_rfl) (by kernel_rfl) (by kernel_rfl) (by kernel_rfl) (fun _ _ _ h => h) (Or.inl ⟨by kernel_rfl, by intro u hSu; obtain ⟨h0, h1, h2, h3, h4, h5, h6, h7⟩ := hSu; go_simp⟩) hS ?_
  try simp only [Act.put, List.setIfInBounds_toArray, List.set_cons_zero, List.set_cons_succ]
  refine wpAnyE_inv (fun l a u => ∃ x4 x7 x8 x11 x12 x15 x16 x17 x18 : Bool, ∃ v10 v13 v14 v17 v18 v21 v22 v3 : Value, ∃ col : Nat → Nat, l = #[true, true, true, true, x4, true, true, x7, x8, true, true, x11, x12, true, true, x15, x16, x17, x18] ∧ a = { tmps := #[.agg #[.int .i64 t.nx, .slice a0 t.pn c0, .slice a1 t.d.n c1, .slice a2 t.d.m c2, .slice a3 t.g.n1 c3, .slice a4 t.g.n2 c4, .slice a5 t.hn c5, .slice a6 t.on c6], .pointer (some ⟨w.heap.size, 0, none⟩), .pointer (some ⟨w.heap.size + 1, 0, none⟩), v3, undef, undef, .pointer (some ⟨w.heap.size, 0, none⟩), .int .i64 t.nx, .pointer (some ⟨w.heap.size, 2, none⟩), .agg #[.slice a1 t.d.n c1, .slice a2 t.d.m c2], v10, .pointer (some ⟨w.heap.size, 4, none⟩), .agg #[.slice a3 t.g.n1 c3, .slice a4 t.g.n2 c4], v13, v14, .pointer (some ⟨w.heap.size, 6, none⟩), .slice a5 t.hn c5, v17, v18, .pointer (some ⟨w.heap.size, 7, none⟩), .slice a6 t.on c6, v21, v22, undef, undef, undef, undef, undef, undef, undef, undef, undef, undef, undef, undef, undef, undef, undef, undef, undef, undef, undef, undef, undef, undef, undef, undef], defers := [] } ∧ BoxS u w.heap.size (.int .i64 t.nx) (.slice a0 t.pn c0) (.slice a1 t.d.n c1) (.slice a2 t.d.m c2) (.slice a3 t.g.n1 c3) (.slice a4 t.g.n2 c4) (.slice a5 t.hn c5) (.slice a6 t.on c6) ∧ ((x18 = false ∧ LCi t u0 col x4 x7 x8 x11 x12 x15 x17 v10 v13 v14 v17 v18 v21 v3 u ∧ (x16 = true → x4 = true ∧ x7 = true ∧ x11 = true ∧ x15 = true ∧ ∃ s1 s2 s3 s4, v10 = .agg #[s1, s2] ∧ v13 = .agg #[s3, s4] ∧ v22 = .agg #[.int .i64 t.nx, .slice none 0 0, s1, s2, s3, s4, v17, v21])) ∨ (x18 = true ∧ x4 = true ∧ x7 = true ∧ x8 = true ∧ x11 = true ∧ x12 = true ∧ x15 = true ∧ x16 = true ∧ x17 = true ∧ (∃ Bo s1 s2 s3 s4, v3 = .pointer (some ⟨Bo, 0, none⟩) ∧ LCf t u0 Bo s1 s2 s3 s4 v17 v21 u)))) (fun l a u hI => ?_) (fun l a u i o hI ho hun hall => ?_) (fun l a u hI hrd => ?_) (fun l a u hI hcn => ?_) _ _ _ _ ?_ ?_
  · obtain ⟨x4, x7, x8, x11, x12, x15, x16, x17, x18, v10, v13, v14, v17, v18, v21, v22, v3, col, rfl, rfl, hx, -⟩ := hI
    exact hx
  · obtain ⟨x4, x7, x8, x11, x12, x15, x16, x17, x18, v10, v13, v14, v17, v18, v21, v22, v3, col, rfl, rfl, hx, hI⟩ := hI
    rcases hI with ⟨rfl, hL, h16⟩ | ⟨rfl, rfl, rfl, rfl, rfl, rfl, rfl, rfl, rfl, hF⟩
    case inr => rcases i with _ | _ | _ | _ | _ | _ | _ | _ | _ | _ | _ | _ | _ | _ | _ | _ | _ | _ | _ | i <;> first | (have h0 : true = false := hun; cases h0) | (have h0 : none = some o := ho; cases h0)
    rcases i with _ | _ | _ | _ | _ | _ | _ | _ | _ | _ | _ | _ | _ | _ | _ | _ | _ | _ | _ | i
    · have h0 : true = false := hun
      cases h0
    · have h0 : true = false := hun
      cases h0
    · have h0 : true = false := hun
      cases h0
    · have h0 : true = false := hun
      cases h0
    · have h0 : x4 = false := hun
      subst h0
      refine wpOp_step rfl (fun K9 hK => ?_)
      go_simp
      refine (l2Copy_new t.d a1 a2 c1 c2 u HD.out (HI.out.2.1.below hL.below)).mono ?_
      rintro e u1 ⟨v, rfl, hb, hn⟩
      exact hK _ _ ⟨true, x7, x8, x11, x12, x15, x16, x17, false, v, v13, v14, v17, v18, v21, v22, v3, _, rfl, rfl, hx.below hb, .inl ⟨rfl, hL.s4 hb hn, fun e => absurd (h16 e).1 (by simp)⟩⟩
    · have h0 : true = false := hun
      cases h0
    · have h0 : true = false := hun
      cases h0
    · have h0 : x7 = false := hun
      subst h0
      refine wpOp_step rfl (fun K9 hK => ?_)
      go_simp
      refine (l3Copy_new t.g a3 a4 c3 c4 u HLG.out (HI.out.2.2.1.below hL.below)).mono ?_
      rintro e u1 ⟨v, rfl, hb, hn⟩
      exact hK _ _ ⟨x4, true, x8, x11, x12, x15, x16, x17, false, v10, v, v14, v17, v18, v21, v22, v3, _, rfl, rfl, hx.below hb, .inl ⟨rfl, hL.s7 hb hn, fun e => absurd (h16 e).2.1 (by simp)⟩⟩
    · have h0 : x8 = false := hun
      subst h0
      refine wpOp_step rfl (fun K9 hK => ?_)
      refine step_bs0Hl u (some 14) rfl rfl rfl (fun p u1 hb => ?_)
      exact hK _ _ ⟨x4, x7, true, x11, x12, x15, x16, x17, false, v10, v13, .slice (some ⟨p, 0, none⟩) 0 0, v17, v18, v21, v22, v3, _, rfl, rfl, hx.below hb, .inl ⟨rfl, hL.s8 hb p, h16⟩⟩
    · have h0 : true = false := hun
      cases h0
    · have h0 : true = false := hun
      cases h0
    · have h0 : x11 = false := hun
      subst h0
      obtain rfl := Option.some.inj (ho.symm.trans rfl)
      have d8 : x8 = true := hall ⟨8, .data⟩ (by simp) rfl
      subst d8
      obtain ⟨p, rfl⟩ := hL.p8 rfl
      refine wpOp_step rfl (fun K9 hK => ?_)
      refine step_app0Hl u (some 17) rfl rfl (.tmp 14) (.tmp 16) rfl p rfl a5 t.hn c5 t.hK t.hV rfl (HI.out.2.2.2.1.below hL.below) (by have := HHN.out; omega) (fun v u1 hn hb => ?_)
      exact hK _ _ ⟨x4, x7, true, true, x12, x15, x16, x17, false, v10, v13, .slice (some ⟨p, 0, none⟩) 0 0, v, v18, v21, v22, v3, _, rfl, rfl, hx.below hb, .inl ⟨rfl, hL.s11 hb hn, fun e => absurd (h16 e).2.2.1 (by simp)⟩⟩
    · have h0 : x12 = false := hun
      subst h0
      refine wpOp_step rfl (fun K9 hK => ?_)
      refine step_bs0Il u (some 18) rfl rfl rfl (fun p u1 hb => ?_)
      exact hK _ _ ⟨x4, x7, x8, x11, true, x15, x16, x17, false, v10, v13, v14, v17, .slice (some ⟨p, 0, none⟩) 0 0, v21, v22, v3, _, rfl, rfl, hx.below hb, .inl ⟨rfl, hL.s12 hb p, h16⟩⟩
    · have h0 : true = false := hun
      cases h0
    · have h0 : true = false := hun
      cases h0
    · have h0 : x15 = false := hun
      subst h0
      obtain rfl := Option.some.inj (ho.symm.trans rfl)
      have d12 : x12 = true := hall ⟨12, .data⟩ (by simp) rfl
      subst d12
      obtain ⟨p, rfl⟩ := hL.p12 rfl
      refine wpOp_step rfl (fun K9 hK => ?_)
      refine step_app0Il u (some 21) rfl rfl (.tmp 18) (.tmp 20) rfl p rfl a6 t.on c6 t.oF rfl (HI.out.2.2.2.2.below hL.below) (by have := HON.out; omega) (fun v u1 hn hb => ?_)
      exact hK _ _ ⟨x4, x7, x8, x11, true, true, x16, x17, false, v10, v13, v14, v17, .slice (some ⟨p, 0, none⟩) 0 0, v, v22, v3, _, rfl, rfl, hx.below hb, .inl ⟨rfl, hL.s15 hb hn, fun e => absurd (h16 e).2.2.2.1 (by simp)⟩⟩
    · have h0 : x16 = false := hun
      subst h0
      obtain rfl := Option.some.inj (ho.symm.trans rfl)
      have d4 : x4 = true := hall ⟨4, .data⟩ (by simp) rfl
      subst d4
      have d7 : x7 = true := hall ⟨7, .data⟩ (by simp) rfl
      subst d7
      have d11 : x11 = true := hall ⟨11, .data⟩ (by simp) rfl
      subst d11
      have d15 : x15 = true := hall ⟨15, .data⟩ (by simp) rfl
      subst d15
      have hL0 := hL
      obtain ⟨-, -, h4, h7, -, h11, -, h15, -⟩ := hL0
      obtain ⟨b1, e1, b2, e2, _, _, rfl, -⟩ := h4 rfl
      obtain ⟨b3, e3, b4, e4, _, _, rfl, -⟩ := h7 rfl
      obtain ⟨b5, e5, _, _, rfl, -⟩ := h11 rfl
      obtain ⟨b6, e6, _, _, rfl, -⟩ := h15 rfl
      refine wpOp_step rfl (fun K9 hK => ?_)
      go_simp
      exact hK _ _ ⟨true, true, x8, true, x12, true, true, x17, false, _, _, v14, _, v18, _, _, v3, _, rfl, rfl, hx, .inl ⟨rfl, hL, fun _ => ⟨rfl, rfl, rfl, rfl, _, _, _, _, rfl, rfl, rfl⟩⟩⟩
    · have h0 : x17 = false := hun
      subst h0
      refine wpOp_step rfl (fun K9 hK => ?_)
      go_simp
      exact hK _ _ ⟨x4, x7, x8, x11, x12, x15, x16, true, false, v10, v13, v14, v17, v18, v21, v22, _, _, rfl, rfl, hx.alloc _, .inl ⟨rfl, hL.s17 _, h16⟩⟩
    · obtain rfl := Option.some.inj (ho.symm.trans rfl)
      have d16 : x16 = true := hall ⟨16, .data⟩ (by simp) rfl
      have d17 : x17 = true := hall ⟨17, .data⟩ (by simp) rfl
      have d8 : x8 = true := hall ⟨8, .phase⟩ (by simp) rfl
      have d12 : x12 = true := hall ⟨12, .phase⟩ (by simp) rfl
      obtain ⟨e4, e7, e11, e15, s1, s2, s3, s4, rfl, rfl, rfl⟩ := h16 d16
      subst d16 d17 d8 d12 e4 e7 e11 e15
      obtain ⟨B, rfl, k2, k3, k4, k5⟩ := hL.p17 rfl
      obtain ⟨b1, e1, b2, e2, _, _, q1, -⟩ := hL.p4 rfl
      obtain ⟨b3, e3, b4, e4, _, _, q2, -⟩ := hL.p7 rfl
      obtain ⟨b5, e5, _, _, rfl, -⟩ := hL.p11 rfl
      obtain ⟨b6, e6, _, _, rfl, -⟩ := hL.p15 rfl
      simp only [Value.agg.injEq, Array.mk.injEq, List.cons.injEq, and_true] at q1 q2
      obtain ⟨rfl, rfl⟩ := q1
      obtain ⟨rfl, rfl⟩ := q2
      have hfin := hL.fin rfl
      have hxx := hx.writes (st8_writes u B (.int .i64 t.nx) (.slice none 0 0) (.slice b1 t.d.n e1) (.slice b2 t.d.m e2) (.slice b3 t.g.n1 e3) (.slice b4 t.g.n2 e4) (.slice b5 t.hn e5) (.slice b6 t.on e6)) (.inl (by have := HSU.out; omega))
      obtain ⟨z0, z1, z2, z3, z4, z5, z6, z7⟩ := k4
      have HF9 : Hid (LCf t u0 B (.slice b1 t.d.n e1) (.slice b2 t.d.m e2) (.slice b3 t.g.n1 e3) (.slice b4 t.g.n2 e4) (.slice b5 t.hn e5) (.slice b6 t.on e6) (st8 u B (.int .i64 t.nx) (.slice none 0 0) (.slice b1 t.d.n e1) (.slice b2 t.d.m e2) (.slice b3 t.g.n1 e3) (.slice b4 t.g.n2 e4) (.slice b5 t.hn e5) (.slice b6 t.on e6))) := hfin
      have HX9 : Hid (BoxS (st8 u B (.int .i64 t.nx) (.slice none 0 0) (.slice b1 t.d.n e1) (.slice b2 t.d.m e2) (.slice b3 t.g.n1 e3) (.slice b4 t.g.n2 e4) (.slice b5 t.hn e5) (.slice b6 t.on e6)) w.heap.size (.int .i64 t.nx) (.slice a0 t.pn c0) (.slice a1 t.d.n c1) (.slice a2 t.d.m c2) (.slice a3 t.g.n1 c3) (.slice a4 t.g.n2 c4) (.slice a5 t.hn c5) (.slice a6 t.on c6)) := hxx
      clear hfin hxx hx hL h16 hall
      refine wpOp_step rfl (fun K9 hK => ?_)
      go_simp
      exact hK _ _ ⟨true, true, true, true, true, true, true, true, true, _, _, v14, _, v18, _, _, _, fun _ => 0, rfl, rfl, HX9.out, .inr ⟨rfl, rfl, rfl, rfl, rfl, rfl, rfl, rfl, rfl, B, _, _, _, _, rfl, HF9.out⟩⟩
    · have h0 : none = some o := ho
      cases h0
  · obtain ⟨x4, x7, x8, x11, x12, x15, x16, x17, x18, v10, v13, v14, v17, v18, v21, v22, v3, col, rfl, rfl, hx, hI⟩ := hI
    rcases hI with ⟨rfl, hL, h16⟩ | ⟨rfl, rfl, rfl, rfl, rfl, rfl, rfl, rfl, rfl, hF⟩
    case inl =>
      cases x4
      · exact absurd hrd (ready_mem (i := 4) rfl rfl (by intro e he _; simp at he; subst he; rfl))
      cases x7
      · exact absurd hrd (ready_mem (i := 7) rfl rfl (by intro e he _; simp at he; rcases he with rfl | rfl <;> rfl))
      cases x8
      · exact absurd hrd (ready_mem (i := 8) rfl rfl (by intro e he _; simp at he))
      cases x11
      · exact absurd hrd (ready_mem (i := 11) rfl rfl (by intro e he _; simp at he; rcases he with rfl | rfl | rfl <;> rfl))
      cases x12
      · exact absurd hrd (ready_mem (i := 12) rfl rfl (by intro e he _; simp at he))
      cases x15
      · exact absurd hrd (ready_mem (i := 15) rfl rfl (by intro e he _; simp at he; rcases he with rfl | rfl | rfl <;> rfl))
      cases x17
      · exact absurd hrd (ready_mem (i := 17) rfl rfl (by intro e he _; simp at he))
      cases x16
      · exact absurd hrd (ready_mem (i := 16) rfl rfl (by intro e he _; simp at he; rcases he with rfl | rfl | rfl | rfl | rfl <;> rfl))
      exact absurd hrd (ready_mem (i := 18) rfl rfl (by intro e he _; simp at he; rcases he with rfl | rfl | rfl | rfl | rfl | rfl | rfl | rfl | rfl | rfl | rfl | rfl | rfl | rfl | rfl | rfl | rfl | rfl | rfl | rfl | rfl <;> rfl))
    obtain ⟨B, s1, s2, s3, s4, rfl, hF⟩ := hF
    have HC0 : Hid (CLi t u0 u B u.heap.size (.slice none 0 0) s1 s2 s3 s4 v17 v21 0) := by
      obtain ⟨q1, q2, q3, q4, ⟨cl, q5, q6⟩⟩ := hF
      exact ⟨q1, q2, q3.lt, q3, q4, ⟨cl, q5, q6⟩, GrPg.nil _ _ _⟩
    have hx1 := hx.2.1
    have hwu : w.heap.size + 2 ≤ u0.heap.size := by have := HSU.out; omega
    clear hF hrd hx
    go_simp
    go_wp2_with fail
    go_loopw [4, 5] (fun i _ wr => ∃ (k : Nat) (v : Value), k ≤ t.pn ∧ i = .int .i64 k ∧ Hid (CLi t u0 wr B u.heap.size v s1 s2 s3 s4 v17 v21 k) ∧ wr.cell? ⟨w.heap.size, 1, none⟩ = some (.slice a0 t.pn c0)) (fun i _ _ => t.pn - (intOf i).toNat)
    case atStart => exact ⟨0, _, Nat.zero_le _, rfl, HC0, hx1⟩
    case round =>
      clear HC0 hx1
      obtain ⟨k, v, hk, rfl, HC, hx1⟩ := hrel
      by_cases hlt : k < t.pn
      · have hlt' : (k : Int) < (t.pn : Int) := by omega
        have hk0 : (0 : Int) ≤ (k : Int) := by omega
        rcases (HI.out.1.below HC.out.below) with q | ⟨b, off, rfl, hl, hcc⟩
        · omega
        obtain ⟨pa, pc, ⟨q0, q1, q2⟩, ⟨hI2, -⟩, -⟩ := hcc k hlt
        have HIC : Hid (CellsAt wr pa (t.pT k).cn (t.pT k).cK (t.pT k).cV) := hI2
        have HCN : Hid ((t.pT k).cn ≤ 100000) := by
          have e := (hG.pg k (by have := hG.pn; omega)).1
          have := (good_of e).gn
          show _ ≤ _; omega
        have hbB : B < wr.heap.size := HC.out.bx.lt
        have hk5 : k ≤ 100000 := by have := hG.pn; omega
        clear hcc hI2
        have HIC2 : Hid (∀ o1 o2, CellsAt ((wr.alloc o1).alloc o2) pa (t.pT k).cn (t.pT k).cK (t.pT k).cV) := fun o1 o2 => (HIC.out.below (below_new _ _)).below (below_new _ _)
        have hb2 : ∀ o1 o2, Below wr.heap.size wr ((wr.alloc o1).alloc o2) := fun o1 o2 => (((Below.refl _ _).alloc (Nat.le_refl _) _).alloc (by simp) _)
        clear HIC
        go_wp2_with (at_builtin; refine wpList_app0Cp _ rfl (.tmp 35) (.tmp 37) rfl _ rfl pa (t.pT k).cn pc (t.pT k).cK (t.pT k).cV rfl (HIC2.out _ _) HCN.out ?_)
        intro v1 w1 hN hb1
        obtain ⟨na, nc, rfl, hnc, hno⟩ := hN
        obtain ⟨Y, hY⟩ : ∃ x, x = (wr.alloc (.cells #[.int .i64 (t.pT k).id, .int .i64 (t.pT k).lsn, .slice pa (t.pT k).cn pc] 66)).alloc (.cells #[] 139) := ⟨_, rfl⟩
        have hYs : Y.heap.size = wr.heap.size + 2 := by rw [hY]; simp
        have hb3 : Below Y.heap.size Y w1 := by rw [hYs, hY]; exact hb1
        have hbY : Below wr.heap.size wr Y := by rw [hY]; exact hb2 _ _
        have p0 : w1.cell? ⟨wr.heap.size, 0, none⟩ = some (.int .i64 (t.pT k).id) := cell_below (by rw [hY]; simp [go_sem]) hb3
        have p1 : w1.cell? ⟨wr.heap.size, 1, none⟩ = some (.int .i64 (t.pT k).lsn) := cell_below (by rw [hY]; simp [go_sem]) hb3
        have p2 : w1.cell? ⟨wr.heap.size, 2, none⟩ = some (.slice pa (t.pT k).cn pc) := cell_below (by rw [hY]; simp [go_sem]) hb3
        have pf1 : ∀ i, w1.frozen? ⟨wr.heap.size, i, none⟩ = false := fun i => (hb3.frozen (p := ⟨_, i, none⟩) (by show wr.heap.size < Y.heap.size; omega)).trans (by rw [hY]; simp [go_sem])
        have hbw : Below wr.heap.size wr w1 := below_then hbY hb3
        have hs1 : wr.heap.size + 2 ≤ w1.heap.size := by have := hb3.size; omega
        have hno2 : Own w1 (wr.heap.size + 2) w1.heap.size na (t.pT k).cn (t.pT k).cK (t.pT k).cV := by rw [← hY, hYs] at hno; exact hno
        clear hb3 hbY hYs hY
        clear hb1 hno hb2 HIC2 q0 q1 q2
        go_upto_region 7 with fail
        obtain ⟨W2, hW2⟩ : ∃ x, x = w1.setCell ⟨wr.heap.size, 2, none⟩ (.slice na (t.pT k).cn nc) := ⟨_, rfl⟩
        have hbW : Below wr.heap.size wr W2 := by rw [hW2]; exact hbw.setCell (p := ⟨wr.heap.size, 2, none⟩) (Nat.le_refl _) _
        have g0 : W2.cell? ⟨wr.heap.size, 0, none⟩ = some (.int .i64 (t.pT k).id) := by rw [hW2, setO (by omega)]; exact p0
        have g1 : W2.cell? ⟨wr.heap.size, 1, none⟩ = some (.int .i64 (t.pT k).lsn) := by rw [hW2, setO (by omega)]; exact p1
        have g2 : W2.cell? ⟨wr.heap.size, 2, none⟩ = some (.slice na (t.pT k).cn nc) := by rw [hW2]; exact setS p2
        have HO2 : Hid (Own W2 (wr.heap.size + 2) w1.heap.size na (t.pT k).cn (t.pT k).cK (t.pT k).cV) := by
          rw [hW2]; exact hno2.writes (lo' := wr.heap.size) (hi' := wr.heap.size + 1) ((Writes.refl _ _ _).setCell (p := ⟨wr.heap.size, 2, none⟩) (Nat.le_refl _) (Nat.lt_succ_self _) _) (.inr (by omega))
        have HS2 : Hid (W2.heap.size = w1.heap.size) := by rw [hW2]; show _ = _; simp [World.setCell]
        rw [← hW2]
        clear hW2 p0 p1 p2 pf1 hbw hno2
        have HC2 : Hid (CLi t u0 W2 B u.heap.size v s1 s2 s3 s4 v17 v21 k) := HC.out.mono hbW
        have HG2 : Hid (GrPg u.heap.size wr.heap.size W2 v k t.pT) := HC.out.gr.below hbW
        have hMw : u.heap.size ≤ wr.heap.size := HC.out.gr.1 |> fun _ => by obtain ⟨cl, _, hp⟩ := HC.out.pc; exact hp.hh
        have y1 := HC2.out.bx.2.1
        have yf := HC2.out.bf
        have hx2 : W2.cell? ⟨w.heap.size, 1, none⟩ = some (.slice (some ⟨b, off, none⟩) t.pn c0) := cell_below hx1 hbW
        have HW3 : Hid (∀ o : Obj, CLi t u0 (W2.alloc o) B u.heap.size v s1 s2 s3 s4 v17 v21 k) := fun o => HC2.out.mono (below_new _ _)
        have HG3 : Hid (∀ o : Obj, GrPg u.heap.size wr.heap.size (W2.alloc o) v k t.pT) := fun o => HG2.out.below (below_new _ _)
        have HO3 : Hid (∀ o : Obj, Own (W2.alloc o) (wr.heap.size + 2) w1.heap.size na (t.pT k).cn (t.pT k).cK (t.pT k).cV) := fun o => HO2.out.below (below_new _ _)
        have hxx : ∀ o : Obj, (W2.alloc o).cell? ⟨w.heap.size, 1, none⟩ = some (.slice (some ⟨b, off, none⟩) t.pn c0) := fun o => cell_alloc hx2 o
        have HXX : Hid (∀ w2, (W2.alloc (.cells #[.int .i64 (t.pT k).id, .int .i64 (t.pT k).lsn, .slice na (t.pT k).cn nc] 66)).grownBy w2 v.ownBlock → w2.cell? ⟨w.heap.size, 1, none⟩ = some (.slice (some ⟨b, off, none⟩) t.pn c0)) := fun w2 hg => by
          have hvv : ∀ q, v.ownBlock = some q → u.heap.size ≤ q := fun q hq => by obtain ⟨_, A9, c9, l9, h9, ho9, _⟩ := HG2.out; exact (ho9.lt q hq).1
          have hlt9 : w.heap.size < u.heap.size := by have := HC.out.hM; have := HC.out.hB; omega
          have hlW : w.heap.size < W2.heap.size := Go.block_lt_of_cell hx2
          exact (World.cell?_of_block (w := W2.alloc _) (a := ⟨w.heap.size, 1, none⟩) (hg.block w.heap.size (by simp; omega) fun e => by have := hvv _ e.symm; omega)).trans (hxx _)
        clear HC HG2 HO2 hx1 hxx
        go_wp2_with (at_builtin; refine wpList_grPg _ rfl (.tmp 41) (.tmp 43) rfl u.heap.size wr.heap.size v k t.pT rfl (HG3.out _) W2.heap.size 0 1 (t.pT k) na nc (wr.heap.size + 2) w1.heap.size rfl (lit_pg2 W2 (t.pT k) na nc) (.inr ⟨by omega, by rw [World.size_alloc, HS2.out]; omega⟩) hMw hnc (HO3.out _) hk5 ?_)
        intro g cap' w2 hgr hg
        obtain ⟨hn2, c12, cf2⟩ := CLi.app (HW3.out _) hg hgr
        have HN2 : Hid (CLi t u0 (w2.setCell ⟨B, 1, none⟩ (.slice (some ⟨g, 0, none⟩) (k + 1) cap')) B u.heap.size (.slice (some ⟨g, 0, none⟩) (k + 1) cap') s1 s2 s3 s4 v17 v21 (k + 1)) := hn2
        have hwB : w.heap.size ≠ B := by have := HC2.out.hB; omega
        have HX4 : Hid ((w2.setCell ⟨B, 1, none⟩ (.slice (some ⟨g, 0, none⟩) (k + 1) cap')).cell? ⟨w.heap.size, 1, none⟩ = some (.slice (some ⟨b, off, none⟩) t.pn c0)) := by
          show _ = _
          rw [World.cell?_setCell_far _ _ _ _ (Ne.symm hwB)]
          exact HXX.out w2 hg
        clear hn2 hgr hg HW3 HG3 HO3 y1 yf HXX HC2
        go_wp2_with fail
        go_roundw
        case rel => exact ⟨k + 1, _, by omega, by go_num, HN2, HX4.out⟩
        case measure => simp [intOf]; omega
      · have hkn : k = t.pn := by omega
        have hnl : ¬ ((k : Int) < (t.pn : Int)) := by omega
        have HC1 : Hid (CLi t u0 wr B u.heap.size v s1 s2 s3 s4 v17 v21 t.pn) := by rw [← hkn]; exact HC.out
        have HF : Hid (∀ w7, Writes (w.heap.size + 1) (w.heap.size + 2) wr w7 → w7.heap.size = wr.heap.size → SRes1 t w (.returned (.agg #[.int .i64 t.nx, v, s1, s2, s3, s4, v17, v21])) w7) := fun w7 g1 g2 => HC1.out.fin HB.out (w.heap.size + 1) (w.heap.size + 2) (by omega) (by omega) g1 g2
        obtain ⟨y0, y1, y2, y3, y4, y5, y6, y7⟩ := HC.out.bx
        have hrb := HR.out.1.below HC.out.below
        have hf : ∀ i, wr.frozen? ⟨w.heap.size + 1, i, none⟩ = false := fun i => (HC.out.below.frozen (p := ⟨_, i, none⟩) (by show w.heap.size + 1 < u0.heap.size; omega)).trans (HR.out.2 i)
        obtain ⟨z0, z1, z2, z3, z4, z5, z6, z7⟩ := hrb
        obtain ⟨⟨b1, e1, b2, e2, _, _, rfl, rfl, -⟩, ⟨b3, e3, b4, e4, _, _, rfl, rfl, -⟩, ⟨b5, e5, _, _, rfl, -⟩, ⟨b6, e6, _, _, rfl, -⟩⟩ : (∃ a c a' c' l h, s1 = .slice a t.d.n c ∧ s2 = .slice a' t.d.m c' ∧ (True ∧ l = (l : Nat) ∧ h = (h : Nat))) ∧ (∃ a c a' c' l h, s3 = .slice a t.g.n1 c ∧ s4 = .slice a' t.g.n2 c' ∧ (True ∧ l = (l : Nat) ∧ h = (h : Nat))) ∧ (∃ a c l h, v17 = .slice a t.hn c ∧ (True ∧ l = (l : Nat) ∧ h = (h : Nat))) ∧ (∃ a c l h, v21 = .slice a t.on c ∧ (True ∧ l = (l : Nat) ∧ h = (h : Nat))) := by
          obtain ⟨cl, _, hp⟩ := HC.out.pc
          obtain ⟨-, -, ⟨a, c, a', c', l, h, q1, q2, -⟩, ⟨b, d, b', d', l', h', r1, r2, -⟩, ⟨e, f, m, n, o1, -⟩, ⟨e', f', m', n', p1, -⟩⟩ := hp
          exact ⟨⟨a, c, a', c', l, h, q1, q2, trivial, rfl, rfl⟩, ⟨b, d, b', d', l', h', r1, r2, trivial, rfl, rfl⟩, ⟨e, f, m, n, o1, trivial, rfl, rfl⟩, ⟨e', f', m', n', p1, trivial, rfl, rfl⟩⟩
        obtain ⟨va, vc, rfl, -⟩ := HC.out.gr.own
        clear HC HC1 hkn
        go_wp2_with fail
        refine bodyPost_ret (v := .agg #[.int .i64 t.nx, .slice va k vc, .slice b1 t.d.n e1, .slice b2 t.d.m e2, .slice b3 t.g.n1 e3, .slice b4 t.g.n2 e4, .slice b5 t.hn e5, .slice b6 t.on e6]) (by simp [results, Tryz.results27, go_sem, *]) rfl ?_
        refine HF.out _ ?_ (by simp [World.setCell])
        repeat (first | with_reducible exact Writes.refl _ _ _ | with_reducible refine Writes.setCell ?_ (by first | omega | (simp <;> omega)) (by first | omega | (simp <;> omega)) _)
  · obtain ⟨x4, x7, x8, x11, x12, x15, x16, x17, x18, v10, v13, v14, v17, v18, v21, v22, v3, col, rfl, rfl, hx, hI⟩ := hI
    have hcn2 := List.count_eq_zero.1 hcn
    cases x4
    · exact absurd (by simp) hcn2
    cases x7
    · exact absurd (by simp) hcn2
    cases x8
    · exact absurd (by simp) hcn2
    cases x11
    · exact absurd (by simp) hcn2
    cases x12
    · exact absurd (by simp) hcn2
    cases x15
    · exact absurd (by simp) hcn2
    cases x16
    · exact absurd (by simp) hcn2
    cases x17
    · exact absurd (by simp) hcn2
    cases x18
    · exact absurd (by simp) hcn2
    refine (?_ : Region.ready Region.Mode.any _ _ = [])
    kernel_rfl
  · exact Nat.le_of_eq (by kernel_rfl)
  · exact ⟨false, false, false, false, false, false, false, false, false, undef, undef, undef, undef, undef, undef, undef, undef, fun _ => 0, rfl, rfl, hS, .inl ⟨rfl, ⟨Below.refl _ _, fun x hx => absurd rfl hx, fun e => (by cases e), fun e => (by cases e), fun e => (by cases e), fun e => (by cases e), fun e => (by cases e), fun e => (by cases e), fun e => (by cases e)⟩, fun e => (by cases e)⟩⟩
theorem wp_appRHl {o : Oper} {a : Act} {Kc : Act → World → Prop} {Q : Exit → Act → World → Prop} (w : World) (s x : Operand)
    (ho : o.op = .call { callee := .builtin .append, args := #[s, x], argTypes := #[40, 40] })
    (hs : a.eval s = .slice none 0 0) (xa : Option Addr) (m c : Nat) (K V : Nat → Int) (hx : a.eval x = .slice xa m c) (hb : CellsAt w xa m K V) (h63 : m ≤ 100000)
    (h : ∀ v' w', w'.ownsRow w.heap.size 126 2 v' m (cbF K V m) → Below w.heap.size w w' → Kc (a.put o.dst v') w') : o.wp Tryz.prog a w Kc Q := by
  by_cases hm : m = 0
  · subst hm
    have hr := run_app_zeroHl w o.type none 0 0 xa c (Nat.le_refl _)
    unfold Oper.wp execOp
    simp only [ho, resolve, invoke, builtin, Sem.run_bind, Sem.run_pure, Result.andThen_ok, List.map_toArray, List.map_cons, List.map_nil, hs, hx, hr]
    exact h _ w (by rw [show cbF K V 0 = [] from rfl]; exact World.ownsRow_nil _ _ _ _) (Below.refl _ _)
  · rcases hb with hb | ⟨b, off, rfl, hbl, hk, hv⟩
    · exact absurd hb hm
    · obtain ⟨i0, hi, hz0, hz1, hz2⟩ := info_parts9 infoHeld
      have hnews : ∀ j u, (cbF K V m)[j]? = some u → w.cell? ((⟨b, off, none⟩ : Addr).add j) = some u := fun j u hj => by
        have hj2 : j < m * 2 := by have := (List.getElem?_eq_some_iff.1 hj).1; rwa [cbF_len] at this
        rw [cbF_get hj2] at hj
        rw [WideShapes.add_plain, ← hj]
        have : j % 2 = 0 ∨ j % 2 = 1 := by omega
        rcases this with e | e
        · obtain ⟨i, rfl⟩ : ∃ i, j = i * 2 := ⟨j / 2, by omega⟩
          rw [cv_key]
          exact hk i (by omega)
        · obtain ⟨i, rfl⟩ : ∃ i, j = i * 2 + 1 := ⟨j / 2, by omega⟩
          rw [cv_val]
          exact hv i (by omega)
      have hlen : (cbF K V m).length = m * i0.size := by rw [cbF_len, hz1]
      obtain ⟨v', w', r3, h2, h3, -⟩ := run_append_own (P := Tryz.prog) w w.heap.size 40 o.type 126 i0 _ 2 16 Tryz.underlying40 hi hz0 hz1 hz2 rfl (by decide) (.slice none 0 0) 0 [] (World.ownsRow_nil _ _ _ _) ⟨b, off, none⟩ m c (cbF K V m) (by rw [cbF_len]) hnews (cbF_one _ _ _) (by unfold maxLen; omega) (by omega) (Nat.le_refl _)
      have hr : (Builtin.append_ #[40, 40] o.type #[.slice none 0 0, .slice (some ⟨b, off, none⟩) m c]).run Tryz.prog w = .ok v' w' := by
        exact r3
      unfold Oper.wp execOp
      simp only [ho, resolve, invoke, builtin, Sem.run_bind, Sem.run_pure, Result.andThen_ok, List.map_toArray, List.map_cons, List.map_nil, hs, hx, hr]
      refine h _ _ ?_ ((Below.refl _ _).grown h3 (Nat.le_refl _) (fun q hq => by simp [Value.ownBlock] at hq))
      simpa using h2
theorem wpList_appRHl {ops : Array Oper} {rest : List Oper} {o : Oper} {a : Act} {Q : Exit → Act → World → Prop} (w : World) (hgd : o.guard = none) (s x : Operand)
    (ho : o.op = .call { callee := .builtin .append, args := #[s, x], argTypes := #[40, 40] })
    (hs : a.eval s = .slice none 0 0) (xa : Option Addr) (m c : Nat) (K V : Nat → Int) (hx : a.eval x = .slice xa m c) (hb : CellsAt w xa m K V) (h63 : m ≤ 100000)
    (h : ∀ v' w', w'.ownsRow w.heap.size 126 2 v' m (cbF K V m) → Below w.heap.size w w' → wpList Tryz.prog ops Q rest (a.put o.dst v') w') : wpList Tryz.prog ops Q (o :: rest) a w :=
  wpList_plain hgd fun _ hKK => wp_appRHl w s x ho hs xa m c K V hx hb h63 fun v' w' h2 h3 => hKK _ _ (h v' w' h2 h3)
set_option maxHeartbeats 1000000 in
theorem joinedRHl_any (n : Nat) (K V : Nat → Int) (a : Option Addr) (cap pb : Nat) (w : World) (hn : n ≤ 90000) (hp : w.cell? ⟨pb, 0, none⟩ = some (.slice a n cap)) (hb : CellsAt w a n K V) :
    Calls Tryz.prog 190 #[.slice (some ⟨pb, 0, none⟩) 1 1] w fun e w' => ∃ v, e = .returned v ∧ Below w.heap.size w w' ∧ w'.ownsRow w.heap.size 126 2 v n (cbF K V n) := by
  have HB : Hid (CellsAt w a n K V) := hb
  clear hb
  go_enter Tryz.func190, Tryz.ntmps190
  go_wp2_with fail
  go_loopw [3, 5, 8] (fun v _ i wr => (i = .int .i64 0 ∧ v = .slice none 0 0 ∧ wr = w) ∨ (i = .int .i64 1 ∧ Hid (wr.ownsRow w.heap.size 126 2 v n (cbF K V n)) ∧ Hid (Below w.heap.size w wr))) (fun _ _ i _ => 1 - (intOf i).toNat)
  case atStart => exact .inl ⟨rfl, rfl, rfl⟩
  case round =>
    rcases hrel with ⟨rfl, rfl, rfl⟩ | ⟨rfl, HN, HB2⟩
    · go_wp2_with (at_builtin; refine wpList_appRHl _ rfl (.tmp 12) (.tmp 13) rfl rfl a n cap K V rfl HB.out (by omega) ?_)
      intro v1 w1 hN hb1
      have HN : Hid (w1.ownsRow wr.heap.size 126 2 v1 n (cbF K V n)) := hN
      have HB1 : Hid (Below wr.heap.size wr w1) := hb1
      clear hN hb1
      go_wp2_with fail
      go_roundw
      case rel => exact .inr ⟨by go_num, HN, HB1⟩
      case measure => simp [intOf]
    · clear hp
      go_wp2_with fail
      go_ret
      exact ⟨_, rfl, HB2.out, HN.out⟩
theorem wp_appRIl {o : Oper} {a : Act} {Kc : Act → World → Prop} {Q : Exit → Act → World → Prop} (w : World) (s x : Operand)
    (ho : o.op = .call { callee := .builtin .append, args := #[s, x], argTypes := #[31, 31] })
    (hs : a.eval s = .slice none 0 0) (xa : Option Addr) (m c : Nat) (z : Nat → Int) (hx : a.eval x = .slice xa m c) (hb : IntsAt w xa m z) (h63 : m ≤ 100000)
    (h : ∀ v' w', w'.ownsRow w.heap.size 2 1 v' m (ivs z m) → Below w.heap.size w w' → Kc (a.put o.dst v') w') : o.wp Tryz.prog a w Kc Q := by
  by_cases hm : m = 0
  · subst hm
    have hr := run_app_zeroIl w o.type none 0 0 xa c (Nat.le_refl _)
    unfold Oper.wp execOp
    simp only [ho, resolve, invoke, builtin, Sem.run_bind, Sem.run_pure, Result.andThen_ok, List.map_toArray, List.map_cons, List.map_nil, hs, hx, hr]
    exact h _ w (by rw [show ivs z 0 = [] from rfl]; exact World.ownsRow_nil _ _ _ _) (Below.refl _ _)
  · rcases hb with hb | ⟨b, off, rfl, hbl, hk⟩
    · exact absurd hb hm
    · obtain ⟨i0, hi, hz0, hz1, hz2⟩ := info_parts9 info2
      have hnews : ∀ j u, (ivs z m)[j]? = some u → w.cell? ((⟨b, off, none⟩ : Addr).add j) = some u := fun j u hj => by
        have hj2 : j < m := by have := (List.getElem?_eq_some_iff.1 hj).1; rwa [ivs_len] at this
        rw [ivs_get hj2] at hj
        rw [WideShapes.add_plain, ← hj]
        exact hk j hj2
      have hlen : (ivs z m).length = m * i0.size := by rw [ivs_len, hz1]; omega
      obtain ⟨v', w', r3, h2, h3, -⟩ := run_append_own (P := Tryz.prog) w w.heap.size 31 o.type 2 i0 _ 1 8 Tryz.underlying31 hi hz0 hz1 hz2 rfl (by decide) (.slice none 0 0) 0 [] (World.ownsRow_nil _ _ _ _) ⟨b, off, none⟩ m c (ivs z m) (by rw [ivs_len]; omega) hnews (ivs_one _ _) (by unfold maxLen; omega) (by omega) (Nat.le_refl _)
      have hr : (Builtin.append_ #[31, 31] o.type #[.slice none 0 0, .slice (some ⟨b, off, none⟩) m c]).run Tryz.prog w = .ok v' w' := by
        exact r3
      unfold Oper.wp execOp
      simp only [ho, resolve, invoke, builtin, Sem.run_bind, Sem.run_pure, Result.andThen_ok, List.map_toArray, List.map_cons, List.map_nil, hs, hx, hr]
      refine h _ _ ?_ ((Below.refl _ _).grown h3 (Nat.le_refl _) (fun q hq => by simp [Value.ownBlock] at hq))
      simpa using h2
theorem wpList_appRIl {ops : Array Oper} {rest : List Oper} {o : Oper} {a : Act} {Q : Exit → Act → World → Prop} (w : World) (hgd : o.guard = none) (s x : Operand)
    (ho : o.op = .call { callee := .builtin .append, args := #[s, x], argTypes := #[31, 31] })
    (hs : a.eval s = .slice none 0 0) (xa : Option Addr) (m c : Nat) (z : Nat → Int) (hx : a.eval x = .slice xa m c) (hb : IntsAt w xa m z) (h63 : m ≤ 100000)
    (h : ∀ v' w', w'.ownsRow w.heap.size 2 1 v' m (ivs z m) → Below w.heap.size w w' → wpList Tryz.prog ops Q rest (a.put o.dst v') w') : wpList Tryz.prog ops Q (o :: rest) a w :=
  wpList_plain hgd fun _ hKK => wp_appRIl w s x ho hs xa m c z hx hb h63 fun v' w' h2 h3 => hKK _ _ (h v' w' h2 h3)
set_option maxHeartbeats 1000000 in
theorem joinedRIl_any (n : Nat) (z : Nat → Int) (a : Option Addr) (cap pb : Nat) (w : World) (hn : n ≤ 90000) (hp : w.cell? ⟨pb, 0, none⟩ = some (.slice a n cap)) (hb : IntsAt w a n z) :
    Calls Tryz.prog 191 #[.slice (some ⟨pb, 0, none⟩) 1 1] w fun e w' => ∃ v, e = .returned v ∧ Below w.heap.size w w' ∧ w'.ownsRow w.heap.size 2 1 v n (ivs z n) := by
  have HB : Hid (IntsAt w a n z) := hb
  clear hb
  go_enter Tryz.func191, Tryz.ntmps191
  go_wp2_with fail
  go_loopw [3, 5, 8] (fun v _ i wr => (i = .int .i64 0 ∧ v = .slice none 0 0 ∧ wr = w) ∨ (i = .int .i64 1 ∧ Hid (wr.ownsRow w.heap.size 2 1 v n (ivs z n)) ∧ Hid (Below w.heap.size w wr))) (fun _ _ i _ => 1 - (intOf i).toNat)
  case atStart => exact .inl ⟨rfl, rfl, rfl⟩
  case round =>
    rcases hrel with ⟨rfl, rfl, rfl⟩ | ⟨rfl, HN, HB2⟩
    · go_wp2_with (at_builtin; refine wpList_appRIl _ rfl (.tmp 12) (.tmp 13) rfl rfl a n cap z rfl HB.out (by omega) ?_)
      intro v1 w1 hN hb1
      have HN : Hid (w1.ownsRow wr.heap.size 2 1 v1 n (ivs z n)) := hN
      have HB1 : Hid (Below wr.heap.size wr w1) := hb1
      clear hN hb1
      go_wp2_with fail
      go_roundw
      case rel => exact .inr ⟨by go_num, HN, HB1⟩
      case measure => simp [intOf]
    · clear hp
      go_wp2_with fail
      go_ret
      exact ⟨_, rfl, HB2.out, HN.out⟩
/-- Bytes that are answered, in blocks of their own. -/
def NewB (w w' : World) (v : Value) (n : Nat) (z : Nat → Int) : Prop := ∃ a cap, v = .slice a n cap ∧ n ≤ cap ∧ OwnB w' w.heap.size w'.heap.size a n z
theorem joined1B_any (n : Nat) (z : Nat → Int) (a : Option Addr) (cap pb : Nat) (w : World) (hn : n ≤ 90000) (hp : w.cell? ⟨pb, 0, none⟩ = some (.slice a n cap)) (hb : BytesAt w a n z) :
    Calls Tryz.prog 162 #[.slice (some ⟨pb, 0, none⟩) 1 1] w fun e w' => ∃ v, e = .returned v ∧ Below w.heap.size w w' ∧ NewB w w' v n z := by
  refine (joined_any 1 (fun _ => a) (fun _ => n) (fun _ => cap) (fun _ => z) pb 0 1 w (by simp [sumL]; omega) (Go.block_lt_of_cell hp) (fun i hi => ?_) (by omega)).mono ?_
  · have : i = 0 := by omega
    subst this
    exact ⟨hp, hb⟩
  · rintro e w' ⟨v, rfl, h1, h2⟩
    simp only [jn, List.nil_append] at h2
    obtain ⟨b, c, e1, ho⟩ := ownB_of_row h2
    rw [zL_len] at e1 ho
    have hcp : n ≤ c := by
      have q := h2
      rw [e1, zL_len] at q
      exact own_cap q
    refine ⟨v, rfl, h1, b, c, e1, hcp, ?_⟩
    obtain ⟨q0, q1 | ⟨g, off, ha, q2, q3, q4, q5⟩⟩ := ho
    · exact ⟨q0, .inl q1⟩
    · exact ⟨q0, .inr ⟨g, off, ha, q2, q3, fun i hi => by rw [q4 i hi]; simp [zOf, zL, hi], q5⟩⟩
theorem infoBs9 : (Tryz.prog.info? 27).map (fun i => (i.zero, i.size, i.bytes)) = some (some (.slice none 0 0), 1, 24) := by kernel_rfl
theorem run_bsSB (w : World) (a : Option Addr) (n c : Nat) : (Instr.buildSlice 23 1 #[(0, .slice a n c)]).run Tryz.prog w = .ok (.slice (some ⟨w.heap.size, 0, none⟩) 1 1) (w.alloc (.cells #[.slice a n c] 27)) := by
  obtain ⟨i0, hi, hz0, hz1, hz2⟩ := info_parts9 infoBs9
  simp [Instr.buildSlice, Sem.run_bind, run_underlying Tryz.underlying23, sizeOf, typeInfo, hi, hz1, zeroValue, hz0, Instr.fill, Value.cells, newRow, show Array.range 1 = #[0] from rfl]
theorem step_bsSB {ops : Array Oper} {o : Oper} {a : Act} {Kc : Act → World → Prop} {Q : Exit → Act → World → Prop} {Ee : Prop} (w : World) (d : Option Tmp) (hd : o.dst = d) (hgd : o.guard = none) (x : Operand) (ho : o.op = .buildSlice 23 1 #[(0, x)])
    (ad : Option Addr) (n c : Nat) (hx : a.eval x = .slice ad n c)
    (h : ∀ X w', w'.cell? ⟨X, 0, none⟩ = some (.slice ad n c) → Below w.heap.size w w' → Kc (a.put d (.slice (some ⟨X, 0, none⟩) 1 1)) w') :
    if Region.wanted o (yielded ops a.tmps) = true then Oper.wp Tryz.prog o a w Kc Q else Ee := by
  have hw : Region.wanted o (yielded ops a.tmps) = true := by simp [Region.wanted, hgd]
  rw [if_pos hw]
  subst hd
  unfold Oper.wp execOp
  simp only [ho, hx, List.map_toArray, List.map_cons, List.map_nil, run_bsSB w ad n c, Sem.run_bind, Sem.run_pure, Result.andThen_ok]
  exact h _ _ (by simp [go_sem]) (below_new _ _)
set_option maxHeartbeats 400000 in
theorem secBytes2 (z : Nat → Int) (w : World) :
    Calls Tryz.prog 210 #[.agg (bvs z 16).toArray] w fun e w' => ∃ g cap, e = .returned (.slice (some ⟨g, 0, none⟩) 16 cap) ∧ Below w.heap.size w w' ∧ w.heap.size ≤ g ∧ g < w'.heap.size ∧ Row1 w' g 0 16 z ∧ 16 ≤ cap := by
  obtain ⟨i0, hi, hz0, hz1, hz2⟩ := info_parts info5
  have HI : Hid (Tryz.prog.info? 5 = some i0 ∧ i0.zero = some (.int .u8 0) ∧ i0.size = 1 ∧ i0.bytes = 1) := ⟨hi, hz0, hz1, hz2⟩
  clear hi hz0 hz1 hz2
  go_enter Tryz.func210, Tryz.ntmps210
  go_wp2_with (at_builtin; refine wpList_append_lies _ rfl (.tmp 4) (.tmp 5) 27 rfl (w.heap.size + 1) 5 i0 (.int .u8 0) 1 1 Tryz.underlying27 HI.out.1 HI.out.2.1 HI.out.2.2.1 HI.out.2.2.2 rfl (by decide) _ 0 [] rfl (World.ownsRow_nil _ _ _ _) ⟨w.heap.size, 0, none⟩ 16 16 (bvs z 16) rfl ?c1 ?c2 (bvs_one _ _) (by decide) ?c3 ?c4 ?c5 _ rfl ?_)
  case c1 => rw [bvs_len]
  case c2 =>
    intro j u hu
    rw [Addr.add_mid]
    exact range_block (heap_alloc_last _ _) j u hu
  case c3 => unfold maxLen; omega
  case c4 => omega
  case c5 => simp
  intro G C w' ho hg _ hlt
  have HO : Hid (w'.ownsRow (w.heap.size + 1) 5 1 (.slice (some ⟨G, 0, none⟩) 16 C) 16 (bvs z 16)) := ho
  have HB : Hid (Below w.heap.size w w') := Below.grown (below_new _ _) hg (by simp) (by simp [Value.ownBlock])
  have HL : Hid (G < w'.heap.size) := hlt
  clear ho hg hlt
  go_wp2_with fail
  go_ret
  obtain ⟨h1, h2⟩ := row_own HO.out
  exact ⟨G, C, rfl, HB.out, by have := (HO.out.lt G rfl).1; omega, HL.out, h1, h2⟩
/-- One round: a loose write is copied into a box, its bytes are made anew, and it is appended. -/
theorem roundC {wr w2 w4 : World} {B j G C g2 c2 : Nat} {v : Value} {P T : Nat → Int} {Y : Nat → Nat → Int} {g c : Nat → Nat} {o o2 : Obj} {x : Value} (hB : B ≤ wr.heap.size) (hj : ∀ x y, x < j → y < j → g x = g y → x = y)
    (hcc : ∀ i, i < j → B ≤ g i ∧ g i < wr.heap.size ∧ v.ownBlock ≠ some (g i) ∧ Row1 wr (g i) 0 16 (Y i) ∧ 16 ≤ c i) (hown : wr.ownsRow B 136 3 v j (llv P T g (fun _ => 16) c j))
    (hb2 : Below (wr.heap.size + 1) (wr.alloc o) w2) (hG0 : wr.heap.size + 1 ≤ G) (hG : G < w2.heap.size) (hr1 : Row1 w2 G 0 16 (Y j)) (hC1 : 16 ≤ C)
    (hown2 : w4.ownsRow B 136 3 (.slice (some ⟨g2, 0, none⟩) (j + 1) c2) (j + 1) (llv P T g (fun _ => 16) c j ++ lv3 (P j) (T j) G 16 C)) (hg2 : ((w2.setCell ⟨wr.heap.size, 2, none⟩ x).alloc o2).grownBy w4 v.ownBlock) (hat2 : v.ownBlock = some g2 ∨ g2 = w2.heap.size + 1) :
    AL B w4 (.slice (some ⟨g2, 0, none⟩) (j + 1) c2) (j + 1) P T (fun _ => 16) Y ∧ Below B wr w4 := by
  have hs1 : wr.heap.size + 1 ≤ w2.heap.size := by have := hb2.size; rw [World.size_alloc] at this; exact this
  have es : (w2.setCell ⟨wr.heap.size, 2, none⟩ x).heap.size = w2.heap.size := by simp [World.setCell]
  have blk : ∀ z, z < wr.heap.size → (w2.setCell ⟨wr.heap.size, 2, none⟩ x).heap[z]? = wr.heap[z]? := fun z hz => by
    rw [blk_setCell_other _ _ _ _ (by show z ≠ wr.heap.size; omega)]
    exact (hb2.block z (by omega)).trans (Below.heap_alloc _ _ _ hz)
  refine ⟨AL.step (w1 := w2.setCell ⟨wr.heap.size, 2, none⟩ x) hj (fun i hi => ?_) (by omega) (by rw [es]; exact hG) (fun e => by have := (hown.lt G e).2; omega) (fun i hi => by have := (hcc i hi).2.1; omega) (hr1.block (blk_setCell_other _ _ _ _ (by show G ≠ wr.heap.size; omega))) hC1 hown2 hg2 (by rw [es]; exact hat2), ?_⟩
  · obtain ⟨h1, h2, h3, h4, h5⟩ := hcc i hi
    exact ⟨h1, by rw [es]; omega, h3, h4.block (blk _ h2), h5⟩
  · have b1 : Below B wr (wr.alloc o) := (Below.refl B wr).alloc hB o
    have b2 : Below B (wr.alloc o) w2 := hb2.mono (by omega)
    have b3 : Below B w2 ((w2.setCell ⟨wr.heap.size, 2, none⟩ x).alloc o2) := ((Below.refl B w2).setCell (p := ⟨wr.heap.size, 2, none⟩) hB x).alloc (by rw [es]; omega) o2
    have b4 : Below B ((w2.setCell ⟨wr.heap.size, 2, none⟩ x).alloc o2) w4 := below_grown hg2 (by rw [World.size_alloc, es]; omega) (fun z e => (hown.lt z e).1)
    exact ((b1.trans b2).trans b3).trans b4
theorem own_set_alloc2 {wr w2 : World} {B n s : Nat} {e : TypeId} {v x : Value} {xs : List Value} {o o2 : Obj} (h : wr.ownsRow B e s v n xs) (hb : Below (wr.heap.size + 1) (wr.alloc o) w2) : ((w2.setCell ⟨wr.heap.size, 2, none⟩ x).alloc o2).ownsRow B e s v n xs := by
  refine World.ownsRow.alloc ?_ o2
  have h1 : w2.ownsRow B e s v n xs := by
    refine own_below (h.alloc o) ?_
    rw [World.size_alloc]; exact hb
  have hw : Writes wr.heap.size (wr.heap.size + 1) w2 (w2.setCell ⟨wr.heap.size, 2, none⟩ x) := Writes.setCell (Writes.refl _ _ _) (p := ⟨wr.heap.size, 2, none⟩) (Nat.le_refl _) (by show wr.heap.size < _; omega) x
  refine h1.kept (row := some wr.heap.size) ⟨hw.os, hw.tape, hw.output, hw.size, fun z hz hne => hw.block z hz (by simp at hne; omega)⟩ ?_
  cases hv : v.ownBlock with
  | none => exact .inl rfl
  | some q => exact .inr (fun e => by have := (h.lt q hv).2; simp at e; omega)
set_option maxHeartbeats 800000 in
theorem copyLoose_any (m : Nat) (P T : Nat → Int) (M : Nat → Nat) (Y : Nat → Nat → Int) (a : Option Addr) (cap : Nat) (w : World) (hm : m ≤ 60) (hM : ∀ i, i < m → M i = 16) (h : LoosesAt w a m P T M Y) :
    Calls Tryz.prog 195 #[.slice a m cap] w fun e w' => ∃ v, e = .returned v ∧ Below w.heap.size w w' ∧ AL w.heap.size w' v m P T (fun _ => 16) Y := by
  obtain ⟨i2, hi, hz0, hz1, hz2⟩ := info_parts info114
  have HK : Hid (Tryz.prog.info? 136 = some i2 ∧ i2.zero = some (.agg #[.int .i64 0, .int .i64 0, .slice none 0 0]) ∧ i2.size = 3 ∧ i2.bytes = 40) := ⟨hi, hz0, hz1, hz2⟩
  have HM : Hid (∀ i, i < m → M i = 16) := hM
  have HA : Hid (LoosesAt w a m P T M Y) := h
  clear hi hz0 hz1 hz2 hM h
  go_enter Tryz.func195, Tryz.ntmps195
  go_wp2_with fail
  go_loopw [3, 5, 8] (fun v _ i wr => ∃ j : Nat, j ≤ m ∧ i = .int .i64 j ∧ Hid (Below w.heap.size w wr) ∧ Hid (AL w.heap.size wr v j P T (fun _ => 16) Y)) (fun _ _ i _ => m - (intOf i).toNat)
  case atStart => exact ⟨0, by omega, rfl, Below.refl _ _, AL.nil _ _ _ _ _ _⟩
  case round =>
    obtain ⟨j, hj0, rfl, HB, HAL⟩ := hrel
    by_cases hlt : j < m
    · rcases HA.out.below HB.out with h | ⟨b, off, rfl, hl, hc⟩
      · omega
      obtain ⟨h0, h1, ai, ci, h2, hy, hcap⟩ := hc j hlt
      rw [HM.out j hlt] at h2 hy
      have HY : Hid (BytesAt wr ai 16 (Y j)) := hy
      obtain ⟨g, c, hown, hjj, hcc⟩ := HAL.out
      have HOW : Hid (wr.ownsRow w.heap.size 136 3 u3 j (llv P T g (fun _ => 16) c j)) := hown
      have HJ2 : Hid (∀ x y, x < j → y < j → g x = g y → x = y) := hjj
      have HCC : Hid (∀ i, i < j → w.heap.size ≤ g i ∧ g i < wr.heap.size ∧ u3.ownBlock ≠ some (g i) ∧ Row1 wr (g i) 0 16 (Y i) ∧ 16 ≤ c i) := hcc
      have hlt' : (j : Int) < (m : Int) := by omega
      clear hc hy hown hjj hcc hcap hl
      go_wp2_with fail
      refine (sectorOf_any 16 (Y j) ai ci _ (by omega) (HY.out.below (below_new _ _))).mono ?_
      rintro e w1 ⟨rfl, hb1⟩
      go_wp2_with fail
      refine (secBytes2 (Y j) w1).mono ?_
      rintro e w2 ⟨G, C, rfl, hb2, hG0, hG1, hrow, hC⟩
      have hbb : Below (wr.heap.size + 1) (wr.alloc (.cells #[.int .i64 (P j), .int .i64 (T j), .slice ai 16 ci] 136)) w2 := by
        have h := below_then hb1 hb2
        rw [World.size_alloc] at h
        exact h
      have bx := Box3.new wr (.int .i64 (P j)) (.int .i64 (T j)) (.slice ai 16 ci) 136
      have s0 : w2.cell? ⟨wr.heap.size, 0, none⟩ = some (.int .i64 (P j)) := (hbb.cell (p := ⟨wr.heap.size, 0, none⟩) (by show wr.heap.size < _; omega)).trans bx.1
      have s1 : w2.cell? ⟨wr.heap.size, 1, none⟩ = some (.int .i64 (T j)) := (hbb.cell (p := ⟨wr.heap.size, 1, none⟩) (by show wr.heap.size < _; omega)).trans bx.2.1
      have s2 : w2.cell? ⟨wr.heap.size, 2, none⟩ = some (.slice ai 16 ci) := (hbb.cell (p := ⟨wr.heap.size, 2, none⟩) (by show wr.heap.size < _; omega)).trans bx.2.2
      have s3 : w2.frozen? ⟨wr.heap.size, 2, none⟩ = false := (hbb.frozen (p := ⟨wr.heap.size, 2, none⟩) (by show wr.heap.size < _; omega)).trans (frozen_block (heap_alloc_last _ _))
      have hs1 := hb1.size
      rw [World.size_alloc] at hs1
      have HG : Hid (wr.heap.size + 1 ≤ G ∧ G < w2.heap.size ∧ Row1 w2 G 0 16 (Y j) ∧ 16 ≤ C) := ⟨by omega, hG1, hrow, hC⟩
      have HBB : Hid (Below (wr.heap.size + 1) (wr.alloc (.cells #[.int .i64 (P j), .int .i64 (T j), .slice ai 16 ci] 136)) w2) := hbb
      clear hb1 hb2 hG0 hG1 hrow hC hbb bx hs1 h0 h1 h2
      go_wp2_with (at_builtin; refine wpList_append_lies _ rfl (.tmp 17) (.tmp 19) 36 rfl w.heap.size 136 i2 (.agg #[.int .i64 0, .int .i64 0, .slice none 0 0]) 3 40 Tryz.underlying36 HK.out.1 HK.out.2.1 HK.out.2.2.1 HK.out.2.2.2 rfl (by decide) _ j (llv P T g (fun _ => 16) c j) rfl (own_set_alloc2 HOW.out HBB.out) ⟨w2.heap.size, 0, none⟩ 1 1 (lv3 (P j) (T j) G 16 C) rfl rfl ?d4 lv3_one (by decide) ?d5 ?d6 ?d7 _ rfl ?_)
      case d4 =>
        intro q u hu
        rw [Addr.add_mid]
        have e : (w2.setCell ⟨wr.heap.size, 2, none⟩ (.slice (some ⟨G, 0, none⟩) 16 C)).heap.size = w2.heap.size := by simp [World.setCell]
        have h := range_block (cs := lv3 (P j) (T j) G 16 C) (heap_alloc_last (w2.setCell ⟨wr.heap.size, 2, none⟩ (.slice (some ⟨G, 0, none⟩) 16 C)) (.cells (lv3 (P j) (T j) G 16 C).toArray 136)) q u hu
        rw [e] at h
        exact h
      case d5 => unfold maxLen; omega
      case d6 => omega
      case d7 =>
        have h1 := HBB.out.size
        have h2 := HB.out.size
        rw [World.size_alloc] at h1
        rw [World.size_alloc]
        simp [World.setCell]; omega
      intro g2 c2 w4 hown2 hg2 hat2 hlt2
      have hat3 : u3.ownBlock = some g2 ∨ g2 = w2.heap.size + 1 := by simpa [World.setCell] using hat2
      obtain ⟨hal, hbl⟩ := roundC HB.out.size HJ2.out HCC.out HOW.out HBB.out HG.out.1 HG.out.2.1 HG.out.2.2.1 HG.out.2.2.2 hown2 hg2 hat3
      have HALN : Hid (AL w.heap.size w4 (.slice (some ⟨g2, 0, none⟩) (j + 1) c2) (j + 1) P T (fun _ => 16) Y) := hal
      have HBL : Hid (Below w.heap.size wr w4) := hbl
      clear hown2 hg2 hat2 hat3 hlt2 hal hbl s0 s1 s2 s3
      go_wp2_with fail
      go_roundw
      case rel => exact ⟨j + 1, hlt, by go_num, HB.out.trans HBL.out, HALN.out⟩
      case measure => simp [intOf]; omega
    · have hkn : j = m := by omega
      have HALM : Hid (AL w.heap.size wr u3 m P T (fun _ => 16) Y) := by have h := HAL.out; rw [hkn] at h; exact h
      clear HAL hkn
      go_wp2_with fail
      go_ret
      exact ⟨_, rfl, HB.out, HALM.out⟩
theorem own_of_rowH {w : World} {l h : Nat} {v : Value} {m : Nat} {K V : Nat → Int} (ho : w.ownsRow l 126 2 v m (cbF K V m)) (hq : ∀ q, v.ownBlock = some q → q < h) (hh : h ≤ w.heap.size) : ∃ a cap, v = .slice a m cap ∧ m ≤ cap ∧ Own w l h a m K V := by
  rcases ho.2 with ⟨rfl, h0⟩ | ⟨g, cap, cur, rfl, hbg, hg, hnc, _⟩
  · exact ⟨none, 0, by rw [h0], by omega, hh, .inl h0⟩
  · refine ⟨some ⟨g, 0, none⟩, cap, rfl, by omega, hh, .inr ⟨g, 0, rfl, hbg, hq g rfl, fun i hi => ?_, fun i hi => ?_, fun i hi => ho.frozenAt _, fun i hi => ho.frozenAt _⟩⟩
    · rw [Nat.zero_add, ho.cellAt (i * 2) (by omega), cbF_get (by omega), cv_key]
    · rw [Nat.zero_add, ho.cellAt (i * 2 + 1) (by omega), cbF_get (by omega), cv_val]
theorem own_of_rowI {w : World} {l h : Nat} {v : Value} {m : Nat} {z : Nat → Int} (ho : w.ownsRow l 2 1 v m (ivs z m)) (hq : ∀ q, v.ownBlock = some q → q < h) (hh : h ≤ w.heap.size) : ∃ a cap, v = .slice a m cap ∧ m ≤ cap ∧ OwnI w l h a m z := by
  rcases ho.2 with ⟨rfl, h0⟩ | ⟨g, cap, cur, rfl, hbg, hg, hnc, _⟩
  · exact ⟨none, 0, by rw [h0], by omega, hh, .inl h0⟩
  · refine ⟨some ⟨g, 0, none⟩, cap, rfl, by omega, hh, .inr ⟨g, 0, rfl, hbg, hq g rfl, fun i hi => ?_, fun i hi => ho.frozenAt _⟩⟩
    rw [Nat.zero_add, ho.cellAt i (by omega), ivs_get hi]
theorem row_form {w : World} {l n s : Nat} {e : TypeId} {v : Value} {xs : List Value} (ho : w.ownsRow l e s v n xs) : ∃ a cap, v = .slice a n cap ∧ n ≤ cap := by
  rcases ho.2 with ⟨rfl, h0⟩ | ⟨g, cap, cur, rfl, hbg, hg, hnc, _⟩
  · exact ⟨none, 0, by rw [h0], by omega⟩
  · exact ⟨_, cap, rfl, by omega⟩
/-- Held and Open of a store as rows of their own, below h; pages, disk and log in blocks of their colours, where they are made. -/
structure Pce (t : Sto) (lo : Nat) (col : Nat → Nat) (xd xg : Bool) (k : Nat) (v s1 s2 s3 s4 hv ov : Value) (w : World) : Prop where
  hc : ∀ x, col x ≠ 0 → lo ≤ x ∧ x < w.heap.size
  ph : w.ownsRow lo 126 2 hv t.hn (cbF t.hK t.hV t.hn) ∧ ∀ q, hv.ownBlock = some q → col q = 4
  po : w.ownsRow lo 2 1 ov t.on (ivs t.oF t.on) ∧ ∀ q, ov.ownBlock = some q → col q = 5
  pp : ∃ M top, lo ≤ M ∧ M ≤ top ∧ (∀ x, M ≤ x → x < top → col x = 1) ∧ GrPg M top w v k t.pT
  pd : xd = true → ∃ a c a' c' l h, s1 = .slice a t.d.n c ∧ s2 = .slice a' t.d.m c' ∧ (∀ x, l ≤ x → x < h → col x = 2) ∧ OwnD w l h a a' t.d
  pg : xg = true → ∃ a c a' c' l h, s3 = .slice a t.g.n1 c ∧ s4 = .slice a' t.g.n2 c' ∧ (∀ x, l ≤ x → x < h → col x = 3) ∧ OwnG w l h a a' t.g
theorem GrPg.keep {base top : Nat} {w w' : World} {v : Value} {k : Nat} {T : Nat → Pg} (h : GrPg base top w v k T) (hs : w.heap.size ≤ w'.heap.size) (hk : ∀ x, base ≤ x → x < top → x < w.heap.size → w'.heap[x]? = w.heap[x]?) : GrPg base top w' v k T := by
  obtain ⟨h0, A, c, l, h, ho, hv, hj, hc⟩ := h
  refine ⟨Nat.le_trans h0 hs, A, c, l, h, ownsRow_of ho fun q hq => hk q (ho.lt q hq).1 (hv q hq) (by have := hv q hq; omega), hv, hj, fun i hi => ?_⟩
  obtain ⟨k1, k2, k3, k4⟩ := hc i hi
  refine ⟨k1, k2, k3, k4.keep hs fun x x1 x2 x3 => hk x (by omega) (by omega) x3⟩
theorem Pce.keep {t : Sto} {lo : Nat} {col : Nat → Nat} {xd xg : Bool} {k : Nat} {v s1 s2 s3 s4 hv ov : Value} {w w' : World} (H : Pce t lo col xd xg k v s1 s2 s3 s4 hv ov w) (hs : w.heap.size ≤ w'.heap.size) (hk : ∀ x, col x ≠ 0 → x < w.heap.size → w'.heap[x]? = w.heap[x]?) : Pce t lo col xd xg k v s1 s2 s3 s4 hv ov w' := by
  obtain ⟨h1, ⟨q1, q2⟩, ⟨r1, r2⟩, ⟨M, top, m1, m2, m3, m4⟩, hd, hg⟩ := H
  refine ⟨fun x hx => by have := h1 x hx; omega, ⟨ownsRow_of q1 fun q hq => hk q (by rw [q2 q hq]; omega) (q1.lt q hq).2, q2⟩, ⟨ownsRow_of r1 fun q hq => hk q (by rw [r2 q hq]; omega) (r1.lt q hq).2, r2⟩, ⟨M, top, m1, m2, m3, m4.keep hs fun x x1 x2 x3 => hk x (by rw [m3 x x1 x2]; omega) x3⟩, fun e => ?_, fun e => ?_⟩
  · obtain ⟨a, c, a', c', l, h, p1, p2, p3, p4⟩ := hd e
    exact ⟨a, c, a', c', l, h, p1, p2, p3, p4.keep hs fun x x1 x2 x3 => hk x (by rw [p3 x x1 x2]; omega) x3⟩
  · obtain ⟨a, c, a', c', l, h, p1, p2, p3, p4⟩ := hg e
    exact ⟨a, c, a', c', l, h, p1, p2, p3, p4.keep hs fun x x1 x2 x3 => hk x (by rw [p3 x x1 x2]; omega) x3⟩
/-- Other colours for blocks that had none. -/
theorem Pce.recol {t : Sto} {lo : Nat} {col col' : Nat → Nat} {xd xg : Bool} {k : Nat} {v s1 s2 s3 s4 hv ov : Value} {w : World} (H : Pce t lo col xd xg k v s1 s2 s3 s4 hv ov w) (hc : ∀ x, col' x ≠ 0 → lo ≤ x ∧ x < w.heap.size) (he : ∀ x, col x ≠ 0 → col' x = col x) : Pce t lo col' xd xg k v s1 s2 s3 s4 hv ov w := by
  obtain ⟨h1, ⟨q1, q2⟩, ⟨r1, r2⟩, ⟨M, top, m1, m2, m3, m4⟩, hd, hg⟩ := H
  have e : ∀ {j x : Nat}, j ≠ 0 → col x = j → col' x = j := fun hj hx => by rw [he _ (by omega)]; exact hx
  refine ⟨hc, ⟨q1, fun q hq => e (by omega) (q2 q hq)⟩, ⟨r1, fun q hq => e (by omega) (r2 q hq)⟩, ⟨M, top, m1, m2, fun x x1 x2 => e (by omega) (m3 x x1 x2), m4⟩, fun c => ?_, fun c => ?_⟩
  · obtain ⟨a, c, a', c', l, h, p1, p2, p3, p4⟩ := hd c
    exact ⟨a, c, a', c', l, h, p1, p2, fun x x1 x2 => e (by omega) (p3 x x1 x2), p4⟩
  · obtain ⟨a, c, a', c', l, h, p1, p2, p3, p4⟩ := hg c
    exact ⟨a, c, a', c', l, h, p1, p2, fun x x1 x2 => e (by omega) (p3 x x1 x2), p4⟩
/-- The copy in its box B. -/
structure CEi (t : Sto) (U0 wr : World) (B : Nat) (xd xg : Bool) (k : Nat) (v s1 s2 s3 s4 hv ov : Value) : Prop where
  below : Below U0.heap.size U0 wr
  hB : U0.heap.size ≤ B
  bx : BoxS wr B (.int .i64 t.nx) v s1 s2 s3 s4 hv ov
  bf : ∀ i, wr.frozen? ⟨B, i, none⟩ = false
  pc : ∃ col, col B = 0 ∧ Pce t U0.heap.size col xd xg k v s1 s2 s3 s4 hv ov wr
section
variable {t : Sto} {U0 wr wq : World} {B : Nat} {xd xg : Bool} {k : Nat} {v s1 s2 s3 s4 hv ov : Value}
theorem CEi.mono (H : CEi t U0 wr B xd xg k v s1 s2 s3 s4 hv ov) (hb : Below wr.heap.size wr wq) : CEi t U0 wq B xd xg k v s1 s2 s3 s4 hv ov := by
  obtain ⟨h1, h2, h4, h5, ⟨col, c1, c2⟩⟩ := H
  exact ⟨below_then h1 hb, h2, h4.below hb, fun i => (hb.frozen (p := ⟨B, i, none⟩) h4.lt).trans (h5 i), ⟨col, c1, c2.keep hb.size fun x _ hl => hb.block x hl⟩⟩
/-- A cell of the box that no list of the store lies in is set. -/
theorem CEi.keepB {w' : World} (H : CEi t U0 wr B xd xg k v s1 s2 s3 s4 hv ov) (hw : Writes B (B + 1) wr w') : (∃ col, col B = 0 ∧ Pce t U0.heap.size col xd xg k v s1 s2 s3 s4 hv ov w') ∧ Below U0.heap.size U0 w' := by
  obtain ⟨h1, h2, h4, h5, ⟨col, c1, c2⟩⟩ := H
  refine ⟨⟨col, c1, c2.keep hw.size fun x hx hl => hw.block x hl ?_⟩, hw.below h1 h2⟩
  have : x ≠ B := fun e => by rw [e] at hx; exact hx c1
  omega
end
theorem BoxS.set23 {w : World} {B : Nat} {c0 c1 c2 c3 c4 c5 c6 c7 : Value} (h : BoxS w B c0 c1 c2 c3 c4 c5 c6 c7) (u u' : Value) : BoxS ((w.setCell ⟨B, 2, none⟩ u).setCell ⟨B, 3, none⟩ u') B c0 c1 u u' c4 c5 c6 c7 := by
  obtain ⟨h0, h1, h2, h3, h4, h5, h6, h7⟩ := h
  exact ⟨by rw [setO (by omega), setO (by omega)]; exact h0, by rw [setO (by omega), setO (by omega)]; exact h1, by rw [setO (by omega)]; exact setS h2, setS (by rw [setO (by omega)]; exact h3), by rw [setO (by omega), setO (by omega)]; exact h4, by rw [setO (by omega), setO (by omega)]; exact h5, by rw [setO (by omega), setO (by omega)]; exact h6, by rw [setO (by omega), setO (by omega)]; exact h7⟩
theorem BoxS.set45 {w : World} {B : Nat} {c0 c1 c2 c3 c4 c5 c6 c7 : Value} (h : BoxS w B c0 c1 c2 c3 c4 c5 c6 c7) (u u' : Value) : BoxS ((w.setCell ⟨B, 4, none⟩ u).setCell ⟨B, 5, none⟩ u') B c0 c1 c2 c3 u u' c6 c7 := by
  obtain ⟨h0, h1, h2, h3, h4, h5, h6, h7⟩ := h
  exact ⟨by rw [setO (by omega), setO (by omega)]; exact h0, by rw [setO (by omega), setO (by omega)]; exact h1, by rw [setO (by omega), setO (by omega)]; exact h2, by rw [setO (by omega), setO (by omega)]; exact h3, by rw [setO (by omega)]; exact setS h4, setS (by rw [setO (by omega)]; exact h5), by rw [setO (by omega), setO (by omega)]; exact h6, by rw [setO (by omega), setO (by omega)]; exact h7⟩
/-- The disk is made and put into the box. -/
theorem CEi.disk {t : Sto} {U0 wr w1 w2 : World} {B k : Nat} {xg : Bool} {v s1 s2 s3 s4 hv ov : Value} {a a' : Option Addr} {c c' : Nat} (H : CEi t U0 wr B false xg k v s1 s2 s3 s4 hv ov) (hb : Below wr.heap.size wr w1) (hb2 : Below w1.heap.size w1 w2) (ho : OwnD w2 w1.heap.size w2.heap.size a a' t.d) :
    CEi t U0 ((w2.setCell ⟨B, 2, none⟩ (.slice a t.d.n c)).setCell ⟨B, 3, none⟩ (.slice a' t.d.m c')) B true xg k v (.slice a t.d.n c) (.slice a' t.d.m c') s3 s4 hv ov := by
  have H2 := (H.mono hb).mono hb2
  have hw : Writes B (B + 1) w2 ((w2.setCell ⟨B, 2, none⟩ (.slice a t.d.n c)).setCell ⟨B, 3, none⟩ (.slice a' t.d.m c')) := ((Writes.refl _ _ _).setCell (p := ⟨B, 2, none⟩) (Nat.le_refl _) (Nat.lt_succ_self _) _).setCell (p := ⟨B, 3, none⟩) (Nat.le_refl _) (Nat.lt_succ_self _) _
  have hBw : B < w1.heap.size := (H.mono hb).bx.lt
  have h1s := H.below.size
  have hs1 := hb.size
  have hs2 := hb2.size
  obtain ⟨⟨col, c1, c2⟩, hbl⟩ := H2.keepB hw
  have hcol : ∀ x, col x ≠ 0 → x < w1.heap.size ∨ w1.heap.size ≤ x := fun x _ => by omega
  obtain ⟨col0, d1, d2⟩ := (H.mono hb).pc
  have d3 := d2.keep hb2.size fun x _ hl => hb2.block x hl
  have d4 := d3.keep hw.size fun x hx hl => hw.block x hl (by
    have : x ≠ B := fun e => by rw [e] at hx; exact hx d1
    omega)
  have hsz : ((w2.setCell ⟨B, 2, none⟩ (.slice a t.d.n c)).setCell ⟨B, 3, none⟩ (.slice a' t.d.m c')).heap.size = w2.heap.size := by simp [World.setCell]
  have d5 := d4.recol (col' := colr col0 w1.heap.size w2.heap.size 2) (fun x hx => by
    rw [hsz]
    by_cases q : w1.heap.size ≤ x ∧ x < w2.heap.size
    · omega
    · unfold colr at hx; rw [if_neg q] at hx; have := d2.hc x hx; omega) (fun x hx => colr_old (d2.hc x hx).2)
  have ho2 : OwnD ((w2.setCell ⟨B, 2, none⟩ (.slice a t.d.n c)).setCell ⟨B, 3, none⟩ (.slice a' t.d.m c')) w1.heap.size w2.heap.size a a' t.d := ho.writes hw (by omega)
  refine ⟨hbl, H.hB, H2.bx.set23 _ _, fun i => by rw [World.frozen?_setCell, World.frozen?_setCell]; exact H2.bf i, colr col0 w1.heap.size w2.heap.size 2, by rw [colr_old hBw]; exact d1, ?_⟩
  exact ⟨d5.hc, d5.ph, d5.po, d5.pp, fun _ => ⟨a, c, a', c', w1.heap.size, w2.heap.size, rfl, rfl, fun x x1 x2 => colr_new x1 x2, ho2⟩, d5.pg⟩
/-- The log is made and put into the box. -/
theorem CEi.log {t : Sto} {U0 wr w2 : World} {B k : Nat} {xd : Bool} {v s1 s2 s3 s4 hv ov : Value} {a a' : Option Addr} {c c' : Nat} (H : CEi t U0 wr B xd false k v s1 s2 s3 s4 hv ov) (hb2 : Below wr.heap.size wr w2) (ho : OwnG w2 wr.heap.size w2.heap.size a a' t.g) :
    CEi t U0 ((w2.setCell ⟨B, 4, none⟩ (.slice a t.g.n1 c)).setCell ⟨B, 5, none⟩ (.slice a' t.g.n2 c')) B xd true k v s1 s2 (.slice a t.g.n1 c) (.slice a' t.g.n2 c') hv ov := by
  have H2 := H.mono hb2
  have hw : Writes B (B + 1) w2 ((w2.setCell ⟨B, 4, none⟩ (.slice a t.g.n1 c)).setCell ⟨B, 5, none⟩ (.slice a' t.g.n2 c')) := ((Writes.refl _ _ _).setCell (p := ⟨B, 4, none⟩) (Nat.le_refl _) (Nat.lt_succ_self _) _).setCell (p := ⟨B, 5, none⟩) (Nat.le_refl _) (Nat.lt_succ_self _) _
  have hBw : B < wr.heap.size := H.bx.lt
  have h1s := H.below.size
  have hs2 := hb2.size
  obtain ⟨-, hbl⟩ := H2.keepB hw
  obtain ⟨col0, d1, d2⟩ := H.pc
  have d3 := d2.keep hb2.size fun x _ hl => hb2.block x hl
  have d4 := d3.keep hw.size fun x hx hl => hw.block x hl (by
    have : x ≠ B := fun e => by rw [e] at hx; exact hx d1
    omega)
  have hsz : ((w2.setCell ⟨B, 4, none⟩ (.slice a t.g.n1 c)).setCell ⟨B, 5, none⟩ (.slice a' t.g.n2 c')).heap.size = w2.heap.size := by simp [World.setCell]
  have d5 := d4.recol (col' := colr col0 wr.heap.size w2.heap.size 3) (fun x hx => by
    rw [hsz]
    by_cases q : wr.heap.size ≤ x ∧ x < w2.heap.size
    · omega
    · unfold colr at hx; rw [if_neg q] at hx; have := d2.hc x hx; omega) (fun x hx => colr_old (d2.hc x hx).2)
  have ho2 : OwnG ((w2.setCell ⟨B, 4, none⟩ (.slice a t.g.n1 c)).setCell ⟨B, 5, none⟩ (.slice a' t.g.n2 c')) wr.heap.size w2.heap.size a a' t.g := ho.writes hw (by omega)
  refine ⟨hbl, H.hB, H2.bx.set45 _ _, fun i => by rw [World.frozen?_setCell, World.frozen?_setCell]; exact H2.bf i, colr col0 wr.heap.size w2.heap.size 3, by rw [colr_old hBw]; exact d1, ?_⟩
  exact ⟨d5.hc, d5.ph, d5.po, d5.pp, d5.pd, fun _ => ⟨a, c, a', c', wr.heap.size, w2.heap.size, rfl, rfl, fun x x1 x2 => colr_new x1 x2, ho2⟩⟩
/-- A page more is appended. -/
theorem CEi.app {t : Sto} {U0 wr w2 : World} {B g cap : Nat} {xd xg : Bool} {v s1 s2 s3 s4 hv ov : Value} {k M top : Nat} (H : CEi t U0 wr B xd xg k v s1 s2 s3 s4 hv ov) (col : Nat → Nat) (c1 : col B = 0) (c2 : Pce t U0.heap.size col xd xg k v s1 s2 s3 s4 hv ov wr) (hBM : B < M) (hMw : M ≤ wr.heap.size) (hM : ∀ x, M ≤ x → col x = 0 ∨ col x = 1) (m4 : GrPg M top wr v k t.pT) (hg : wr.grownBy w2 v.ownBlock) (hgr : GrPg M w2.heap.size w2 (.slice (some ⟨g, 0, none⟩) (k + 1) cap) (k + 1) (upf9 t.pT k (t.pT k))) :
    (∃ col', col' B = 0 ∧ (∀ x, M ≤ x → col' x = 0 ∨ col' x = 1) ∧ Pce t U0.heap.size col' xd xg (k + 1) (.slice (some ⟨g, 0, none⟩) (k + 1) cap) s1 s2 s3 s4 hv ov (w2.setCell ⟨B, 1, none⟩ (.slice (some ⟨g, 0, none⟩) (k + 1) cap))) ∧ CEi t U0 (w2.setCell ⟨B, 1, none⟩ (.slice (some ⟨g, 0, none⟩) (k + 1) cap)) B xd xg (k + 1) (.slice (some ⟨g, 0, none⟩) (k + 1) cap) s1 s2 s3 s4 hv ov ∧ GrPg M w2.heap.size (w2.setCell ⟨B, 1, none⟩ (.slice (some ⟨g, 0, none⟩) (k + 1) cap)) (.slice (some ⟨g, 0, none⟩) (k + 1) cap) (k + 1) t.pT ∧ w2.cell? ⟨B, 1, none⟩ = some v ∧ (∀ i, w2.frozen? ⟨B, i, none⟩ = false) := by
  obtain ⟨h1, h2, h4, h5, -⟩ := H
  have hvM : ∀ q, v.ownBlock = some q → M ≤ q := fun q hq => by
    obtain ⟨_, A, c, l, h, ho, _⟩ := m4
    exact (ho.lt q hq).1
  have hs := hg.size
  have hblk : ∀ q, q < M → q < wr.heap.size → w2.heap[q]? = wr.heap[q]? := fun q hq hl => hg.block q hl fun e => by have := hvM q e.symm; omega
  have hBl := h4.lt
  have e7 := h4.block (hblk B hBM hBl)
  have hfr : ∀ i, w2.frozen? ⟨B, i, none⟩ = false := fun i => (World.frozen?_of_block (w := wr) (a := ⟨B, i, none⟩) (hblk B hBM hBl)).trans (h5 i)
  have h1s := h1.size
  have hB : Below U0.heap.size U0 w2 := h1.grown hg (by omega) fun q hq => by have := hvM q hq; omega
  have hsz : (w2.setCell ⟨B, 1, none⟩ (.slice (some ⟨g, 0, none⟩) (k + 1) cap)).heap.size = w2.heap.size := by simp [World.setCell]
  have hw : Writes B (B + 1) w2 (w2.setCell ⟨B, 1, none⟩ (.slice (some ⟨g, 0, none⟩) (k + 1) cap)) := (Writes.refl _ _ _).setCell (p := ⟨B, 1, none⟩) (Nat.le_refl _) (Nat.lt_succ_self _) _
  have hG2 : GrPg M w2.heap.size (w2.setCell ⟨B, 1, none⟩ (.slice (some ⟨g, 0, none⟩) (k + 1) cap)) (.slice (some ⟨g, 0, none⟩) (k + 1) cap) (k + 1) t.pT := (hgr.congr (up_pT t.pT k)).writes (lo := B) (hi := B + 1) hw (.inl hBM)
  have low : ∀ x, col x ≠ 0 → col x ≠ 1 → x < M := fun x hx hy => by
    by_cases q : M ≤ x
    · rcases hM x q with e | e <;> omega
    · omega
  have kp : ∀ x, col x ≠ 0 → col x ≠ 1 → x < wr.heap.size → (w2.setCell ⟨B, 1, none⟩ (.slice (some ⟨g, 0, none⟩) (k + 1) cap)).heap[x]? = wr.heap[x]? := fun x hx hy hl => by
    have : x ≠ B := fun e => by rw [e] at hx; exact hx c1
    rw [Below.heap_setCell _ _ _ _ (by show x ≠ B; exact this)]
    exact hblk x (low x hx hy) hl
  have hP : Pce t U0.heap.size (colr col M w2.heap.size 1) xd xg (k + 1) (.slice (some ⟨g, 0, none⟩) (k + 1) cap) s1 s2 s3 s4 hv ov (w2.setCell ⟨B, 1, none⟩ (.slice (some ⟨g, 0, none⟩) (k + 1) cap)) := by
    obtain ⟨g1, ⟨q1, q2⟩, ⟨r1, r2⟩, -, hd, hgg⟩ := c2
    have nw : ∀ x, col x ≠ 0 → col x ≠ 1 → colr col M w2.heap.size 1 x = col x := fun x hx hy => colr_old (low x hx hy)
    have sz9 : wr.heap.size ≤ (w2.setCell ⟨B, 1, none⟩ (.slice (some ⟨g, 0, none⟩) (k + 1) cap)).heap.size := by rw [hsz]; omega
    refine ⟨fun x hx => ?_, ⟨ownsRow_of q1 fun q hq => kp q (by rw [q2 q hq]; omega) (by rw [q2 q hq]; omega) (q1.lt q hq).2, fun q hq => by rw [nw q (by rw [q2 q hq]; omega) (by rw [q2 q hq]; omega)]; exact q2 q hq⟩, ⟨ownsRow_of r1 fun q hq => kp q (by rw [r2 q hq]; omega) (by rw [r2 q hq]; omega) (r1.lt q hq).2, fun q hq => by rw [nw q (by rw [r2 q hq]; omega) (by rw [r2 q hq]; omega)]; exact r2 q hq⟩, ⟨M, w2.heap.size, by omega, by have := h4.lt; omega, fun x x1 x2 => colr_new x1 x2, hG2⟩, fun e => ?_, fun e => ?_⟩
    · rw [hsz]
      by_cases q : M ≤ x ∧ x < w2.heap.size
      · omega
      · unfold colr at hx; rw [if_neg q] at hx; have := g1 x hx; omega
    · obtain ⟨a, c, a', c', l, h, p1, p2, p3, p4⟩ := hd e
      exact ⟨a, c, a', c', l, h, p1, p2, fun x x1 x2 => by rw [nw x (by rw [p3 x x1 x2]; omega) (by rw [p3 x x1 x2]; omega)]; exact p3 x x1 x2, p4.keep sz9 fun x x1 x2 x3 => kp x (by rw [p3 x x1 x2]; omega) (by rw [p3 x x1 x2]; omega) x3⟩
    · obtain ⟨a, c, a', c', l, h, p1, p2, p3, p4⟩ := hgg e
      exact ⟨a, c, a', c', l, h, p1, p2, fun x x1 x2 => by rw [nw x (by rw [p3 x x1 x2]; omega) (by rw [p3 x x1 x2]; omega)]; exact p3 x x1 x2, p4.keep sz9 fun x x1 x2 x3 => kp x (by rw [p3 x x1 x2]; omega) (by rw [p3 x x1 x2]; omega) x3⟩
  have hB0 : colr col M w2.heap.size 1 B = 0 := by rw [colr_old hBM]; exact c1
  refine ⟨⟨colr col M w2.heap.size 1, hB0, fun x hx => ?_, hP⟩, ⟨hw.below hB h2, h2, e7.set1 _, fun i => by rw [World.frozen?_setCell]; exact hfr i, ⟨_, hB0, hP⟩⟩, hG2, e7.2.1, hfr⟩
  by_cases q : x < w2.heap.size
  · exact .inr (colr_new hx q)
  · left
    unfold colr
    rw [if_neg (by omega)]
    rcases hM x hx with e | e
    · exact e
    · have := c2.hc x (by omega); omega
end Go.Proofs.YtaokclhcmgbgnaaGreat
