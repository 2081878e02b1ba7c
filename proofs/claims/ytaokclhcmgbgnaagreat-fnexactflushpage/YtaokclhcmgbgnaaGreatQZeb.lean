/- impl.copyStore. -/
import Derived.Test.YtaokclhcmgbgnaaGreatQZdb
namespace Go.Proofs.YtaokclhcmgbgnaaGreat
open Go.ChangeShapes Go.WideShapes Go.ChangeAt Go.RowKit Go.Deep Go.Joins
set_option linter.unusedVariables false
set_option maxRecDepth 20000

theorem row_low {w : World} {l l' n s : Nat} {e : TypeId} {v : Value} {xs : List Value} (h : w.ownsRow l e s v n xs) (hl : l' ≤ l) : w.ownsRow l' e s v n xs :=
  ⟨h.1, h.2.imp id fun ⟨g, cap, cur, q1, q2, q3⟩ => ⟨g, cap, cur, q1, Nat.le_trans hl q2, q3⟩⟩
/-- The copy's first part under way: of each piece whether it is made. -/
structure LEi (t : Sto) (U0 : World) (a5 : Option Addr) (c5 : Nat) (a6 : Option Addr) (c6 : Nat) (col : Nat → Nat) (x4 x5 x8 x9 x11 : Bool) (v10 v11 v14 v15 v3 : Value) (w : World) : Prop where
  below : Below U0.heap.size U0 w
  hc : ∀ x, col x ≠ 0 → U0.heap.size ≤ x ∧ x < w.heap.size
  p4 : x4 = true → ∃ p, v10 = .slice (some ⟨p, 0, none⟩) 1 1 ∧ w.cell? ⟨p, 0, none⟩ = some (.slice a5 t.hn c5)
  p5 : x5 = true → w.ownsRow U0.heap.size 126 2 v11 t.hn (cbF t.hK t.hV t.hn) ∧ ∀ q, v11.ownBlock = some q → col q = 4
  p8 : x8 = true → ∃ p, v14 = .slice (some ⟨p, 0, none⟩) 1 1 ∧ w.cell? ⟨p, 0, none⟩ = some (.slice a6 t.on c6)
  p9 : x9 = true → w.ownsRow U0.heap.size 2 1 v15 t.on (ivs t.oF t.on) ∧ ∀ q, v15.ownBlock = some q → col q = 5
  p11 : x11 = true → ∃ B, v3 = .pointer (some ⟨B, 0, none⟩) ∧ col B = 0 ∧ U0.heap.size ≤ B ∧ BoxS w B (.int .i64 0) (.slice none 0 0) (.slice none 0 0) (.slice none 0 0) (.slice none 0 0) (.slice none 0 0) (.slice none 0 0) (.slice none 0 0) ∧ ∀ i, w.frozen? ⟨B, i, none⟩ = false
section
variable {t : Sto} {U0 w w' : World} {a5 a6 : Option Addr} {c5 c6 : Nat} {col : Nat → Nat} {x4 x5 x8 x9 x11 : Bool} {v10 v11 v14 v15 v3 : Value}
theorem LEi.grow (H : LEi t U0 a5 c5 a6 c6 col x4 x5 x8 x9 x11 v10 v11 v14 v15 v3 w) (hb : Below w.heap.size w w') (k : Nat) : LEi t U0 a5 c5 a6 c6 (colr col w.heap.size w'.heap.size k) x4 x5 x8 x9 x11 v10 v11 v14 v15 v3 w' := by
  obtain ⟨h1, h2, h4, h5, h8, h9, h11⟩ := H
  have hs := h1.size
  have hs2 := hb.size
  have old : ∀ x, x < w.heap.size → colr col w.heap.size w'.heap.size k x = col x := fun x hx => colr_old hx
  refine ⟨below_then h1 hb, fun x hx => ?_, fun e => ?_, fun e => ?_, fun e => ?_, fun e => ?_, fun e => ?_⟩
  · by_cases c : w.heap.size ≤ x ∧ x < w'.heap.size
    · omega
    · unfold colr at hx; rw [if_neg c] at hx; have := h2 x hx; omega
  · obtain ⟨p, q1, q2⟩ := h4 e
    exact ⟨p, q1, cell_below q2 hb⟩
  · obtain ⟨q1, q2⟩ := h5 e
    exact ⟨ownsRow_of q1 fun q hq => hb.block q (q1.lt q hq).2, fun q hq => by rw [old q (q1.lt q hq).2]; exact q2 q hq⟩
  · obtain ⟨p, q1, q2⟩ := h8 e
    exact ⟨p, q1, cell_below q2 hb⟩
  · obtain ⟨q1, q2⟩ := h9 e
    exact ⟨ownsRow_of q1 fun q hq => hb.block q (q1.lt q hq).2, fun q hq => by rw [old q (q1.lt q hq).2]; exact q2 q hq⟩
  · obtain ⟨B, q1, q2, q3, q4, q5⟩ := h11 e
    exact ⟨B, q1, by rw [old B q4.lt]; exact q2, q3, q4.below hb, fun i => (hb.frozen (p := ⟨B, i, none⟩) q4.lt).trans (q5 i)⟩
theorem LEi.s4 (H : LEi t U0 a5 c5 a6 c6 col x4 x5 x8 x9 x11 v10 v11 v14 v15 v3 w) (hb : Below w.heap.size w w') (p : Nat) (hp : w'.cell? ⟨p, 0, none⟩ = some (.slice a5 t.hn c5)) : LEi t U0 a5 c5 a6 c6 (colr col w.heap.size w'.heap.size 0) true x5 x8 x9 x11 (.slice (some ⟨p, 0, none⟩) 1 1) v11 v14 v15 v3 w' :=
  {H.grow hb 0 with p4 := fun _ => ⟨p, rfl, hp⟩}
theorem LEi.s8 (H : LEi t U0 a5 c5 a6 c6 col x4 x5 x8 x9 x11 v10 v11 v14 v15 v3 w) (hb : Below w.heap.size w w') (p : Nat) (hp : w'.cell? ⟨p, 0, none⟩ = some (.slice a6 t.on c6)) : LEi t U0 a5 c5 a6 c6 (colr col w.heap.size w'.heap.size 0) x4 x5 true x9 x11 v10 v11 (.slice (some ⟨p, 0, none⟩) 1 1) v15 v3 w' :=
  {H.grow hb 0 with p8 := fun _ => ⟨p, rfl, hp⟩}
theorem LEi.s5 (H : LEi t U0 a5 c5 a6 c6 col x4 x5 x8 x9 x11 v10 v11 v14 v15 v3 w) (hb : Below w.heap.size w w') {v : Value} (hn : w'.ownsRow w.heap.size 126 2 v t.hn (cbF t.hK t.hV t.hn)) : LEi t U0 a5 c5 a6 c6 (colr col w.heap.size w'.heap.size 4) x4 true x8 x9 x11 v10 v v14 v15 v3 w' :=
  {H.grow hb 4 with p5 := fun _ => ⟨row_low hn H.below.size, fun q hq => colr_new (hn.lt q hq).1 (hn.lt q hq).2⟩}
theorem LEi.s9 (H : LEi t U0 a5 c5 a6 c6 col x4 x5 x8 x9 x11 v10 v11 v14 v15 v3 w) (hb : Below w.heap.size w w') {v : Value} (hn : w'.ownsRow w.heap.size 2 1 v t.on (ivs t.oF t.on)) : LEi t U0 a5 c5 a6 c6 (colr col w.heap.size w'.heap.size 5) x4 x5 x8 true x11 v10 v11 v14 v v3 w' :=
  {H.grow hb 5 with p9 := fun _ => ⟨row_low hn H.below.size, fun q hq => colr_new (hn.lt q hq).1 (hn.lt q hq).2⟩}
theorem LEi.s11 (H : LEi t U0 a5 c5 a6 c6 col x4 x5 x8 x9 x11 v10 v11 v14 v15 v3 w) (ty : TypeId) : LEi t U0 a5 c5 a6 c6 (colr col w.heap.size (w.alloc (.cells #[.int .i64 0, .slice none 0 0, .slice none 0 0, .slice none 0 0, .slice none 0 0, .slice none 0 0, .slice none 0 0, .slice none 0 0] ty)).heap.size 0) x4 x5 x8 x9 true v10 v11 v14 v15 (.pointer (some ⟨w.heap.size, 0, none⟩)) (w.alloc (.cells #[.int .i64 0, .slice none 0 0, .slice none 0 0, .slice none 0 0, .slice none 0 0, .slice none 0 0, .slice none 0 0, .slice none 0 0] ty)) :=
  {H.grow (below_new _ _) 0 with p11 := fun _ => ⟨w.heap.size, rfl, colr_new (Nat.le_refl _) (by simp), H.below.size, BoxS.new _ _ _ _ _ _ _ _ _ _, fun i => by simp [go_sem]⟩}
end
/-- All of it is made, and stored. -/
theorem LEi.fin {t : Sto} {U0 w : World} {a5 a6 : Option Addr} {c5 c6 : Nat} {col : Nat → Nat} {x4 x8 : Bool} {v10 v11 v14 v15 : Value} {B : Nat} (H : LEi t U0 a5 c5 a6 c6 col x4 true x8 true true v10 v11 v14 v15 (.pointer (some ⟨B, 0, none⟩)) w) :
    CEi t U0 (st8 w B (.int .i64 t.nx) (.slice none 0 0) (.slice none 0 0) (.slice none 0 0) (.slice none 0 0) (.slice none 0 0) v11 v15) B false false 0 (.slice none 0 0) (.slice none 0 0) (.slice none 0 0) (.slice none 0 0) (.slice none 0 0) v11 v15 := by
  obtain ⟨h1, h2, -, h5, -, h9, h11⟩ := H
  obtain ⟨q1, q2⟩ := h5 rfl
  obtain ⟨r1, r2⟩ := h9 rfl
  obtain ⟨B', k1, k2, k3, k4, k5⟩ := h11 rfl
  simp only [Value.pointer.injEq, Option.some.injEq, Addr.mk.injEq, and_true] at k1
  subst k1
  have hw := st8_writes w B (.int .i64 t.nx) (.slice none 0 0) (.slice none 0 0) (.slice none 0 0) (.slice none 0 0) (.slice none 0 0) v11 v15
  have hkeep : ∀ x, col x ≠ 0 → x < w.heap.size → (st8 w B (.int .i64 t.nx) (.slice none 0 0) (.slice none 0 0) (.slice none 0 0) (.slice none 0 0) (.slice none 0 0) v11 v15).heap[x]? = w.heap[x]? := fun x hx hl => hw.block x hl (by
    have : x ≠ B := fun e => by rw [e] at hx; exact hx k2
    omega)
  refine ⟨hw.below h1 k3, k3, k4.set8, fun i => by rw [st8_frozen]; exact k5 i, col, k2, ?_⟩
  have H0 : Pce t U0.heap.size col false false 0 (.slice none 0 0) (.slice none 0 0) (.slice none 0 0) (.slice none 0 0) (.slice none 0 0) v11 v15 w := ⟨h2, ⟨q1, q2⟩, ⟨r1, r2⟩, ⟨w.heap.size, w.heap.size, h1.size, Nat.le_refl _, fun x x1 x2 => by omega, GrPg.nil _ _ _⟩, fun e => (by cases e), fun e => (by cases e)⟩
  exact H0.keep hw.size hkeep
/-- A store copied by the program: its lists in blocks of their colours, Held and Open as rows. -/
def CRes (t : Sto) (w : World) (e : Ending) (w' : World) : Prop :=
  ∃ v s1 s2 s3 s4 hv ov col, (∃ a c, s3 = .slice a t.g.n1 c ∧ t.g.n1 ≤ c) ∧ e = .returned (.agg #[.int .i64 t.nx, v, s1, s2, s3, s4, hv, ov]) ∧ Below w.heap.size w w' ∧ Pce t w.heap.size col true true t.pn v s1 s2 s3 s4 hv ov w'
/-- The copy while its pages are made; M: the size of the memory ahead of the first one. -/
structure CEl (t : Sto) (U0 wr : World) (B M k : Nat) (v hv ov : Value) : Prop where
  ci : CEi t U0 wr B false false k v (.slice none 0 0) (.slice none 0 0) (.slice none 0 0) (.slice none 0 0) hv ov
  hBM : B < M
  hMw : M ≤ wr.heap.size
  pc : ∃ col, col B = 0 ∧ (∀ x, M ≤ x → col x = 0 ∨ col x = 1) ∧ Pce t U0.heap.size col false false k v (.slice none 0 0) (.slice none 0 0) (.slice none 0 0) (.slice none 0 0) hv ov wr
  gr : GrPg M wr.heap.size wr v k t.pT
theorem CEl.first {t : Sto} {U0 u : World} {B : Nat} {hv ov : Value} (H : CEi t U0 u B false false 0 (.slice none 0 0) (.slice none 0 0) (.slice none 0 0) (.slice none 0 0) (.slice none 0 0) hv ov) : CEl t U0 u B u.heap.size 0 (.slice none 0 0) hv ov := by
  obtain ⟨col, c1, c2⟩ := H.pc
  refine ⟨H, H.bx.lt, Nat.le_refl _, ⟨col, c1, fun x hx => ?_, c2⟩, GrPg.nil _ _ _⟩
  by_cases e : col x = 0
  · exact .inl e
  · have := (c2.hc x e).2; omega
theorem CEl.mono {t : Sto} {U0 wr wq : World} {B M k : Nat} {v hv ov : Value} (H : CEl t U0 wr B M k v hv ov) (hb : Below wr.heap.size wr wq) : CEl t U0 wq B M k v hv ov := by
  obtain ⟨h1, h2, h3, ⟨col, c1, c2, c3⟩, h5⟩ := H
  exact ⟨h1.mono hb, h2, Nat.le_trans h3 hb.size, ⟨col, c1, c2, c3.keep hb.size fun x _ hl => hb.block x hl⟩, (h5.below hb).wide hb.size (Nat.le_refl _)⟩
theorem CEl.app {t : Sto} {U0 wr w2 : World} {B M k g cap : Nat} {v hv ov : Value} (H : CEl t U0 wr B M k v hv ov) (hg : wr.grownBy w2 v.ownBlock) (hgr : GrPg M w2.heap.size w2 (.slice (some ⟨g, 0, none⟩) (k + 1) cap) (k + 1) (upf9 t.pT k (t.pT k))) :
    CEl t U0 (w2.setCell ⟨B, 1, none⟩ (.slice (some ⟨g, 0, none⟩) (k + 1) cap)) B M (k + 1) (.slice (some ⟨g, 0, none⟩) (k + 1) cap) hv ov ∧ w2.cell? ⟨B, 1, none⟩ = some v ∧ (∀ i, w2.frozen? ⟨B, i, none⟩ = false) := by
  obtain ⟨h1, h2, h3, ⟨col, c1, c2, c3⟩, h5⟩ := H
  obtain ⟨q1, q2, q3, q4, q5⟩ := h1.app col c1 c3 h2 h3 c2 h5 hg hgr
  have e : (w2.setCell ⟨B, 1, none⟩ (.slice (some ⟨g, 0, none⟩) (k + 1) cap)).heap.size = w2.heap.size := by simp [World.setCell]
  obtain ⟨col', d1, d2, d3⟩ := q1
  exact ⟨⟨q2, h2, by rw [e]; exact Nat.le_trans h3 hg.size, ⟨col', d1, d2, d3⟩, by rw [e]; exact q3⟩, q4, q5⟩
/-- The log's copy under way. -/
structure LGi (t : Sto) (U0 : World) (a3 : Option Addr) (c3 : Nat) (a4 : Option Addr) (c4 : Nat) (x3 x4 x8 x9 : Bool) (v50 v51 v55 v56 : Value) (w : World) : Prop where
  below : Below U0.heap.size U0 w
  p94 : x9 = true → x4 = true
  p3 : x3 = true → ∃ p, v50 = .slice (some ⟨p, 0, none⟩) 1 1 ∧ w.cell? ⟨p, 0, none⟩ = some (.slice a3 t.g.n1 c3)
  p4 : x4 = true → ∃ a c l h, v51 = .slice a t.g.n1 c ∧ U0.heap.size ≤ l ∧ OwnB w l h a t.g.n1 t.g.z1 ∧ t.g.n1 ≤ c
  p8 : x8 = true → ∃ p, v55 = .slice (some ⟨p, 0, none⟩) 1 1 ∧ w.cell? ⟨p, 0, none⟩ = some (.slice a4 t.g.n2 c4)
  p9 : x9 = true → ∃ a c l h a' c' l' h', v51 = .slice a t.g.n1 c ∧ v56 = .slice a' t.g.n2 c' ∧ U0.heap.size ≤ l ∧ U0.heap.size ≤ l' ∧ h ≤ l' ∧ OwnB w l h a t.g.n1 t.g.z1 ∧ OwnB w l' h' a' t.g.n2 t.g.z2 ∧ t.g.n1 ≤ c
section
variable {t : Sto} {U0 w w' : World} {a3 a4 : Option Addr} {c3 c4 : Nat} {x3 x4 x8 x9 : Bool} {v50 v51 v55 v56 : Value}
theorem LGi.grow (H : LGi t U0 a3 c3 a4 c4 x3 x4 x8 x9 v50 v51 v55 v56 w) (hb : Below w.heap.size w w') : LGi t U0 a3 c3 a4 c4 x3 x4 x8 x9 v50 v51 v55 v56 w' := by
  obtain ⟨h1, h2, h3, h4, h8, h9⟩ := H
  refine ⟨below_then h1 hb, h2, fun e => ?_, fun e => ?_, fun e => ?_, fun e => ?_⟩
  · obtain ⟨p, q1, q2⟩ := h3 e
    exact ⟨p, q1, cell_below q2 hb⟩
  · obtain ⟨a, c, l, h, q1, q2, q3, q4⟩ := h4 e
    exact ⟨a, c, l, h, q1, q2, q3.below hb, q4⟩
  · obtain ⟨p, q1, q2⟩ := h8 e
    exact ⟨p, q1, cell_below q2 hb⟩
  · obtain ⟨a, c, l, h, a', c', l', h', q1, q2, q3, q4, q5, q6, q7, q8⟩ := h9 e
    exact ⟨a, c, l, h, a', c', l', h', q1, q2, q3, q4, q5, q6.below hb, q7.below hb, q8⟩
theorem LGi.s3 (H : LGi t U0 a3 c3 a4 c4 x3 x4 x8 x9 v50 v51 v55 v56 w) (hb : Below w.heap.size w w') (p : Nat) (hp : w'.cell? ⟨p, 0, none⟩ = some (.slice a3 t.g.n1 c3)) : LGi t U0 a3 c3 a4 c4 true x4 x8 x9 (.slice (some ⟨p, 0, none⟩) 1 1) v51 v55 v56 w' :=
  {H.grow hb with p3 := fun _ => ⟨p, rfl, hp⟩}
theorem LGi.s8 (H : LGi t U0 a3 c3 a4 c4 x3 x4 x8 x9 v50 v51 v55 v56 w) (hb : Below w.heap.size w w') (p : Nat) (hp : w'.cell? ⟨p, 0, none⟩ = some (.slice a4 t.g.n2 c4)) : LGi t U0 a3 c3 a4 c4 x3 x4 true x9 v50 v51 (.slice (some ⟨p, 0, none⟩) 1 1) v56 w' :=
  {H.grow hb with p8 := fun _ => ⟨p, rfl, hp⟩}
theorem LGi.s4 (H : LGi t U0 a3 c3 a4 c4 x3 x4 x8 x9 v50 v51 v55 v56 w) (hx : x9 = false) (hb : Below w.heap.size w w') {v : Value} (hn : NewB w w' v t.g.n1 t.g.z1) : LGi t U0 a3 c3 a4 c4 x3 true x8 x9 v50 v v55 v56 w' := by
  obtain ⟨a, c, rfl, hcp, ho⟩ := hn
  obtain ⟨h1, h2, h3, h4, h8, h9⟩ := H.grow hb
  subst hx
  exact ⟨h1, fun _ => rfl, h3, fun _ => ⟨a, c, _, _, rfl, H.below.size, ho, hcp⟩, h8, fun e => (by cases e)⟩
theorem LGi.s9 (H : LGi t U0 a3 c3 a4 c4 x3 x4 x8 x9 v50 v51 v55 v56 w) (hx : x4 = true) (hb : Below w.heap.size w w') {v : Value} (hn : NewB w w' v t.g.n2 t.g.z2) : LGi t U0 a3 c3 a4 c4 x3 x4 x8 true v50 v51 v55 v w' := by
  obtain ⟨a', c', rfl, -, ho⟩ := hn
  obtain ⟨a, c, l, h, q1, q2, q3, q4⟩ := H.p4 hx
  obtain ⟨h1, h2, h3, h4, h8, h9⟩ := H.grow hb
  exact ⟨h1, fun _ => hx, h3, h4, h8, fun _ => ⟨a, c, l, h, a', c', _, _, q1, rfl, q2, H.below.size, q3.1, q3.below hb, ho, q4⟩⟩
end
theorem Pce.low {t : Sto} {lo lo' : Nat} {col : Nat → Nat} {xd xg : Bool} {k : Nat} {v s1 s2 s3 s4 hv ov : Value} {w : World} (H : Pce t lo col xd xg k v s1 s2 s3 s4 hv ov w) (hl : lo' ≤ lo) : Pce t lo' col xd xg k v s1 s2 s3 s4 hv ov w := by
  obtain ⟨h1, ⟨q1, q2⟩, ⟨r1, r2⟩, ⟨M, top, m1, m2, m3, m4⟩, hd, hg⟩ := H
  exact ⟨fun x hx => by have := h1 x hx; omega, ⟨row_low q1 hl, q2⟩, ⟨row_low r1 hl, r2⟩, ⟨M, top, by omega, m2, m3, m4⟩, hd, hg⟩
/-- The copy is loaded and stored into the answer. -/
theorem CEi.fin {t : Sto} {w U0 wr w7 : World} {B : Nat} {v s1 s2 s3 s4 hv ov : Value} (H : CEi t U0 wr B true true t.pn v s1 s2 s3 s4 hv ov) (hcp : ∃ a c, s3 = .slice a t.g.n1 c ∧ t.g.n1 ≤ c) (h0 : Below w.heap.size w U0) (lo hi : Nat) (hlo : w.heap.size ≤ lo) (hhi : hi ≤ U0.heap.size) (hw : Writes lo hi wr w7) :
    CRes t w (.returned (.agg #[.int .i64 t.nx, v, s1, s2, s3, s4, hv, ov])) w7 := by
  obtain ⟨col, c1, c2⟩ := H.pc
  have hwU := h0.size
  exact ⟨v, s1, s2, s3, s4, hv, ov, col, hcp, rfl, hw.below (below_then h0 H.below) hlo, (c2.keep hw.size fun x hx hl => hw.block x hl (by have := c2.hc x hx; omega)).low hwU⟩
set_option maxHeartbeats 16000000 in
theorem copyStore_any (t : Sto) (a0 : Option Addr) (c0 : Nat) (a1 : Option Addr) (c1 : Nat) (a2 : Option Addr) (c2 : Nat) (a3 : Option Addr) (c3 : Nat) (a4 : Option Addr) (c4 : Nat) (a5 : Option Addr) (c5 : Nat) (a6 : Option Addr) (c6 : Nat) (w : World) (hS : SmSt t) (hG : GoodSt t) (h : InSt w a0 a1 a2 a3 a4 a5 a6 t) :
    Calls Tryz.prog 156 #[.agg #[.int .i64 t.nx, .slice a0 t.pn c0, .slice a1 t.d.n c1, .slice a2 t.d.m c2, .slice a3 t.g.n1 c3, .slice a4 t.g.n2 c4, .slice a5 t.hn c5, .slice a6 t.on c6]] w (CRes t w) := by
  have HA : Hid (InSt w a0 a1 a2 a3 a4 a5 a6 t) := h
  have HD : Hid (GoodD t.d) := goodD_of hG.df
  have HLG : Hid (t.g.n1 + t.g.n2 ≤ 90000) := by have := (lgC_zero hG.lg).1; show _ ≤ _; omega
  have HON : Hid (t.on ≤ 90000) := by have := onF_few hG.nx.2 hG.on; show _ ≤ _; omega
  have HHN : Hid (t.hn ≤ 90000) := by have := hdF_few hG.hd; show _ ≤ _; omega
  have hb0 : ∀ o1 o2, Below w.heap.size w ((w.alloc o1).alloc o2) := fun o1 o2 => (((Below.refl _ _).alloc (Nat.le_refl _) _).alloc (by simp) _)
  have HS : Hid (SmSt t) := hS
  clear h hS
  go_enter Tryz.func156, Tryz.ntmps156
  go_upto_region 1 with fail
  obtain ⟨W, hW⟩ : ∃ x, x = (w.alloc (.cells #[.int .i64 t.nx, .slice a0 t.pn c0, .slice a1 t.d.n c1, .slice a2 t.d.m c2, .slice a3 t.g.n1 c3, .slice a4 t.g.n2 c4, .slice a5 t.hn c5, .slice a6 t.on c6] 42)).alloc (.cells #[.int .i64 0, .slice none 0 0, .slice none 0 0, .slice none 0 0, .slice none 0 0, .slice none 0 0, .slice none 0 0, .slice none 0 0] 42) := ⟨_, rfl⟩
  have HB : Hid (Below w.heap.size w W) := by rw [hW]; exact hb0 _ _
  have HSW : Hid (W.heap.size = w.heap.size + 2) := by rw [hW]; show _ = _; simp
  have BX : BoxS W w.heap.size (.int .i64 t.nx) (.slice a0 t.pn c0) (.slice a1 t.d.n c1) (.slice a2 t.d.m c2) (.slice a3 t.g.n1 c3) (.slice a4 t.g.n2 c4) (.slice a5 t.hn c5) (.slice a6 t.on c6) := by rw [hW]; exact (BoxS.new _ _ _ _ _ _ _ _ _ _).alloc _
  have HR : Hid (BoxS W (w.heap.size + 1) (.int .i64 0) (.slice none 0 0) (.slice none 0 0) (.slice none 0 0) (.slice none 0 0) (.slice none 0 0) (.slice none 0 0) (.slice none 0 0) ∧ ∀ i, W.frozen? ⟨w.heap.size + 1, i, none⟩ = false) := by
    rw [hW]
    refine ⟨?_, fun i => by simp [go_sem]⟩
    have := BoxS.new (w.alloc (.cells #[.int .i64 t.nx, .slice a0 t.pn c0, .slice a1 t.d.n c1, .slice a2 t.d.m c2, .slice a3 t.g.n1 c3, .slice a4 t.g.n2 c4, .slice a5 t.hn c5, .slice a6 t.on c6] 42)) (.int .i64 0) (.slice none 0 0) (.slice none 0 0) (.slice none 0 0) (.slice none 0 0) (.slice none 0 0) (.slice none 0 0) (.slice none 0 0) 42
    rw [World.size_alloc] at this
    exact this
  have HI : Hid (InSt W a0 a1 a2 a3 a4 a5 a6 t) := by rw [hW]; exact HA.out.below (hb0 _ _)
  rw [← hW]
  clear hW hb0 HA
  refine wp_region_E 12 (S := fun u => BoxS u w.heap.size (.int .i64 t.nx) (.slice a0 t.pn c0) (.slice a1 t.d.n c1) (.slice a2 t.d.m c2) (.slice a3 t.g.n1 c3) (.slice a4 t.g.n2 c4) (.slice a5 t.hn c5) (.slice a6 t.on c6)) (by kernel_rfl) (BX.below ((Below.refl _ _).drew)) (fun hS => ?_)
  obtain ⟨u0, hu0⟩ : ∃ y, y = W.drew := ⟨_, rfl⟩
  have hbu : Below W.heap.size W u0 := by rw [hu0]; exact (Below.refl _ _).drew
  rw [← hu0] at hS ⊢
  clear hu0 BX
  have HSU : Hid (w.heap.size + 2 ≤ u0.heap.size) := by have := hbu.size; have := HSW.out; show _ ≤ _; omega
  replace HB : Hid (Below w.heap.size w u0) := below_then HB.out hbu
  replace HI : Hid (InSt u0 a0 a1 a2 a3 a4 a5 a6 t) := HI.out.below hbu
  replace HR : Hid (BoxS u0 (w.heap.size + 1) (.int .i64 0) (.slice none 0 0) (.slice none 0 0) (.slice none 0 0) (.slice none 0 0) (.slice none 0 0) (.slice none 0 0) (.slice none 0 0) ∧ ∀ i, u0.frozen? ⟨w.heap.size + 1, i, none⟩ = false) := ⟨HR.out.1.below hbu, fun i => (hbu.frozen (p := ⟨_, i, none⟩) HR.out.1.lt).trans (HR.out.2 i)⟩
  clear hbu HSW
  refine wpAnyE_takeD (L := 12) (i := 0) (v := .pointer (some ⟨w.heap.size, 0, none⟩)) (some 6) rfl rfl (by kernel_rfl) (by kernel_rfl) (by kernel_rfl) (by kernel_rfl) (fun _ _ _ h => h) (Or.inl ⟨by kernel_rfl, by intro u hSu; go_simp⟩) hS ?_
  try simp only [Act.put, List.setIfInBounds_toArray, List.set_cons_zero, List.set_cons_succ]
  refine wpAnyE_takeD (L := 12) (i := 1) (v := .int .i64 t.nx) (some 7) rfl rfl (by kernel_rfl) (by kernel_rfl) (by kernel_rfl) (by kernel_rfl) (fun _ _ _ h => h) (Or.inl ⟨by kernel_rfl, by intro u hSu; obtain ⟨h0, h1, h2, h3, h4, h5, h6, h7⟩ := hSu; go_simp⟩) hS ?_
  try simp only [Act.put, List.setIfInBounds_toArray, List.set_cons_zero, List.set_cons_succ]
  refine wpAnyE_takeD (L := 12) (i := 2) (v := .pointer (some ⟨w.heap.size, 6, none⟩)) (some 8) rfl rfl (by kernel_rfl) (by kernel_rfl) (by kernel_rfl) (by kernel_rfl) (fun _ _ _ h => h) (Or.inl ⟨by kernel_rfl, by intro u hSu; go_simp⟩) hS ?_
  try simp only [Act.put, List.setIfInBounds_toArray, List.set_cons_zero, List.set_cons_succ]
  refine wpAnyE_takeD (L := 12) (i := 3) (v := .slice a5 t.hn c5) (some 9) rfl rfl (by kernel_rfl) (by kernel_rfl) (by kernel_rfl) (by kernel_rfl) (fun _ _ _ h => h) (Or.inl ⟨by kernel_rfl, by intro u hSu; obtain ⟨h0, h1, h2, h3, h4, h5, h6, h7⟩ := hSu; go_simp⟩) hS ?_
  try simp only [Act.put, List.setIfInBounds_toArray, List.set_cons_zero, List.set_cons_succ]
  refine wpAnyE_takeD (L := 12) (i := 6) (v := .pointer (some ⟨w.heap.size, 7, none⟩)) (some 12) rfl rfl (by kernel_rfl) (by kernel_rfl) (by kernel_rfl) (by kernel_rfl) (fun _ _ _ h => h) (Or.inl ⟨by kernel_rfl, by intro u hSu; go_simp⟩) hS ?_
  try simp only [Act.put, List.setIfInBounds_toArray, List.set_cons_zero, List.set_cons_succ]
  refine wpAnyE_takeD (L := 12) (i := 7) (v := .slice a6 t.on c6) (some 13) rfl rfl (by kernel_rfl) (by kernel_rfl) (by kernel_rfl) (by kernel_rfl) (fun _ _ _ h => h) (Or.inl ⟨by kernel_rfl, by intro u hSu; obtain ⟨h0, h1, h2, h3, h4, h5, h6, h7⟩ := hSu; go_simp⟩) hS ?_
  try simp only [Act.put, List.setIfInBounds_toArray, List.set_cons_zero, List.set_cons_succ]
  have HX0 : Hid (BoxS u0 w.heap.size (.int .i64 t.nx) (.slice a0 t.pn c0) (.slice a1 t.d.n c1) (.slice a2 t.d.m c2) (.slice a3 t.g.n1 c3) (.slice a4 t.g.n2 c4) (.slice a5 t.hn c5) (.slice a6 t.on c6)) := hS
  refine wpAnyE_inv (fun l a u => ∃ x4 x5 x8 x9 x10 x11 x12 : Bool, ∃ v10 v11 v14 v15 v16 v3 : Value, ∃ col : Nat → Nat, l = #[true, true, true, true, x4, x5, true, true, x8, x9, x10, x11, x12] ∧ a = { tmps := #[.agg #[.int .i64 t.nx, .slice a0 t.pn c0, .slice a1 t.d.n c1, .slice a2 t.d.m c2, .slice a3 t.g.n1 c3, .slice a4 t.g.n2 c4, .slice a5 t.hn c5, .slice a6 t.on c6], .pointer (some ⟨w.heap.size, 0, none⟩), .pointer (some ⟨w.heap.size + 1, 0, none⟩), v3, undef, undef, .pointer (some ⟨w.heap.size, 0, none⟩), .int .i64 t.nx, .pointer (some ⟨w.heap.size, 6, none⟩), .slice a5 t.hn c5, v10, v11, .pointer (some ⟨w.heap.size, 7, none⟩), .slice a6 t.on c6, v14, v15, v16, undef, undef, undef, undef, undef, undef, undef, undef, undef, undef, undef, undef, undef, undef, undef, undef, undef, undef, undef, undef, undef, undef, undef, undef, undef, undef, undef, undef, undef, undef, undef, undef, undef, undef, undef, undef, undef, undef, undef, undef, undef, undef, undef], defers := [] } ∧ BoxS u w.heap.size (.int .i64 t.nx) (.slice a0 t.pn c0) (.slice a1 t.d.n c1) (.slice a2 t.d.m c2) (.slice a3 t.g.n1 c3) (.slice a4 t.g.n2 c4) (.slice a5 t.hn c5) (.slice a6 t.on c6) ∧ ((x12 = false ∧ LEi t u0 a5 c5 a6 c6 col x4 x5 x8 x9 x11 v10 v11 v14 v15 v3 u ∧ (x10 = true → x5 = true ∧ x9 = true ∧ v16 = .agg #[.int .i64 t.nx, .slice none 0 0, .slice none 0 0, .slice none 0 0, .slice none 0 0, .slice none 0 0, v11, v15])) ∨ (x12 = true ∧ x4 = true ∧ x5 = true ∧ x8 = true ∧ x9 = true ∧ x10 = true ∧ x11 = true ∧ (∃ Bo, v3 = .pointer (some ⟨Bo, 0, none⟩) ∧ CEi t u0 u Bo false false 0 (.slice none 0 0) (.slice none 0 0) (.slice none 0 0) (.slice none 0 0) (.slice none 0 0) v11 v15)))) (fun l a u hI => ?_) (fun l a u i o hI ho hun hall => ?_) (fun l a u hI hrd => ?_) (fun l a u hI hcn => ?_) _ _ _ _ ?_ ?_
  · obtain ⟨x4, x5, x8, x9, x10, x11, x12, v10, v11, v14, v15, v16, v3, col, rfl, rfl, hx, -⟩ := hI
    exact hx
  · obtain ⟨x4, x5, x8, x9, x10, x11, x12, v10, v11, v14, v15, v16, v3, col, rfl, rfl, hx, hI⟩ := hI
    rcases hI with ⟨rfl, hL, h16⟩ | ⟨rfl, rfl, rfl, rfl, rfl, rfl, rfl, hF⟩
    case inr => rcases i with _ | _ | _ | _ | _ | _ | _ | _ | _ | _ | _ | _ | _ | i <;> first | (have h0 : true = false := hun; cases h0) | (have h0 : none = some o := ho; cases h0)
    rcases i with _ | _ | _ | _ | _ | _ | _ | _ | _ | _ | _ | _ | _ | i
    · have h0 : true = false := hun
      cases h0
    · have h0 : true = false := hun
      cases h0
    · have h0 : true = false := hun
      cases h0
    · have h0 : true = false := hun
      cases h0
    · have h0 : x4 = false := hun
      subst h0
      refine wpOp_step rfl (fun K9 hK => ?_)
      refine step_bsSHl u (some 10) rfl rfl (.tmp 9) rfl a5 t.hn c5 rfl (fun p u1 hp hb => ?_)
      exact hK _ _ ⟨true, x5, x8, x9, x10, x11, false, .slice (some ⟨p, 0, none⟩) 1 1, v11, v14, v15, v16, v3, _, rfl, rfl, hx.below hb, .inl ⟨rfl, hL.s4 hb p hp, h16⟩⟩
    · have h0 : x5 = false := hun
      subst h0
      obtain rfl := Option.some.inj (ho.symm.trans rfl)
      have d4 : x4 = true := hall ⟨4, .data⟩ (by simp) rfl
      subst d4
      obtain ⟨p, rfl, hp⟩ := hL.p4 rfl
      refine wpOp_step rfl (fun K9 hK => ?_)
      go_simp
      refine (joinedRHl_any t.hn t.hK t.hV a5 c5 p u HHN.out hp (HI.out.2.2.2.1.below hL.below)).mono ?_
      rintro e u1 ⟨v, rfl, hb, hn⟩
      exact hK _ _ ⟨true, true, x8, x9, x10, x11, false, .slice (some ⟨p, 0, none⟩) 1 1, v, v14, v15, v16, v3, _, rfl, rfl, hx.below hb, .inl ⟨rfl, hL.s5 hb hn, fun e => absurd (h16 e).1 (by simp)⟩⟩
    · have h0 : true = false := hun
      cases h0
    · have h0 : true = false := hun
      cases h0
    · have h0 : x8 = false := hun
      subst h0
      refine wpOp_step rfl (fun K9 hK => ?_)
      refine step_bsSIl u (some 14) rfl rfl (.tmp 13) rfl a6 t.on c6 rfl (fun p u1 hp hb => ?_)
      exact hK _ _ ⟨x4, x5, true, x9, x10, x11, false, v10, v11, .slice (some ⟨p, 0, none⟩) 1 1, v15, v16, v3, _, rfl, rfl, hx.below hb, .inl ⟨rfl, hL.s8 hb p hp, h16⟩⟩
    · have h0 : x9 = false := hun
      subst h0
      obtain rfl := Option.some.inj (ho.symm.trans rfl)
      have d8 : x8 = true := hall ⟨8, .data⟩ (by simp) rfl
      subst d8
      obtain ⟨p, rfl, hp⟩ := hL.p8 rfl
      refine wpOp_step rfl (fun K9 hK => ?_)
      go_simp
      refine (joinedRIl_any t.on t.oF a6 c6 p u HON.out hp (HI.out.2.2.2.2.below hL.below)).mono ?_
      rintro e u1 ⟨v, rfl, hb, hn⟩
      exact hK _ _ ⟨x4, x5, true, true, x10, x11, false, v10, v11, .slice (some ⟨p, 0, none⟩) 1 1, v, v16, v3, _, rfl, rfl, hx.below hb, .inl ⟨rfl, hL.s9 hb hn, fun e => absurd (h16 e).2.1 (by simp)⟩⟩
    · have h0 : x10 = false := hun
      subst h0
      obtain rfl := Option.some.inj (ho.symm.trans rfl)
      have d5 : x5 = true := hall ⟨5, .data⟩ (by simp) rfl
      subst d5
      have d9 : x9 = true := hall ⟨9, .data⟩ (by simp) rfl
      subst d9
      obtain ⟨b5, e5, rfl, -⟩ := row_form (hL.p5 rfl).1
      obtain ⟨b6, e6, rfl, -⟩ := row_form (hL.p9 rfl).1
      refine wpOp_step rfl (fun K9 hK => ?_)
      go_simp
      exact hK _ _ ⟨x4, true, x8, true, true, x11, false, v10, _, v14, _, _, v3, _, rfl, rfl, hx, .inl ⟨rfl, hL, fun _ => ⟨rfl, rfl, rfl⟩⟩⟩
    · have h0 : x11 = false := hun
      subst h0
      refine wpOp_step rfl (fun K9 hK => ?_)
      go_simp
      exact hK _ _ ⟨x4, x5, x8, x9, x10, true, false, v10, v11, v14, v15, v16, _, _, rfl, rfl, hx.alloc _, .inl ⟨rfl, hL.s11 _, h16⟩⟩
    · obtain rfl := Option.some.inj (ho.symm.trans rfl)
      have d10 : x10 = true := hall ⟨10, .data⟩ (by simp) rfl
      have d11 : x11 = true := hall ⟨11, .data⟩ (by simp) rfl
      have d4 : x4 = true := hall ⟨4, .phase⟩ (by simp) rfl
      have d8 : x8 = true := hall ⟨8, .phase⟩ (by simp) rfl
      obtain ⟨e5, e9, rfl⟩ := h16 d10
      subst d10 d11 d4 d8 e5 e9
      obtain ⟨B, rfl, k2, k3, k4, k5⟩ := hL.p11 rfl
      obtain ⟨b5, e5, rfl, -⟩ := row_form (hL.p5 rfl).1
      obtain ⟨b6, e6, rfl, -⟩ := row_form (hL.p9 rfl).1
      have HF9 : Hid (CEi t u0 (st8 u B (.int .i64 t.nx) (.slice none 0 0) (.slice none 0 0) (.slice none 0 0) (.slice none 0 0) (.slice none 0 0) (.slice b5 t.hn e5) (.slice b6 t.on e6)) B false false 0 (.slice none 0 0) (.slice none 0 0) (.slice none 0 0) (.slice none 0 0) (.slice none 0 0) (.slice b5 t.hn e5) (.slice b6 t.on e6)) := hL.fin
      have HX9 : Hid (BoxS (st8 u B (.int .i64 t.nx) (.slice none 0 0) (.slice none 0 0) (.slice none 0 0) (.slice none 0 0) (.slice none 0 0) (.slice b5 t.hn e5) (.slice b6 t.on e6)) w.heap.size (.int .i64 t.nx) (.slice a0 t.pn c0) (.slice a1 t.d.n c1) (.slice a2 t.d.m c2) (.slice a3 t.g.n1 c3) (.slice a4 t.g.n2 c4) (.slice a5 t.hn c5) (.slice a6 t.on c6)) := hx.writes (st8_writes u B (.int .i64 t.nx) (.slice none 0 0) (.slice none 0 0) (.slice none 0 0) (.slice none 0 0) (.slice none 0 0) (.slice b5 t.hn e5) (.slice b6 t.on e6)) (.inl (by have := HSU.out; omega))
      obtain ⟨z0, z1, z2, z3, z4, z5, z6, z7⟩ := k4
      clear hx hL h16 hall
      refine wpOp_step rfl (fun K9 hK => ?_)
      go_simp
      exact hK _ _ ⟨true, true, true, true, true, true, true, v10, _, v14, _, _, _, fun _ => 0, rfl, rfl, HX9.out, .inr ⟨rfl, rfl, rfl, rfl, rfl, rfl, rfl, B, rfl, HF9.out⟩⟩
    · have h0 : none = some o := ho
      cases h0
  · obtain ⟨x4, x5, x8, x9, x10, x11, x12, v10, v11, v14, v15, v16, v3, col, rfl, rfl, hx, hI⟩ := hI
    rcases hI with ⟨rfl, hL, h16⟩ | ⟨rfl, rfl, rfl, rfl, rfl, rfl, rfl, hF⟩
    case inl =>
      cases x4
      · exact absurd hrd (ready_mem (i := 4) rfl rfl (by intro e he _; simp at he; subst he; rfl))
      cases x5
      · exact absurd hrd (ready_mem (i := 5) rfl rfl (by intro e he _; simp at he; subst he; rfl))
      cases x8
      · exact absurd hrd (ready_mem (i := 8) rfl rfl (by intro e he _; simp at he; subst he; rfl))
      cases x9
      · exact absurd hrd (ready_mem (i := 9) rfl rfl (by intro e he _; simp at he; rcases he with rfl | rfl <;> rfl))
      cases x11
      · exact absurd hrd (ready_mem (i := 11) rfl rfl (by intro e he _; simp at he))
      cases x10
      · exact absurd hrd (ready_mem (i := 10) rfl rfl (by intro e he _; simp at he; rcases he with rfl | rfl | rfl <;> rfl))
      exact absurd hrd (ready_mem (i := 12) rfl rfl (by intro e he _; simp at he; rcases he with rfl | rfl | rfl | rfl | rfl | rfl | rfl | rfl | rfl | rfl | rfl | rfl | rfl | rfl | rfl <;> rfl))
    obtain ⟨B, rfl, hF⟩ := hF
    have HC0 : Hid (CEl t u0 u B u.heap.size 0 (.slice none 0 0) v11 v15) := CEl.first hF
    have hx1 := hx.2.1
    have hwu : w.heap.size + 2 ≤ u0.heap.size := HSU.out
    clear hF hrd hx
    go_simp
    go_wp2_with fail
    go_loopw [5, 20] (fun _ i wr => ∃ (k : Nat) (v : Value), k ≤ t.pn ∧ i = .int .i64 k ∧ Hid (CEl t u0 wr B u.heap.size k v v11 v15)) (fun _ i _ => t.pn - (intOf i).toNat)
    case atStart => exact ⟨0, _, Nat.zero_le _, rfl, HC0⟩
    case round =>
      clear HC0 hx1
      obtain ⟨k, v, hk, rfl, HC⟩ := hrel
      by_cases hlt : k < t.pn
      · have hlt' : (k : Int) < (t.pn : Int) := by omega
        have hk0 : (0 : Int) ≤ (k : Int) := by omega
        rcases (HI.out.1.below HC.out.ci.below) with q | ⟨b, off, rfl, hl, hcc⟩
        · omega
        obtain ⟨pa, pc, ⟨q0, q1, q2⟩, ⟨hI2, -⟩, -⟩ := hcc k hlt
        have HIC : Hid (CellsAt wr pa (t.pT k).cn (t.pT k).cK (t.pT k).cV) := hI2
        have HCN : Hid ((t.pT k).cn ≤ 90000) := by
          have e := (hG.pg k (by have := hG.pn; omega)).1
          have := (good_of e).gn
          show _ ≤ _; omega
        have hbB : B < wr.heap.size := HC.out.ci.bx.lt
        have hk5 : k ≤ 100000 := by have := hG.pn; omega
        clear hcc hI2
        have HIC2 : Hid (∀ o1 o2, CellsAt ((wr.alloc o1).alloc o2) pa (t.pT k).cn (t.pT k).cK (t.pT k).cV) := fun o1 o2 => (HIC.out.below (below_new _ _)).below (below_new _ _)
        have hb2 : ∀ o1 o2, Below wr.heap.size wr ((wr.alloc o1).alloc o2) := fun o1 o2 => (((Below.refl _ _).alloc (Nat.le_refl _) _).alloc (by simp) _)
        clear HIC
        go_wp2_with (go_at_call 192; refine (joined1C_any (t.pT k).cn (t.pT k).cK (t.pT k).cV pa pc (wr.heap.size + 1) _ HCN.out (by simp [go_sem]) (HIC2.out _ _)).mono ?_)
        rintro e w1 ⟨v1, rfl, hb1, hN⟩
        obtain ⟨na, nc, rfl, hnc, hno⟩ := hN
        obtain ⟨Y, hY⟩ : ∃ x, x = (wr.alloc (.cells #[.int .i64 (t.pT k).id, .int .i64 (t.pT k).lsn, .slice pa (t.pT k).cn pc] 66)).alloc (.cells #[.slice pa (t.pT k).cn pc] 64) := ⟨_, rfl⟩
        have hYs : Y.heap.size = wr.heap.size + 2 := by rw [hY]; simp
        rw [← hY] at hb1 hno
        have hb3 : Below Y.heap.size Y w1 := hb1
        have hbY : Below wr.heap.size wr Y := by rw [hY]; exact hb2 _ _
        have p0 : w1.cell? ⟨wr.heap.size, 0, none⟩ = some (.int .i64 (t.pT k).id) := cell_below (by rw [hY]; simp [go_sem]) hb3
        have p1 : w1.cell? ⟨wr.heap.size, 1, none⟩ = some (.int .i64 (t.pT k).lsn) := cell_below (by rw [hY]; simp [go_sem]) hb3
        have p2 : w1.cell? ⟨wr.heap.size, 2, none⟩ = some (.slice pa (t.pT k).cn pc) := cell_below (by rw [hY]; simp [go_sem]) hb3
        have pf1 : ∀ i, w1.frozen? ⟨wr.heap.size, i, none⟩ = false := fun i => (hb3.frozen (p := ⟨_, i, none⟩) (by show wr.heap.size < Y.heap.size; omega)).trans (by rw [hY]; simp [go_sem])
        have hbw : Below wr.heap.size wr w1 := below_then hbY hb3
        have hs1 : wr.heap.size + 2 ≤ w1.heap.size := by have := hb3.size; omega
        have hno2 : Own w1 (wr.heap.size + 2) w1.heap.size na (t.pT k).cn (t.pT k).cK (t.pT k).cV := by rw [hYs] at hno; exact hno
        clear hb3 hbY hYs hY
        clear hb1 hno hb2 HIC2 q0 q1 q2
        go_upto_region 6 with fail
        obtain ⟨W2, hW2⟩ : ∃ x, x = w1.setCell ⟨wr.heap.size, 2, none⟩ (.slice na (t.pT k).cn nc) := ⟨_, rfl⟩
        have hbW : Below wr.heap.size wr W2 := by rw [hW2]; exact hbw.setCell (p := ⟨wr.heap.size, 2, none⟩) (Nat.le_refl _) _
        have g0 : W2.cell? ⟨wr.heap.size, 0, none⟩ = some (.int .i64 (t.pT k).id) := by rw [hW2, setO (by omega)]; exact p0
        have g1 : W2.cell? ⟨wr.heap.size, 1, none⟩ = some (.int .i64 (t.pT k).lsn) := by rw [hW2, setO (by omega)]; exact p1
        have g2 : W2.cell? ⟨wr.heap.size, 2, none⟩ = some (.slice na (t.pT k).cn nc) := by rw [hW2]; exact setS p2
        have HO2 : Hid (Own W2 (wr.heap.size + 2) w1.heap.size na (t.pT k).cn (t.pT k).cK (t.pT k).cV) := by
          rw [hW2]; exact hno2.writes (lo' := wr.heap.size) (hi' := wr.heap.size + 1) ((Writes.refl _ _ _).setCell (p := ⟨wr.heap.size, 2, none⟩) (Nat.le_refl _) (Nat.lt_succ_self _) _) (.inr (by omega))
        have HS2 : Hid (W2.heap.size = w1.heap.size) := by rw [hW2]; show _ = _; simp [World.setCell]
        rw [← hW2]
        clear hW2 p0 p1 p2 pf1 hbw hno2
        have HC2 : Hid (CEl t u0 W2 B u.heap.size k v v11 v15) := HC.out.mono hbW
        have HG2 : Hid (GrPg u.heap.size wr.heap.size W2 v k t.pT) := HC.out.gr.below hbW
        have hMw : u.heap.size ≤ wr.heap.size := HC.out.hMw
        have y1 := HC2.out.ci.bx.2.1
        have yf := HC2.out.ci.bf
        have HW3 : Hid (∀ o : Obj, CEl t u0 (W2.alloc o) B u.heap.size k v v11 v15) := fun o => HC2.out.mono (below_new _ _)
        have HG3 : Hid (∀ o : Obj, GrPg u.heap.size wr.heap.size (W2.alloc o) v k t.pT) := fun o => HG2.out.below (below_new _ _)
        have HO3 : Hid (∀ o : Obj, Own (W2.alloc o) (wr.heap.size + 2) w1.heap.size na (t.pT k).cn (t.pT k).cK (t.pT k).cV) := fun o => HO2.out.below (below_new _ _)
        clear HC HG2 HO2
        go_wp2_with (at_builtin; refine wpList_grPg _ rfl (.tmp 30) (.tmp 32) rfl u.heap.size wr.heap.size v k t.pT rfl (HG3.out _) W2.heap.size 0 1 (t.pT k) na nc (wr.heap.size + 2) w1.heap.size rfl (lit_pg2 W2 (t.pT k) na nc) (.inr ⟨by omega, by rw [World.size_alloc, HS2.out]; omega⟩) hMw hnc (HO3.out _) hk5 ?_)
        intro g cap' w2 hgr hg
        obtain ⟨hn2, c12, cf2⟩ := CEl.app (HW3.out _) hg hgr
        have HN2 : Hid (CEl t u0 (w2.setCell ⟨B, 1, none⟩ (.slice (some ⟨g, 0, none⟩) (k + 1) cap')) B u.heap.size (k + 1) (.slice (some ⟨g, 0, none⟩) (k + 1) cap') v11 v15) := hn2
        clear hn2 hgr hg HW3 HG3 HO3 y1 yf HC2
        go_wp2_with fail
        go_roundw
        case rel => exact ⟨k + 1, _, by omega, by go_num, HN2⟩
        case measure => simp [intOf]; omega
      · have hkn : k = t.pn := by omega
        have hnl : ¬ ((k : Int) < (t.pn : Int)) := by omega
        have HC1 : Hid (CEi t u0 wr B false false t.pn v (.slice none 0 0) (.slice none 0 0) (.slice none 0 0) (.slice none 0 0) v11 v15) := by rw [← hkn]; exact HC.out.ci
        have HXw : Hid (BoxS wr w.heap.size (.int .i64 t.nx) (.slice a0 t.pn c0) (.slice a1 t.d.n c1) (.slice a2 t.d.m c2) (.slice a3 t.g.n1 c3) (.slice a4 t.g.n2 c4) (.slice a5 t.hn c5) (.slice a6 t.on c6)) := HX0.out.below HC.out.ci.below
        clear HC
        go_upto_region 8 with fail
        refine wp_region_E 11 (S := fun u => BoxS u w.heap.size (.int .i64 t.nx) (.slice a0 t.pn c0) (.slice a1 t.d.n c1) (.slice a2 t.d.m c2) (.slice a3 t.g.n1 c3) (.slice a4 t.g.n2 c4) (.slice a5 t.hn c5) (.slice a6 t.on c6)) (by kernel_rfl) (HXw.out.below ((Below.refl _ _).drew)) (fun hS => ?_)
        obtain ⟨y0, hy0⟩ : ∃ y, y = wr.drew := ⟨_, rfl⟩
        have hby : Below wr.heap.size wr y0 := by rw [hy0]; exact (Below.refl _ _).drew
        rw [← hy0] at hS ⊢
        clear hy0 HXw
        replace HC1 : Hid (CEi t u0 y0 B false false t.pn v (.slice none 0 0) (.slice none 0 0) (.slice none 0 0) (.slice none 0 0) v11 v15) := HC1.out.mono hby
        have HD1 : Hid (DiskAt y0 a1 a2 t.d) := HI.out.2.1.below HC1.out.below
        clear hby
        refine wpAnyE_takeD (L := 11) (i := 0) (v := .pointer (some ⟨w.heap.size, 2, none⟩)) (some 36) rfl rfl (by kernel_rfl) (by kernel_rfl) (by kernel_rfl) (by kernel_rfl) (fun _ _ _ h => h) (Or.inl ⟨by kernel_rfl, by intro u hSu; go_simp⟩) hS ?_
        try simp only [Act.put, List.setIfInBounds_toArray, List.set_cons_zero, List.set_cons_succ]
        refine wpAnyE_takeD (L := 11) (i := 1) (v := .pointer (some ⟨w.heap.size, 2, none⟩)) (some 37) rfl rfl (by kernel_rfl) (by kernel_rfl) (by kernel_rfl) (by kernel_rfl) (fun _ _ _ h => h) (Or.inl ⟨by kernel_rfl, by intro u hSu; go_simp⟩) hS ?_
        try simp only [Act.put, List.setIfInBounds_toArray, List.set_cons_zero, List.set_cons_succ]
        refine wpAnyE_takeD (L := 11) (i := 2) (v := .slice a1 t.d.n c1) (some 38) rfl rfl (by kernel_rfl) (by kernel_rfl) (by kernel_rfl) (by kernel_rfl) (fun _ _ _ h => h) (Or.inl ⟨by kernel_rfl, by intro u hSu; obtain ⟨h0, h1, h2, h3, h4, h5, h6, h7⟩ := hSu; go_simp⟩) hS ?_
        try simp only [Act.put, List.setIfInBounds_toArray, List.set_cons_zero, List.set_cons_succ]
        refine wpAnyE_takeD (L := 11) (i := 5) (v := .pointer (some ⟨w.heap.size, 2, none⟩)) (some 41) rfl rfl (by kernel_rfl) (by kernel_rfl) (by kernel_rfl) (by kernel_rfl) (fun _ _ _ h => h) (Or.inl ⟨by kernel_rfl, by intro u hSu; go_simp⟩) hS ?_
        try simp only [Act.put, List.setIfInBounds_toArray, List.set_cons_zero, List.set_cons_succ]
        refine wpAnyE_takeD (L := 11) (i := 6) (v := .pointer (some ⟨w.heap.size, 3, none⟩)) (some 42) rfl rfl (by kernel_rfl) (by kernel_rfl) (by kernel_rfl) (by kernel_rfl) (fun _ _ _ h => h) (Or.inl ⟨by kernel_rfl, by intro u hSu; go_simp⟩) hS ?_
        try simp only [Act.put, List.setIfInBounds_toArray, List.set_cons_zero, List.set_cons_succ]
        refine wpAnyE_takeD (L := 11) (i := 7) (v := .slice a2 t.d.m c2) (some 43) rfl rfl (by kernel_rfl) (by kernel_rfl) (by kernel_rfl) (by kernel_rfl) (fun _ _ _ h => h) (Or.inl ⟨by kernel_rfl, by intro u hSu; obtain ⟨h0, h1, h2, h3, h4, h5, h6, h7⟩ := hSu; go_simp⟩) hS ?_
        try simp only [Act.put, List.setIfInBounds_toArray, List.set_cons_zero, List.set_cons_succ]
        refine wpAnyE_ready (rs := [3]) (by kernel_rfl) (by simp) ?_
        refine AllReadyE.cons rfl (fun K9 hK => ?_) AllReadyE.nil
        go_simp
        refine (sheetsOf_any t.d.n t.d.L t.d.Z a1 c1 y0 HD.out.n8 HD.out.L HD1.out.1).mono ?_
        rintro e w1 ⟨v5, rfl, hb1, ho1⟩
        obtain ⟨b5, e5, rfl, hb50, hb51⟩ := ho1.form HD.out.n1
        have HRG : Hid (∀ i, i < t.d.n → w1.rangeAt b5 (i * 48) (bvs (t.d.Z i) 48)) := shl_range ho1
        have HB1 : Hid (Below y0.heap.size y0 w1) := hb1
        clear ho1 hb50
        refine hK.out _ _ (hS.below hb1) (fun hS9 => ?_)
        try simp only [Act.put, List.setIfInBounds_toArray, List.set_cons_zero, List.set_cons_succ]
        clear hK K9 hS
        have hS := hS9
        clear hS9
        clear hb1
        refine wpAnyE_ready (rs := [4]) (by kernel_rfl) (by simp) ?_
        refine AllReadyE.cons rfl (fun K9 hK => ?_) AllReadyE.nil
        go_simp
        refine (pagesOf_any t.d.n t.d.Z b5 e5 w1 HD.out.n8 hb51 HRG.out).mono ?_
        rintro e w2 ⟨v6, rfl, hb2, hap⟩
        obtain ⟨ap, cp, rfl, -, hop⟩ := hap.own
        have HB2 : Hid (Below w1.heap.size w1 w2) := hb2
        have HOP : Hid (OwnP w2 w1.heap.size w2.heap.size ap t.d.n (fun _ => 48) t.d.Z) := hop
        clear hap hop
        refine hK.out _ _ (hS.below hb2) (fun hS9 => ?_)
        try simp only [Act.put, List.setIfInBounds_toArray, List.set_cons_zero, List.set_cons_succ]
        clear hK K9 hS
        have hS := hS9
        clear hS9
        clear hb2 hb51 HRG
        refine wpAnyE_ready (rs := [8]) (by kernel_rfl) (by simp) ?_
        refine AllReadyE.cons rfl (fun K9 hK => ?_) AllReadyE.nil
        go_simp
        refine (copyLoose_any t.d.m t.d.P t.d.T t.d.M t.d.Y a2 c2 w2 HD.out.m HD.out.M (HD1.out.2.below (below_then HB1.out HB2.out))).mono ?_
        rintro e w3 ⟨v7, rfl, hb3, hal⟩
        obtain ⟨al, cl, rfl, -, hol⟩ := hal.own
        have HOD : Hid (OwnD w3 w1.heap.size w3.heap.size ap al t.d) := ⟨Nat.le_refl _, w1.heap.size, w2.heap.size, w2.heap.size, w3.heap.size, Nat.le_refl _, hb3.size, HB2.out.size, Nat.le_refl _, .inl (Nat.le_refl _), (HOP.out.below hb3).lens fun i hi => (HD.out.L i hi).symm, hol.lens fun i hi => (HD.out.M i hi).symm⟩
        have HB3 : Hid (Below w1.heap.size w1 w3) := below_then HB2.out hb3
        have HC3 : Hid (CEi t u0 w3 B false false t.pn v (.slice none 0 0) (.slice none 0 0) (.slice none 0 0) (.slice none 0 0) v11 v15) := (HC1.out.mono HB1.out).mono HB3.out
        clear hal hol HOP
        refine hK.out _ _ (hS.below hb3) (fun hS9 => ?_)
        try simp only [Act.put, List.setIfInBounds_toArray, List.set_cons_zero, List.set_cons_succ]
        clear hK K9 hS
        have hS := hS9
        clear hS9
        clear hb3 HB2
        refine wpAnyE_ready (rs := [9]) (by kernel_rfl) (by simp) ?_
        refine AllReadyE.cons rfl (fun K9 hK => ?_) AllReadyE.nil
        go_simp
        refine hK.out _ _ (hS) (fun hS9 => ?_)
        try simp only [Act.put, List.setIfInBounds_toArray, List.set_cons_zero, List.set_cons_succ]
        clear hK K9 hS
        have hS := hS9
        clear hS9
        refine wpAnyE_ready (rs := [10]) (by kernel_rfl) (by simp) ?_
        refine AllReadyE.cons rfl (fun K9 hK => ?_) AllReadyE.nil
        go_simp
        refine hK.out _ _ (hS) (fun hS9 => ?_)
        try simp only [Act.put, List.setIfInBounds_toArray, List.set_cons_zero, List.set_cons_succ]
        clear hK K9 hS
        have hS := hS9
        clear hS9
        obtain ⟨z0, z1, z2, z3, z4, z5, z6, z7⟩ := HC3.out.bx
        have zf := HC3.out.bf
        have HN8 : Hid (CEi t u0 ((w3.setCell ⟨B, 2, none⟩ (.slice ap t.d.n cp)).setCell ⟨B, 3, none⟩ (.slice al t.d.m cl)) B true false t.pn v (.slice ap t.d.n cp) (.slice al t.d.m cl) (.slice none 0 0) (.slice none 0 0) v11 v15) := HC1.out.disk HB1.out HB3.out HOD.out
        clear HC1 HC3 HOD HB1 HB3 HD1
        refine wpAnyE_ready (rs := [11]) (by kernel_rfl) (by simp) ?_
        refine AllReadyE.last rfl (fun K9 hK => ?_)
        go_simp
        refine hK.out _ _ ?_
        try simp only [Act.put, List.setIfInBounds_toArray, List.set_cons_zero, List.set_cons_succ]
        clear hK K9 hS
        clear z0 z1 z2 z3 z4 z5 z6 z7 zf
        refine wpAnyE_done (by kernel_rfl) ?_ _
        go_simp
        obtain ⟨X, hX⟩ : ∃ x, x = (w3.setCell ⟨B, 2, none⟩ (.slice ap t.d.n cp)).setCell ⟨B, 3, none⟩ (.slice al t.d.m cl) := ⟨_, rfl⟩
        rw [← hX] at HN8 ⊢
        clear hX
        have HXw : Hid (BoxS X w.heap.size (.int .i64 t.nx) (.slice a0 t.pn c0) (.slice a1 t.d.n c1) (.slice a2 t.d.m c2) (.slice a3 t.g.n1 c3) (.slice a4 t.g.n2 c4) (.slice a5 t.hn c5) (.slice a6 t.on c6)) := HX0.out.below HN8.out.below
        go_upto_region 9 with fail
        refine wp_region_E 12 (S := fun u => BoxS u w.heap.size (.int .i64 t.nx) (.slice a0 t.pn c0) (.slice a1 t.d.n c1) (.slice a2 t.d.m c2) (.slice a3 t.g.n1 c3) (.slice a4 t.g.n2 c4) (.slice a5 t.hn c5) (.slice a6 t.on c6)) (by kernel_rfl) (HXw.out.below ((Below.refl _ _).drew)) (fun hS => ?_)
        obtain ⟨r0, hr0⟩ : ∃ y, y = X.drew := ⟨_, rfl⟩
        have hby : Below X.heap.size X r0 := by rw [hr0]; exact (Below.refl _ _).drew
        rw [← hr0] at hS ⊢
        clear hr0 HXw
        have HN9 : Hid (CEi t u0 r0 B true false t.pn v (.slice ap t.d.n cp) (.slice al t.d.m cl) (.slice none 0 0) (.slice none 0 0) v11 v15) := HN8.out.mono hby
        have HLA : Hid (LogAt r0 a3 a4 t.g) := HI.out.2.2.1.below HN9.out.below
        clear hby HN8
        refine wpAnyE_takeD (L := 12) (i := 0) (v := .pointer (some ⟨w.heap.size, 4, none⟩)) (some 47) rfl rfl (by kernel_rfl) (by kernel_rfl) (by kernel_rfl) (by kernel_rfl) (fun _ _ _ h => h) (Or.inl ⟨by kernel_rfl, by intro u hSu; go_simp⟩) hS ?_
        try simp only [Act.put, List.setIfInBounds_toArray, List.set_cons_zero, List.set_cons_succ]
        refine wpAnyE_takeD (L := 12) (i := 1) (v := .pointer (some ⟨w.heap.size, 4, none⟩)) (some 48) rfl rfl (by kernel_rfl) (by kernel_rfl) (by kernel_rfl) (by kernel_rfl) (fun _ _ _ h => h) (Or.inl ⟨by kernel_rfl, by intro u hSu; go_simp⟩) hS ?_
        try simp only [Act.put, List.setIfInBounds_toArray, List.set_cons_zero, List.set_cons_succ]
        refine wpAnyE_takeD (L := 12) (i := 2) (v := .slice a3 t.g.n1 c3) (some 49) rfl rfl (by kernel_rfl) (by kernel_rfl) (by kernel_rfl) (by kernel_rfl) (fun _ _ _ h => h) (Or.inl ⟨by kernel_rfl, by intro u hSu; obtain ⟨h0, h1, h2, h3, h4, h5, h6, h7⟩ := hSu; go_simp⟩) hS ?_
        try simp only [Act.put, List.setIfInBounds_toArray, List.set_cons_zero, List.set_cons_succ]
        refine wpAnyE_takeD (L := 12) (i := 5) (v := .pointer (some ⟨w.heap.size, 4, none⟩)) (some 52) rfl rfl (by kernel_rfl) (by kernel_rfl) (by kernel_rfl) (by kernel_rfl) (fun _ _ _ h => h) (Or.inl ⟨by kernel_rfl, by intro u hSu; go_simp⟩) hS ?_
        try simp only [Act.put, List.setIfInBounds_toArray, List.set_cons_zero, List.set_cons_succ]
        refine wpAnyE_takeD (L := 12) (i := 6) (v := .pointer (some ⟨w.heap.size, 5, none⟩)) (some 53) rfl rfl (by kernel_rfl) (by kernel_rfl) (by kernel_rfl) (by kernel_rfl) (fun _ _ _ h => h) (Or.inl ⟨by kernel_rfl, by intro u hSu; go_simp⟩) hS ?_
        try simp only [Act.put, List.setIfInBounds_toArray, List.set_cons_zero, List.set_cons_succ]
        refine wpAnyE_takeD (L := 12) (i := 7) (v := .slice a4 t.g.n2 c4) (some 54) rfl rfl (by kernel_rfl) (by kernel_rfl) (by kernel_rfl) (by kernel_rfl) (fun _ _ _ h => h) (Or.inl ⟨by kernel_rfl, by intro u hSu; obtain ⟨h0, h1, h2, h3, h4, h5, h6, h7⟩ := hSu; go_simp⟩) hS ?_
        try simp only [Act.put, List.setIfInBounds_toArray, List.set_cons_zero, List.set_cons_succ]
        refine wpAnyE_inv (fun l a u => ∃ x3 x4 x8 x9 x10 x11 x12 : Bool, ∃ v50 v51 v55 v56 v57 v58 : Value, l = #[true, true, true, x3, x4, true, true, true, x8, x9, x10, x11, x12] ∧ a = { tmps := #[.agg #[.int .i64 t.nx, .slice a0 t.pn c0, .slice a1 t.d.n c1, .slice a2 t.d.m c2, .slice a3 t.g.n1 c3, .slice a4 t.g.n2 c4, .slice a5 t.hn c5, .slice a6 t.on c6], .pointer (some ⟨w.heap.size, 0, none⟩), .pointer (some ⟨w.heap.size + 1, 0, none⟩), .pointer (some ⟨B, 0, none⟩), undef, u5, .pointer (some ⟨w.heap.size, 0, none⟩), .int .i64 t.nx, .pointer (some ⟨w.heap.size, 6, none⟩), .slice a5 t.hn c5, v10, v11, .pointer (some ⟨w.heap.size, 7, none⟩), .slice a6 t.on c6, v14, v15, v16, .pointer (some ⟨w.heap.size, 1, none⟩), .slice a0 t.pn c0, .int .i64 (t.pn : Int), .int .i64 (t.pn : Int), .bool false, u22, u23, u24, u25, u26, u27, u28, u29, u30, u31, u32, u33, u34, u35, .pointer (some ⟨w.heap.size, 2, none⟩), .pointer (some ⟨w.heap.size, 2, none⟩), .slice a1 t.d.n c1, .slice (some ⟨b5, 0, none⟩) t.d.n e5, .slice ap t.d.n cp, .pointer (some ⟨w.heap.size, 2, none⟩), .pointer (some ⟨w.heap.size, 3, none⟩), .slice a2 t.d.m c2, .slice al t.d.m cl, .agg #[.slice ap t.d.n cp, .slice al t.d.m cl], .pointer (some ⟨B, 2, none⟩), .pointer (some ⟨w.heap.size, 4, none⟩), .pointer (some ⟨w.heap.size, 4, none⟩), .slice a3 t.g.n1 c3, v50, v51, .pointer (some ⟨w.heap.size, 4, none⟩), .pointer (some ⟨w.heap.size, 5, none⟩), .slice a4 t.g.n2 c4, v55, v56, v57, v58, undef], defers := [] } ∧ BoxS u w.heap.size (.int .i64 t.nx) (.slice a0 t.pn c0) (.slice a1 t.d.n c1) (.slice a2 t.d.m c2) (.slice a3 t.g.n1 c3) (.slice a4 t.g.n2 c4) (.slice a5 t.hn c5) (.slice a6 t.on c6) ∧ ((x12 = false ∧ LGi t r0 a3 c3 a4 c4 x3 x4 x8 x9 v50 v51 v55 v56 u ∧ (x10 = true → x4 = true ∧ x9 = true ∧ v57 = .agg #[v51, v56]) ∧ (x11 = true → v58 = .pointer (some ⟨B, 4, none⟩))) ∨ (x12 = true ∧ x3 = true ∧ x4 = true ∧ x8 = true ∧ x9 = true ∧ x10 = true ∧ x11 = true ∧ ∃ ga gc gb gd, t.g.n1 ≤ gc ∧ CEi t u0 u B true true t.pn v (.slice ap t.d.n cp) (.slice al t.d.m cl) (.slice ga t.g.n1 gc) (.slice gb t.g.n2 gd) v11 v15))) (fun l a u hI => ?_) (fun l a u i o hI ho hun hall => ?_) (fun l a u1 hI hrd => ?_) (fun l a u hI hcn => ?_) _ _ _ _ ?_ ?_
        · obtain ⟨x3, x4, x8, x9, x10, x11, x12, v50, v51, v55, v56, v57, v58, rfl, rfl, hx, -⟩ := hI
          exact hx
        · obtain ⟨x3, x4, x8, x9, x10, x11, x12, v50, v51, v55, v56, v57, v58, rfl, rfl, hx, hI⟩ := hI
          rcases hI with ⟨rfl, hL, h10, h11⟩ | ⟨rfl, rfl, rfl, rfl, rfl, rfl, rfl, hF⟩
          case inr => rcases i with _ | _ | _ | _ | _ | _ | _ | _ | _ | _ | _ | _ | _ | i <;> first | (have h0 : true = false := hun; cases h0) | (have h0 : none = some o := ho; cases h0)
          rcases i with _ | _ | _ | _ | _ | _ | _ | _ | _ | _ | _ | _ | _ | i
          · have h0 : true = false := hun
            cases h0
          · have h0 : true = false := hun
            cases h0
          · have h0 : true = false := hun
            cases h0
          · have h0 : x3 = false := hun
            subst h0
            refine wpOp_step rfl (fun K9 hK => ?_)
            refine step_bsSB u (some 50) rfl rfl (.tmp 49) rfl a3 t.g.n1 c3 rfl (fun p u1 hp hb => ?_)
            exact hK _ _ ⟨true, x4, x8, x9, x10, x11, false, .slice (some ⟨p, 0, none⟩) 1 1, v51, v55, v56, v57, v58, rfl, rfl, hx.below hb, .inl ⟨rfl, hL.s3 hb p hp, h10, h11⟩⟩
          · have h0 : x4 = false := hun
            subst h0
            obtain rfl := Option.some.inj (ho.symm.trans rfl)
            have d3 : x3 = true := hall ⟨3, .data⟩ (by simp) rfl
            subst d3
            obtain ⟨p, rfl, hp⟩ := hL.p3 rfl
            have d9 : x9 = false := by
              cases x9
              · rfl
              · exact absurd (hL.p94 rfl) (by simp)
            subst d9
            refine wpOp_step rfl (fun K9 hK => ?_)
            go_simp
            refine (joined1B_any t.g.n1 t.g.z1 a3 c3 p u (by have := HLG.out; omega) hp (HLA.out.1.below hL.below)).mono ?_
            rintro e u1 ⟨vq, rfl, hb, hn⟩
            exact hK _ _ ⟨true, true, x8, false, x10, x11, false, .slice (some ⟨p, 0, none⟩) 1 1, vq, v55, v56, v57, v58, rfl, rfl, hx.below hb, .inl ⟨rfl, hL.s4 rfl hb hn, fun e => absurd (h10 e).1 (by simp), h11⟩⟩
          · have h0 : true = false := hun
            cases h0
          · have h0 : true = false := hun
            cases h0
          · have h0 : true = false := hun
            cases h0
          · have h0 : x8 = false := hun
            subst h0
            refine wpOp_step rfl (fun K9 hK => ?_)
            refine step_bsSB u (some 55) rfl rfl (.tmp 54) rfl a4 t.g.n2 c4 rfl (fun p u1 hp hb => ?_)
            exact hK _ _ ⟨x3, x4, true, x9, x10, x11, false, v50, v51, .slice (some ⟨p, 0, none⟩) 1 1, v56, v57, v58, rfl, rfl, hx.below hb, .inl ⟨rfl, hL.s8 hb p hp, h10, h11⟩⟩
          · have h0 : x9 = false := hun
            subst h0
            obtain rfl := Option.some.inj (ho.symm.trans rfl)
            have d8 : x8 = true := hall ⟨8, .data⟩ (by simp) rfl
            subst d8
            obtain ⟨p, rfl, hp⟩ := hL.p8 rfl
            have d4 : x4 = true := hall ⟨4, .chain⟩ (by simp) rfl
            subst d4
            refine wpOp_step rfl (fun K9 hK => ?_)
            go_simp
            refine (joined1B_any t.g.n2 t.g.z2 a4 c4 p u (by have := HLG.out; omega) hp (HLA.out.2.below hL.below)).mono ?_
            rintro e u1 ⟨vq, rfl, hb, hn⟩
            exact hK _ _ ⟨x3, true, true, true, x10, x11, false, v50, v51, .slice (some ⟨p, 0, none⟩) 1 1, vq, v57, v58, rfl, rfl, hx.below hb, .inl ⟨rfl, hL.s9 rfl hb hn, fun e => absurd (h10 e).2.1 (by simp), h11⟩⟩
          · have h0 : x10 = false := hun
            subst h0
            obtain rfl := Option.some.inj (ho.symm.trans rfl)
            have d4 : x4 = true := hall ⟨4, .data⟩ (by simp) rfl
            subst d4
            have d9 : x9 = true := hall ⟨9, .data⟩ (by simp) rfl
            subst d9
            obtain ⟨qa, qc, _, _, qb, qd, _, _, rfl, rfl, -⟩ := hL.p9 rfl
            refine wpOp_step rfl (fun K9 hK => ?_)
            go_simp
            exact hK _ _ ⟨x3, true, x8, true, true, x11, false, v50, _, v55, _, _, v58, rfl, rfl, hx, .inl ⟨rfl, hL, fun _ => ⟨rfl, rfl, rfl⟩, h11⟩⟩
          · have h0 : x11 = false := hun
            subst h0
            refine wpOp_step rfl (fun K9 hK => ?_)
            go_simp
            exact hK _ _ ⟨x3, x4, x8, x9, x10, true, false, v50, v51, v55, v56, v57, _, rfl, rfl, hx, .inl ⟨rfl, hL, h10, fun _ => rfl⟩⟩
          · obtain rfl := Option.some.inj (ho.symm.trans rfl)
            have d10 : x10 = true := hall ⟨10, .data⟩ (by simp) rfl
            have d11 : x11 = true := hall ⟨11, .data⟩ (by simp) rfl
            have d3 : x3 = true := hall ⟨3, .phase⟩ (by simp) rfl
            have d8 : x8 = true := hall ⟨8, .phase⟩ (by simp) rfl
            obtain ⟨e4, e9, rfl⟩ := h10 d10
            obtain rfl := h11 d11
            subst d10 d11 d3 d8 e4 e9
            obtain ⟨qa, qc, l1, h1, qb, qd, l2, h2, rfl, rfl, k1, k2, k3, k4, k5, k6⟩ := hL.p9 rfl
            have hog : OwnG u r0.heap.size u.heap.size qa qb t.g := ⟨Nat.le_refl _, l1, h1, l2, h2, k1, k4.1, k2, k5.1, .inl k3, k4, k5⟩
            have HF9 : Hid (CEi t u0 ((u.setCell ⟨B, 4, none⟩ (.slice qa t.g.n1 qc)).setCell ⟨B, 5, none⟩ (.slice qb t.g.n2 qd)) B true true t.pn v (.slice ap t.d.n cp) (.slice al t.d.m cl) (.slice qa t.g.n1 qc) (.slice qb t.g.n2 qd) v11 v15) := HN9.out.log hL.below hog
            have hce := HN9.out.mono hL.below
            obtain ⟨z0, z1, z2, z3, z4, z5, z6, z7⟩ := hce.bx
            have zf := hce.bf
            have HX9 : Hid (BoxS ((u.setCell ⟨B, 4, none⟩ (.slice qa t.g.n1 qc)).setCell ⟨B, 5, none⟩ (.slice qb t.g.n2 qd)) w.heap.size (.int .i64 t.nx) (.slice a0 t.pn c0) (.slice a1 t.d.n c1) (.slice a2 t.d.m c2) (.slice a3 t.g.n1 c3) (.slice a4 t.g.n2 c4) (.slice a5 t.hn c5) (.slice a6 t.on c6)) := HX0.out.below HF9.out.below
            clear hx hL h10 h11 hall hce hog k1 k2 k3 k4 k5
            refine wpOp_step rfl (fun K9 hK => ?_)
            go_simp
            exact hK _ _ ⟨true, true, true, true, true, true, true, v50, _, v55, _, _, _, rfl, rfl, HX9.out, .inr ⟨rfl, rfl, rfl, rfl, rfl, rfl, rfl, _, _, _, _, k6, HF9.out⟩⟩
          · have h0 : none = some o := ho
            cases h0
        · obtain ⟨x3, x4, x8, x9, x10, x11, x12, v50, v51, v55, v56, v57, v58, rfl, rfl, hx, hI⟩ := hI
          rcases hI with ⟨rfl, hL, h10, h11⟩ | ⟨rfl, rfl, rfl, rfl, rfl, rfl, rfl, hF⟩
          case inl =>
            cases x3
            · exact absurd hrd (ready_mem (i := 3) rfl rfl (by intro e he _; simp at he; subst he; rfl))
            cases x4
            · exact absurd hrd (ready_mem (i := 4) rfl rfl (by intro e he _; simp at he; subst he; rfl))
            cases x8
            · exact absurd hrd (ready_mem (i := 8) rfl rfl (by intro e he _; simp at he; subst he; rfl))
            cases x9
            · exact absurd hrd (ready_mem (i := 9) rfl rfl (by intro e he _; simp at he; rcases he with rfl | rfl <;> rfl))
            cases x10
            · exact absurd hrd (ready_mem (i := 10) rfl rfl (by intro e he _; simp at he; rcases he with rfl | rfl <;> rfl))
            cases x11
            · exact absurd hrd (ready_mem (i := 11) rfl rfl (by intro e he _; simp at he; rcases he with rfl | rfl | rfl | rfl | rfl | rfl | rfl | rfl | rfl | rfl | rfl <;> rfl))
            exact absurd hrd (ready_mem (i := 12) rfl rfl (by intro e he _; simp at he; rcases he with rfl | rfl | rfl | rfl | rfl | rfl | rfl | rfl | rfl | rfl | rfl | rfl | rfl | rfl <;> rfl))
          obtain ⟨qa, qc, qb, qd, hqc, hF⟩ := hF
          have HF : Hid (∀ w7, Writes (w.heap.size + 1) (w.heap.size + 2) u1 w7 → CRes t w (.returned (.agg #[.int .i64 t.nx, v, .slice ap t.d.n cp, .slice al t.d.m cl, .slice qa t.g.n1 qc, .slice qb t.g.n2 qd, v11, v15])) w7) := fun w7 g1 => hF.fin ⟨qa, qc, rfl, hqc⟩ HB.out (w.heap.size + 1) (w.heap.size + 2) (by omega) (by omega) g1
          obtain ⟨y0', y1, y2, y3, y4, y5, y6, y7⟩ := hF.bx
          have hrb := HR.out.1.below hF.below
          have hf : ∀ i, u1.frozen? ⟨w.heap.size + 1, i, none⟩ = false := fun i => (hF.below.frozen (p := ⟨_, i, none⟩) (by show w.heap.size + 1 < u0.heap.size; omega)).trans (HR.out.2 i)
          obtain ⟨z0, z1, z2, z3, z4, z5, z6, z7⟩ := hrb
          obtain ⟨⟨b6, e6, rfl, -⟩, ⟨b7, e7, rfl, -⟩, va, vc, rfl, -⟩ : (∃ a cap, v11 = .slice a t.hn cap ∧ t.hn ≤ cap) ∧ (∃ a cap, v15 = .slice a t.on cap ∧ t.on ≤ cap) ∧ (∃ a cap, v = .slice a t.pn cap ∧ t.pn ≤ cap) := by
            obtain ⟨cl, _, hp⟩ := hF.pc
            obtain ⟨M, top, _, _, _, m4⟩ := hp.pp
            obtain ⟨a, c, q1, q2, -⟩ := m4.own
            exact ⟨row_form hp.ph.1, row_form hp.po.1, a, c, q1, q2⟩
          clear hF hrd hx
          go_simp
          go_wp2_with fail
          refine bodyPost_ret (v := .agg #[.int .i64 t.nx, .slice va t.pn vc, .slice ap t.d.n cp, .slice al t.d.m cl, .slice qa t.g.n1 qc, .slice qb t.g.n2 qd, .slice b6 t.hn e6, .slice b7 t.on e7]) (by simp [results, Tryz.results156, go_sem, *]) rfl ?_
          refine HF.out _ ?_
          repeat (first | with_reducible exact Writes.refl _ _ _ | with_reducible refine Writes.setCell ?_ (by first | omega | (simp <;> omega)) (by first | omega | (simp <;> omega)) _)
        · obtain ⟨x3, x4, x8, x9, x10, x11, x12, v50, v51, v55, v56, v57, v58, rfl, rfl, hx, hI⟩ := hI
          have hcn2 := List.count_eq_zero.1 hcn
          cases x3
          · exact absurd (by simp) hcn2
          cases x4
          · exact absurd (by simp) hcn2
          cases x8
          · exact absurd (by simp) hcn2
          cases x9
          · exact absurd (by simp) hcn2
          cases x10
          · exact absurd (by simp) hcn2
          cases x11
          · exact absurd (by simp) hcn2
          cases x12
          · exact absurd (by simp) hcn2
          refine (?_ : Region.ready Region.Mode.any _ _ = [])
          kernel_rfl
        · exact Nat.le_of_eq (by kernel_rfl)
        · exact ⟨false, false, false, false, false, false, false, undef, undef, undef, undef, undef, undef, rfl, rfl, hS, .inl ⟨rfl, ⟨Below.refl _ _, fun e => (by cases e), fun e => (by cases e), fun e => (by cases e), fun e => (by cases e), fun e => (by cases e)⟩, fun e => (by cases e), fun e => (by cases e)⟩⟩
  · obtain ⟨x4, x5, x8, x9, x10, x11, x12, v10, v11, v14, v15, v16, v3, col, rfl, rfl, hx, hI⟩ := hI
    have hcn2 := List.count_eq_zero.1 hcn
    cases x4
    · exact absurd (by simp) hcn2
    cases x5
    · exact absurd (by simp) hcn2
    cases x8
    · exact absurd (by simp) hcn2
    cases x9
    · exact absurd (by simp) hcn2
    cases x10
    · exact absurd (by simp) hcn2
    cases x11
    · exact absurd (by simp) hcn2
    cases x12
    · exact absurd (by simp) hcn2
    refine (?_ : Region.ready Region.Mode.any _ _ = [])
    kernel_rfl
  · exact Nat.le_of_eq (by kernel_rfl)
  · exact ⟨false, false, false, false, false, false, false, undef, undef, undef, undef, undef, undef, fun _ => 0, rfl, rfl, hS, .inl ⟨rfl, ⟨Below.refl _ _, fun x hx => absurd rfl hx, fun e => (by cases e), fun e => (by cases e), fun e => (by cases e), fun e => (by cases e), fun e => (by cases e)⟩, fun e => (by cases e)⟩⟩
end Go.Proofs.YtaokclhcmgbgnaaGreat
