/- A copied engine's rows at the start of a roll-back, between rounds, and at its end. -/
import Derived.Test.YtabkgncnanlapaaGreatQRqc
import Derived.Test.YtabkgncnanlapaaGreatQRqd
import Derived.Test.YtabkgncnanlapaaGreatQRle
namespace Go.Proofs.YtabkgncnanlapaaGreat
open Go.RowKit Go.Deep Go.Shelf
set_option linter.unusedVariables false
set_option linter.unusedSimpArgs false
set_option maxRecDepth 20000

theorem kept_heap {w u : World} {row : Option Nat} {b i : Nat} {v : Value} (hc : w.cell? ⟨b, i, none⟩ = some v) (hg : w.grownBy u row) (hr : ∀ r, row = some r → ∃ o : Obj, w.heap[r]? = some o ∧ o.isCells = false) : u.heap[b]? = w.heap[b]? := by
  refine hg.block b (Go.block_lt_of_cell hc) fun e => ?_
  obtain ⟨o, ho, hk⟩ := hr b e.symm
  unfold World.cell? at hc
  rw [ho] at hc
  cases o <;> simp_all [Obj.isCells]
theorem own4_kept {w u : World} {row : Option Nat} {lo hi n : Nat} {A : Option Addr} {U : Nat → Vr} (h : Own4 w lo hi A n U) (hg : w.grownBy u row) (hr : ∀ r, row = some r → ∃ o : Obj, w.heap[r]? = some o ∧ o.isCells = false) : Own4 u lo hi A n U := by
  obtain ⟨h0, h1 | ⟨b, off, e, h2, h3, h4⟩⟩ := h
  · exact ⟨Nat.le_trans h0 hg.size, .inl h1⟩
  · by_cases hn : n = 0
    · exact ⟨Nat.le_trans h0 hg.size, .inl hn⟩
    · have hb := kept_heap (h4.1 0 (by omega)).1 hg hr
      exact ⟨Nat.le_trans h0 hg.size, .inr ⟨b, off, e, h2, h3, fun i hi => (h4.1 i hi).block hb, fun i => (World.frozen?_of_block (w := w) (a := ⟨b, i, none⟩) hb).trans (h4.2 i)⟩⟩
theorem RpI.grown {W wr u : World} {B : Nat} {nx ck : Int} {tsl : Value} {M : Nat} {ra : Option Addr} {rc q : Nat} {xs : List HRw} {row : Option Nat} (h : RpI W wr B nx ck tsl M ra rc q xs) (hg : wr.grownBy u row) (hr : ∀ r, row = some r → W.heap.size ≤ r ∧ ∃ o : Obj, wr.heap[r]? = some o ∧ o.isCells = false) : RpI W u B nx ck tsl M ra rc q xs := by
  have hr2 : ∀ r, row = some r → ∃ o : Obj, wr.heap[r]? = some o ∧ o.isCells = false := fun r e => (hr r e).2
  have hB := kept_heap h.box.1 hg hr2
  refine ⟨⟨hg.os.trans h.writes.os, hg.tape.trans h.writes.tape, hg.output.trans h.writes.output, Nat.le_trans h.writes.size hg.size, fun k hk hd => (hg.block k (by have := h.writes.size; omega) (fun e => by have := (hr k e.symm).1; omega)).trans (h.writes.block k hk hd)⟩, ?_, fun i => (World.frozen?_of_block (w := wr) (a := ⟨B, i, none⟩) hB).trans (h.frz i), h.len, h.qc, h.mb, h.bw, ?_, h.ap, fun x hx => ?_, h.farB⟩
  · obtain ⟨b0, b1, b2, b3⟩ := h.box
    have g : ∀ i, u.cell? ⟨B, i, none⟩ = wr.cell? ⟨B, i, none⟩ := fun i => World.cell?_of_block (w := wr) (a := ⟨B, i, none⟩) hB
    exact ⟨(g _).trans b0, (g _).trans b1, (g _).trans b2, (g _).trans b3⟩
  · rcases h.hd with h1 | ⟨g, off, e, hl, k1, k2, k3, hc⟩
    · exact .inl h1
    · cases xs with
      | nil => exact .inl rfl
      | cons x xs =>
        have hb := kept_heap (hc 0 x rfl).1 hg hr2
        exact .inr ⟨g, off, e, Nat.lt_of_lt_of_le hl hg.size, k1, fun i => (World.frozen?_of_block (w := wr) (a := ⟨g, i, none⟩) hb).trans (k2 i), k3, fun i y hy => (hc i y hy).block hb⟩
  · obtain ⟨m1, m2, m3⟩ := h.ct x hx
    exact ⟨by have := hg.size; omega, m2, own4_kept m3 hg hr2⟩
/-- A copy in its box, no undo taken back by now. -/
theorem RpI.start {w2 W : World} {E : En} {M B vd : Nat} {tsl : Value} {vb : Option Addr} (hg : GrRw M w2.heap.size w2 (.slice vb E.q vd) E.q E.R) (hM : M ≤ w2.heap.size) (hb : Below w2.heap.size w2 W) (hB : B = w2.heap.size) (hbox : Box4 W B (.int .i64 E.nx) (.int .i64 E.ck) tsl (.slice vb E.q vd)) (hfz : ∀ i, W.frozen? ⟨B, i, none⟩ = false) :
    ∃ xs, xs.map HRw.t = rwL E ∧ RpI W W B E.nx E.ck tsl M vb vd E.q xs := by
  obtain ⟨xs, lxs, dxs, oxs, vxs, axs, cxs⟩ := hg.list
  have hz := hb.size
  have hBW : B < W.heap.size := Go.block_lt_of_cell hbox.1
  obtain ⟨a9, c9, e9, hqc, hat⟩ := HAtRw.of_row lxs oxs
  injection e9 with ea _ ec
  subst ea ec
  refine ⟨xs, dxs, Writes.refl _ _ _, hbox, hfz, lxs, hqc, by omega, hBW, ?_, axs, fun x hx => ((cxs x hx).2.below hb).mono (Nat.le_refl _) hz, fun x hx => ?_⟩
  · rcases hat with h1 | ⟨g, off, e, hl, hc⟩
    · exact .inl h1
    · subst e
      obtain rfl : off = 0 := by
        rcases oxs.2 with ⟨e9, _⟩ | ⟨g2, c2, cu, e9, _⟩
        · cases e9
        · injection e9 with e9
          injection e9 with e9
          injection e9
      have hgt := vxs g rfl
      have hg2 := oxs.lt g rfl
      have eb := hb.block g hl
      exact .inr ⟨g, 0, rfl, by omega, .inl (by omega), fun i => (World.frozen?_of_block (w := w2) (a := ⟨g, i, none⟩) eb).trans (oxs.frozenAt i), fun x hx => (cxs x hx).1 g rfl, fun i x hx => (hc i x hx).block eb⟩
  · have := (cxs x hx).2.1
    left
    omega
/-- The rows of the answer. -/
theorem RpI.rowsP {W wr : World} {B : Nat} {nx ck : Int} {tsl : Value} {M : Nat} {ra : Option Addr} {rc q : Nat} {xs : List HRw} (h : RpI W wr B nx ck tsl M ra rc q xs) : OwnRwP wr (fun x => (M ≤ x ∧ x < B) ∨ (W.heap.size ≤ x ∧ x < wr.heap.size)) ra q (fun i => (xs.map HRw.t).getD i zRw) := by
  rcases h.hd with h1 | ⟨g, off, e, hl, k1, k2, k3, hc⟩
  · left
    rw [← h.len, h1]
    rfl
  · refine .inr ⟨g, off, e, by omega, hl, k2, fun i => (xs.getD i ⟨zRw, none, 0, 0, 0⟩).l, fun i => (xs.getD i ⟨zRw, none, 0, 0, 0⟩).h, fun i j hi hj hne => ?_, fun i hi => ?_⟩
    · have hi2 : i < xs.length := by rw [h.len]; exact hi
      have hj2 : j < xs.length := by rw [h.len]; exact hj
      simp only [List.getD_eq_getElem?_getD, List.getElem?_eq_getElem hi2, List.getElem?_eq_getElem hj2, Option.getD_some]
      rcases Nat.lt_trichotomy i j with c | c | c
      · exact List.pairwise_iff_getElem.1 h.ap i j hi2 hj2 c
      · exact absurd c hne
      · exact (List.pairwise_iff_getElem.1 h.ap j i hj2 hi2 c).symm
    · obtain ⟨x, gi⟩ : ∃ x, xs[i]? = some x := ⟨_, List.getElem?_eq_getElem (by rw [h.len]; exact hi)⟩
      have e2 : (xs.map HRw.t).getD i zRw = x.t := by simp [List.getD_eq_getElem?_getD, gi]
      have e3 : xs.getD i ⟨zRw, none, 0, 0, 0⟩ = x := by simp [List.getD_eq_getElem?_getD, gi]
      have hm := List.mem_of_getElem? gi
      obtain ⟨m1, m2, m3⟩ := h.ct x hm
      have m4 := h.farB x hm
      simp only [e2, e3]
      exact ⟨k3 x hm, fun y y1 y2 => by omega, x.A, x.c, hc i x gi, m2, m3⟩
/-- The j-th transaction's undos put anew, its other numbers as they were or written. -/
theorem OwnTx.putP {w w1 : World} {l0 h0 b off n j lo hi uc : Nat} {ai : Option Addr} {T : Nat → Tx} {t : Tx} (h : OwnTx w l0 h0 (some ⟨b, off, none⟩) n T) (hj : j < n) (hw : ∀ x, l0 ≤ x → x < h0 → x ≠ b → w1.heap[x]? = w.heap[x]?) (hs : w.heap.size ≤ w1.heap.size)
    (hfar : ∀ o', (o' < off + j * 5 ∨ off + j * 5 + 4 < o') → w1.cell? ⟨b, o', none⟩ = w.cell? ⟨b, o', none⟩) (hfr : ∀ i, w1.frozen? ⟨b, i, none⟩ = w.frozen? ⟨b, i, none⟩) (hC : CTx w1 b (off + j * 5) t ai uc) (hn : t.n ≤ uc) (h1 : h0 ≤ lo) (hU : OwnU w1 lo hi ai t.n t.U) :
    OwnTxP w1 (fun x => (l0 ≤ x ∧ x < h0) ∨ (lo ≤ x ∧ x < hi)) (some ⟨b, off, none⟩) n (upf T j t) := by
  obtain ⟨hz, h9 | ⟨b1, off1, ha, hlo, hl, hf, l, h, hd, hc⟩⟩ := h
  · omega
  simp only [Option.some.injEq, Addr.mk.injEq, and_true] at ha
  obtain ⟨rfl, rfl⟩ := ha
  refine .inr ⟨b, off, rfl, .inl ⟨hlo, hl⟩, by omega, fun i => (hfr i).trans (hf i), fun i => if i = j then lo else l i, fun i => if i = j then hi else h i, fun i k hi2 hk hne => ?_, fun i hi2 => ?_⟩
  · by_cases e1 : i = j <;> by_cases e2 : k = j <;> simp only [e1, e2, if_true, if_false]
    · omega
    · have := (hc k hk).2.1; omega
    · have := (hc i hi2).2.1; omega
    · exact hd i k hi2 hk hne
  · by_cases e : i = j
    · subst e
      simp only [if_true]
      rw [upf_eq]
      exact ⟨by omega, fun x x1 x2 => .inr ⟨x1, x2⟩, ai, uc, hC, hn, hU⟩
    · simp only [e, if_false]
      rw [upf_ne _ _ e]
      obtain ⟨k0, k1, ai2, ci2, k2, k3, k4⟩ := hc i hi2
      refine ⟨k0, fun x x1 x2 => .inl (by omega), ai2, ci2, ?_, k3, OwnU_keepTx k4 hs fun x x1 x2 x3 => hw x (by omega) (by omega) (by omega)⟩
      have g : ∀ q, q < 5 → w1.cell? ⟨b, off + i * 5 + q, none⟩ = w.cell? ⟨b, off + i * 5 + q, none⟩ := fun q hq => hfar _ (by omega)
      obtain ⟨g0, g1, g2, g3, g4⟩ := k2
      exact ⟨(g 0 (by omega)).trans g0, (g 1 (by omega)).trans g1, (g 2 (by omega)).trans g2, (g 3 (by omega)).trans g3, (g 4 (by omega)).trans g4⟩
theorem box4_put (w : World) (B : Nat) (c0 c1 c2 c3 : Value) {z0 z1 z2 z3 : Value} (h : Box4 w B z0 z1 z2 z3) :
    Box4 ((((w.setCell ⟨B, 0, none⟩ c0).setCell ⟨B, 1, none⟩ c1).setCell ⟨B, 2, none⟩ c2).setCell ⟨B, 3, none⟩ c3) B c0 c1 c2 c3 ∧
    Writes B (B + 1) w ((((w.setCell ⟨B, 0, none⟩ c0).setCell ⟨B, 1, none⟩ c1).setCell ⟨B, 2, none⟩ c2).setCell ⟨B, 3, none⟩ c3) ∧
    ((((w.setCell ⟨B, 0, none⟩ c0).setCell ⟨B, 1, none⟩ c1).setCell ⟨B, 2, none⟩ c2).setCell ⟨B, 3, none⟩ c3).heap.size = w.heap.size := by
  obtain ⟨h0, h1, h2, h3⟩ := h
  refine ⟨⟨?_, ?_, ?_, ?_⟩, ?_, by simp [World.setCell]⟩
  · rw [setO (by omega), setO (by omega), setO (by omega)]; exact setS h0
  · rw [setO (by omega), setO (by omega)]; exact setS ((setO (by omega)).trans h1)
  · rw [setO (by omega)]; exact setS ((setO (by omega)).trans ((setO (by omega)).trans h2))
  · exact setS ((setO (by omega)).trans ((setO (by omega)).trans ((setO (by omega)).trans h3)))
  · exact (((Writes.refl _ _ _).setCell (p := ⟨B, 0, none⟩) (Nat.le_refl _) (Nat.lt_succ_self _) _).setCell (p := ⟨B, 1, none⟩) (Nat.le_refl _) (Nat.lt_succ_self _) _ |>.setCell (p := ⟨B, 2, none⟩) (Nat.le_refl _) (Nat.lt_succ_self _) _).setCell (p := ⟨B, 3, none⟩) (Nat.le_refl _) (Nat.lt_succ_self _) _
theorem ownU_kept {w u : World} {row : Option Nat} {lo hi n : Nat} {A : Option Addr} {U : Nat → Ud} (h : OwnU w lo hi A n U) (hg : w.grownBy u row) (hr : ∀ r, row = some r → ∃ o : Obj, w.heap[r]? = some o ∧ o.isCells = false) : OwnU u lo hi A n U := by
  obtain ⟨h0, h1 | ⟨b, off, e, h2, h3, h4⟩⟩ := h
  · exact ⟨Nat.le_trans h0 hg.size, .inl h1⟩
  · by_cases hn : n = 0
    · exact ⟨Nat.le_trans h0 hg.size, .inl hn⟩
    · have hb := kept_heap (h4.1 0 (by omega)).1 hg hr
      exact ⟨Nat.le_trans h0 hg.size, .inr ⟨b, off, e, h2, h3, fun i hi => (h4.1 i hi).block hb, fun i => (World.frozen?_of_block (w := w) (a := ⟨b, i, none⟩) hb).trans (h4.2 i)⟩⟩
theorem OwnRwP.kept {w u : World} {row : Option Nat} {P : Nat → Prop} {a : Option Addr} {n : Nat} {T : Nat → Rw} (h : OwnRwP w P a n T) (hg : w.grownBy u row) (hr : ∀ r, row = some r → ∃ o : Obj, w.heap[r]? = some o ∧ o.isCells = false) : OwnRwP u P a n T := by
  obtain h1 | ⟨b, off, ha, h2, hl, hf, l, h, hj, hc⟩ := h
  · exact .inl h1
  · by_cases hn : n = 0
    · exact .inl hn
    · obtain ⟨_, _, ai0, ci0, k0, _, _⟩ := hc 0 (by omega)
      have hb := kept_heap k0.1 hg hr
      refine .inr ⟨b, off, ha, h2, Nat.lt_of_lt_of_le hl hg.size, fun i => (World.frozen?_of_block (w := w) (a := ⟨b, i, none⟩) hb).trans (hf i), l, h, hj, fun i hi => ?_⟩
      obtain ⟨m0, m1, ai, ci, m2, m3, m4⟩ := hc i hi
      exact ⟨m0, m1, ai, ci, m2.block hb, m3, own4_kept m4 hg hr⟩
theorem OwnTxP.kept {w u : World} {row : Option Nat} {P : Nat → Prop} {a : Option Addr} {n : Nat} {T : Nat → Tx} (h : OwnTxP w P a n T) (hg : w.grownBy u row) (hr : ∀ r, row = some r → ∃ o : Obj, w.heap[r]? = some o ∧ o.isCells = false) : OwnTxP u P a n T := by
  obtain h1 | ⟨b, off, ha, h2, hl, hf, l, h, hj, hc⟩ := h
  · exact .inl h1
  · by_cases hn : n = 0
    · exact .inl hn
    · obtain ⟨_, _, ai0, ci0, k0, _, _⟩ := hc 0 (by omega)
      have hb := kept_heap k0.1 hg hr
      refine .inr ⟨b, off, ha, h2, Nat.lt_of_lt_of_le hl hg.size, fun i => (World.frozen?_of_block (w := w) (a := ⟨b, i, none⟩) hb).trans (hf i), l, h, hj, fun i hi => ?_⟩
      obtain ⟨m0, m1, ai, ci, m2, m3, m4⟩ := hc i hi
      exact ⟨m0, m1, ai, ci, m2.block hb, m3, ownU_kept m4 hg hr⟩
end Go.Proofs.YtabkgncnanlapaaGreat
