/- An engine's rows, in the program, while undos are taken back: the chain of a row set or put anew, a row taken away. -/
import Derived.Test.YtabkgncnanlapaaGreatQPgb
import Derived.Test.YtabkgncnanlapaaGreatQVg
import Derived.Test.YtabkgncnanlapaaGreatQCa
namespace Go.Proofs.YtabkgncnanlapaaGreat
open Go.RowKit Go.Deep
set_option linter.unusedVariables false
set_option linter.unusedSimpArgs false
set_option maxRecDepth 20000

/-- A row's headers in a block of theirs. -/
def HdR (W wr : World) (B M : Nat) (ra : Option Addr) (xs : List HRw) : Prop := xs = [] ∨ ∃ g off, ra = some ⟨g, off, none⟩ ∧ g < wr.heap.size ∧ ((M ≤ g ∧ g < B) ∨ W.heap.size ≤ g) ∧ (∀ i, wr.frozen? ⟨g, i, none⟩ = false) ∧ (∀ x ∈ xs, g < x.l ∨ x.h ≤ g) ∧ ∀ i x, xs[i]? = some x → CRw wr g (off + i * 2) x.t x.A x.c
/-- The box of an engine, its rows, and what they hold. -/
structure RpI (W wr : World) (B : Nat) (nx ck : Int) (tsl : Value) (M : Nat) (ra : Option Addr) (rc q : Nat) (xs : List HRw) : Prop where
  writes : Writes M (B + 1) W wr
  box : Box4 wr B (.int .i64 nx) (.int .i64 ck) tsl (.slice ra q rc)
  frz : ∀ i, wr.frozen? ⟨B, i, none⟩ = false
  len : xs.length = q
  qc : q ≤ rc
  mb : M ≤ B
  bw : B < W.heap.size
  hd : HdR W wr B M ra xs
  ap : ApRw xs
  ct : ∀ x ∈ xs, CtRw wr M wr.heap.size x
  farB : ∀ x ∈ xs, x.h ≤ B ∨ W.heap.size ≤ x.l
theorem RpI.at_ {W wr : World} {B : Nat} {nx ck : Int} {tsl : Value} {M : Nat} {ra : Option Addr} {rc q : Nat} {xs : List HRw} (h : RpI W wr B nx ck tsl M ra rc q xs) : HAtRw wr ra xs := by
  rcases h.hd with h1 | ⟨g, off, e, hl, -, -, -, hc⟩
  · exact .inl h1
  · exact .inr ⟨g, off, e, hl, hc⟩
theorem RpI.rows {W wr : World} {B : Nat} {nx ck : Int} {tsl : Value} {M : Nat} {ra : Option Addr} {rc q : Nat} {xs : List HRw} (h : RpI W wr B nx ck tsl M ra rc q xs) : RwsAt wr ra q (fun i => (xs.map HRw.t).getD i zRw) := by
  rcases h.at_ with h1 | ⟨b, off, e, hl, hc⟩
  · left
    rw [← h.len, h1]
    rfl
  · refine .inr ⟨b, off, e, hl, fun i hi => ?_⟩
    obtain ⟨x, gi⟩ : ∃ x, xs[i]? = some x := ⟨_, List.getElem?_eq_getElem (by rw [h.len]; exact hi)⟩
    have e2 : (xs.map HRw.t).getD i zRw = x.t := by simp [List.getD_eq_getElem?_getD, gi]
    have hx := h.ct _ (List.mem_of_getElem? gi)
    show ∃ ai ci, CRw wr b (off + i * 2) ((xs.map HRw.t).getD i zRw) ai ci ∧ VersAt wr ai ((xs.map HRw.t).getD i zRw).n ((xs.map HRw.t).getD i zRw).U ∧ ((xs.map HRw.t).getD i zRw).n ≤ ci
    rw [e2]
    exact ⟨_, _, hc i _ gi, hx.2.2.at, hx.2.1⟩
theorem HdR.below {W wr u : World} {B M : Nat} {ra : Option Addr} {xs : List HRw} (h : HdR W wr B M ra xs) (hb : Below wr.heap.size wr u) : HdR W u B M ra xs := by
  rcases h with h1 | ⟨g, off, e, hl, k1, k2, k3, hc⟩
  · exact .inl h1
  · exact .inr ⟨g, off, e, Nat.lt_of_lt_of_le hl hb.size, k1, fun i => (World.frozen?_of_block (w := wr) (a := ⟨g, i, none⟩) (hb.block g hl)).trans (k2 i), k3, fun i x hx => (hc i x hx).block (hb.block g hl)⟩
theorem RpI.below {u : World} {W wr : World} {B : Nat} {nx ck : Int} {tsl : Value} {M : Nat} {ra : Option Addr} {rc q : Nat} {xs : List HRw} (h : RpI W wr B nx ck tsl M ra rc q xs) (hb : Below wr.heap.size wr u) : RpI W u B nx ck tsl M ra rc q xs := by
  have hB : B < wr.heap.size := Go.block_lt_of_cell h.box.1
  have hz := hb.size
  exact ⟨h.writes.trans (Writes.of_below hb), h.box.below hb, fun i => (World.frozen?_of_block (w := wr) (a := ⟨B, i, none⟩) (hb.block B hB)).trans (h.frz i), h.len, h.qc, h.mb, h.bw, h.hd.below hb, h.ap, fun x hx => ((h.ct x hx).below hb).mono (Nat.le_refl _) hz, h.farB⟩
theorem Writes.mono9 {lo hi lo' hi' : Nat} {w w' : World} (h : Writes lo hi w w') (h1 : lo' ≤ lo) (h2 : hi ≤ hi') : Writes lo' hi' w w' := ⟨h.os, h.tape, h.output, h.size, fun k hk hd => h.block k hk (by omega)⟩
theorem ap_mid {l r : List HRw} {x0 : HRw} (h : ApRw (l ++ x0 :: r)) : (∀ x ∈ l ++ r, x0.h ≤ x.l ∨ x.h ≤ x0.l) ∧ ApRw (l ++ r) :=
  List.pairwise_cons.1 ((List.pairwise_middle (fun {x y} h => h.symm)).1 h)
theorem ap_put {l r : List HRw} {y : HRw} (h : ApRw (l ++ r)) (hy : ∀ x ∈ l ++ r, y.h ≤ x.l ∨ x.h ≤ y.l) : ApRw (l ++ y :: r) :=
  (List.pairwise_middle (fun {x y} h => h.symm)).2 (List.pairwise_cons.2 ⟨hy, h⟩)
theorem mem_mid {l r : List HRw} {x y : HRw} (h : x ∈ l ++ y :: r) : x ∈ l ++ r ∨ x = y := by
  simp only [List.mem_append, List.mem_cons] at h ⊢
  rcases h with h | h | h
  · exact .inl (.inl h)
  · exact .inr h
  · exact .inl (.inr h)
theorem mem_of_mid {l r : List HRw} {x : HRw} (y : HRw) (h : x ∈ l ++ r) : x ∈ l ++ y :: r := by
  simp only [List.mem_append, List.mem_cons] at h ⊢
  rcases h with h | h
  · exact .inl h
  · exact .inr (.inr h)
theorem get_mid {l r : List HRw} {x y x0 : HRw} {i : Nat} (h : (l ++ y :: r)[i]? = some x) : (i = l.length ∧ x = y) ∨ (i ≠ l.length ∧ (l ++ x0 :: r)[i]? = some x) := by
  rcases Nat.lt_trichotomy i l.length with c | c | c
  · right
    rw [List.getElem?_append_left c] at h ⊢
    exact ⟨by omega, h⟩
  · left
    subst c
    rw [List.getElem?_append_right (Nat.le_refl _), Nat.sub_self, List.getElem?_cons_zero, Option.some.injEq] at h
    exact ⟨rfl, h.symm⟩
  · right
    rw [List.getElem?_append_right (by omega)] at h ⊢
    obtain ⟨k, hk⟩ : ∃ k, i - l.length = k + 1 := ⟨i - l.length - 1, by omega⟩
    rw [hk, List.getElem?_cons_succ] at h ⊢
    exact ⟨by omega, h⟩
theorem at_mid (l r : List HRw) (y : HRw) : (l ++ y :: r)[l.length]? = some y := by
  rw [List.getElem?_append_right (Nat.le_refl _), Nat.sub_self, List.getElem?_cons_zero]
theorem split_at {xs : List HRw} {p : Nat} {x0 : HRw} (h : xs[p]? = some x0) : xs = xs.take p ++ x0 :: xs.drop (p + 1) ∧ (xs.take p).length = p := by
  obtain ⟨hlt, e0⟩ := List.getElem?_eq_some_iff.1 h
  exact ⟨by rw [← e0, ← List.drop_eq_getElem_cons hlt, List.take_append_drop], by simp; omega⟩
theorem len_mid (l r : List HRw) (x y : HRw) : (l ++ y :: r).length = (l ++ x :: r).length := by simp
/-- A version of a row's chain, set in place. -/
theorem RpI.setV {W wr : World} {B : Nat} {nx ck : Int} {tsl : Value} {M : Nat} {ra : Option Addr} {rc q : Nat} {l r : List HRw} {x0 : HRw} (h : RpI W wr B nx ck tsl M ra rc q (l ++ x0 :: r)) (hn : 0 < x0.t.n) (v : Vr) :
    ∃ b off, x0.A = some ⟨b, off, none⟩ ∧ b < wr.heap.size ∧ C4 wr b off (x0.t.U 0) ∧ (∀ i, wr.frozen? ⟨b, i, none⟩ = false) ∧ RpI W (set4 wr b off v) B nx ck tsl M ra rc q (l ++ ⟨⟨x0.t.key, x0.t.n, fun i => if i = 0 then v else x0.t.U i⟩, x0.A, x0.c, x0.l, x0.h⟩ :: r) := by
  have hmem : x0 ∈ l ++ x0 :: r := List.mem_of_getElem? (at_mid l r x0)
  have hB : B < wr.heap.size := Go.block_lt_of_cell h.box.1
  obtain ⟨k1, k2, k3⟩ := h.ct x0 hmem
  have hf0 := h.farB x0 hmem
  have hk3 := k3
  obtain ⟨j0, j1 | ⟨b, off, eA, j2, j3, j4⟩⟩ := k3
  · omega
  have hw : Writes b (b + 1) wr (set4 wr b off v) := set4_writes (Writes.refl _ _ _) (Nat.le_refl _) (Nat.lt_succ_self _)
  have hz : (set4 wr b off v).heap.size = wr.heap.size := set4_size
  have hws := h.writes.size
  have hbw := h.bw
  obtain ⟨hap, hap2⟩ := ap_mid h.ap
  refine ⟨b, off, eA, by omega, by have := j4.1 0 hn; simpa using this, j4.2, ?_, ?_, fun i => ?_, by rw [len_mid l r x0]; exact h.len, h.qc, h.mb, h.bw, ?_, ?_, ?_, ?_⟩
  · exact ⟨hw.os.trans h.writes.os, hw.tape.trans h.writes.tape, hw.output.trans h.writes.output, Nat.le_trans hws hw.size, fun k hk hd => (hw.block k (by omega) (by omega)).trans (h.writes.block k hk hd)⟩
  · exact h.box.writes hw (by omega)
  · rw [World.frozen?_of_block (w := wr) (a := ⟨B, i, none⟩) (hw.block B hB (by omega))]; exact h.frz i
  · rcases h.hd with h1 | ⟨g, o2, e, hl, g1, g2, g3, hc⟩
    · simp at h1
    · have hgx := g3 x0 hmem
      have eb : (set4 wr b off v).heap[g]? = wr.heap[g]? := hw.block g hl (by omega)
      refine .inr ⟨g, o2, e, by omega, g1, fun i => (World.frozen?_of_block (w := wr) (a := ⟨g, i, none⟩) eb).trans (g2 i), fun x hx => ?_, fun i x hx => ?_⟩
      · rcases mem_mid hx with hx | rfl
        · exact g3 x (mem_of_mid _ hx)
        · exact hgx
      · rcases get_mid (x0 := x0) hx with ⟨rfl, rfl⟩ | ⟨_, hx⟩
        · exact (hc _ x0 (at_mid l r x0)).block eb
        · exact (hc i x hx).block eb
  · exact ap_put hap2 hap
  · intro x hx
    rcases mem_mid hx with hx2 | rfl
    · obtain ⟨m1, m2, m3⟩ := h.ct x (mem_of_mid _ hx2)
      have := hap x hx2
      exact ⟨by rw [hz]; exact m1, m2, m3.writes hw (by omega)⟩
    · refine ⟨by rw [hz]; exact k1, k2, by rw [hz]; exact j0, .inr ⟨b, off, eA, j2, j3, ?_⟩⟩
      have := row4_set (r := v) hn j4
      rw [Nat.zero_mul, Nat.add_zero] at this
      exact this
  · intro x hx
    rcases mem_mid hx with hx | rfl
    · exact h.farB x (mem_of_mid _ hx)
    · exact hf0
/-- A row's chain put anew: its header set in place. -/
theorem RpI.setH {W wr u : World} {B : Nat} {nx ck : Int} {tsl : Value} {M : Nat} {ra : Option Addr} {rc q : Nat} {l r : List HRw} {x0 : HRw} (h : RpI W wr B nx ck tsl M ra rc q (l ++ x0 :: r)) (hb : Below wr.heap.size wr u) (A : Option Addr) (c lo hi n : Nat) (U : Nat → Vr) (hlo : wr.heap.size ≤ lo) (hhi : hi ≤ u.heap.size) (hn : n ≤ c) (ho : Own4 u lo hi A n U) :
    ∃ g off, ra = some ⟨g, off, none⟩ ∧ g < wr.heap.size ∧ CRw wr g (off + l.length * 2) x0.t x0.A x0.c ∧ (∀ i, wr.frozen? ⟨g, i, none⟩ = false) ∧ RpI W (u.setCell ⟨g, off + l.length * 2 + 1, none⟩ (.slice A n c)) B nx ck tsl M ra rc q (l ++ ⟨⟨x0.t.key, n, U⟩, A, c, lo, hi⟩ :: r) := by
  have hmem : x0 ∈ l ++ x0 :: r := List.mem_of_getElem? (at_mid l r x0)
  have hB : B < wr.heap.size := Go.block_lt_of_cell h.box.1
  have hws := h.writes.size
  have hbw := h.bw
  have hsz := hb.size
  have h2 := h.below hb
  obtain ⟨hap, hap2⟩ := ap_mid h.ap
  rcases h.hd with h1 | ⟨g, off, e, hl, g1, g2, g3, hc⟩
  · simp at h1
  have hgB : g ≠ B := by omega
  have hw : Writes g (g + 1) u (u.setCell ⟨g, off + l.length * 2 + 1, none⟩ (.slice A n c)) := Writes.setCell (Writes.refl _ _ _) (p := ⟨g, _, none⟩) (Nat.le_refl _) (Nat.lt_succ_self _) _
  have hz : (u.setCell ⟨g, off + l.length * 2 + 1, none⟩ (.slice A n c)).heap.size = u.heap.size := by simp [World.setCell]
  refine ⟨g, off, e, hl, hc _ x0 (at_mid l r x0), g2, ?_, ?_, fun i => ?_, by rw [len_mid l r x0]; exact h.len, h.qc, h.mb, h.bw, ?_, ?_, ?_, ?_⟩
  · exact ⟨hw.os.trans h2.writes.os, hw.tape.trans h2.writes.tape, hw.output.trans h2.writes.output, Nat.le_trans h2.writes.size hw.size, fun k hk hd => (hw.block k (by omega) (by omega)).trans (h2.writes.block k hk hd)⟩
  · exact h2.box.writes hw (by omega)
  · rw [World.frozen?_setCell]; exact h2.frz i
  · refine .inr ⟨g, off, e, by omega, g1, fun i => by rw [World.frozen?_setCell, World.frozen?_of_block (w := wr) (a := ⟨g, i, none⟩) (hb.block g hl)]; exact g2 i, fun x hx => ?_, fun i x hx => ?_⟩
    · rcases mem_mid hx with hx | rfl
      · exact g3 x (mem_of_mid _ hx)
      · left
        show g < lo
        omega
    · rcases get_mid (x0 := x0) hx with ⟨rfl, rfl⟩ | ⟨hne, hx⟩
      · obtain ⟨q0, q1⟩ := (hc _ x0 (at_mid l r x0)).block (hb.block g hl)
        exact ⟨(setO (by omega)).trans q0, World.cell?_setCell_same _ _ _ q1⟩
      · obtain ⟨q0, q1⟩ := (hc i x hx).block (hb.block g hl)
        exact ⟨(setO (by omega)).trans q0, (setO (by omega)).trans q1⟩
  · refine ap_put hap2 fun x hx => ?_
    have := (h.ct x (mem_of_mid _ hx)).1
    show hi ≤ x.l ∨ x.h ≤ lo
    omega
  · intro x hx
    rcases mem_mid hx with hx2 | rfl
    · obtain ⟨m1, m2, m3⟩ := h2.ct x (mem_of_mid _ hx2)
      have := g3 x (mem_of_mid _ hx2)
      exact ⟨by rw [hz]; exact m1, m2, m3.writes hw (by omega)⟩
    · refine ⟨.inr ⟨?_, by rw [hz]; exact hhi⟩, hn, ho.writes hw (by show hi ≤ g ∨ g + 1 ≤ lo; omega)⟩
      have := h.mb
      show M ≤ lo
      omega
  · intro x hx
    rcases mem_mid hx with hx | rfl
    · exact h.farB x (mem_of_mid _ hx)
    · right
      show W.heap.size ≤ lo
      omega
/-- The rows without one, joined anew. -/
theorem RpI.del {W wr u : World} {B : Nat} {nx ck : Int} {tsl : Value} {M : Nat} {ra ra2 : Option Addr} {rc q rc2 q2 : Nat} {l r : List HRw} {x0 : HRw} (h : RpI W wr B nx ck tsl M ra rc q (l ++ x0 :: r)) (hb : Below wr.heap.size wr u) (hq : (l ++ r).length = q2) (ho : u.ownsRow wr.heap.size 87 2 (.slice ra2 q2 rc2) q2 (hbRw (l ++ r))) :
    RpI W (u.setCell ⟨B, 3, none⟩ (.slice ra2 q2 rc2)) B nx ck tsl M ra2 rc2 q2 (l ++ r) := by
  have hB : B < wr.heap.size := Go.block_lt_of_cell h.box.1
  have hws := h.writes.size
  have hbw := h.bw
  have hmb := h.mb
  have hsz := hb.size
  have h2 := h.below hb
  have hw : Writes B (B + 1) u (u.setCell ⟨B, 3, none⟩ (.slice ra2 q2 rc2)) := Writes.setCell (Writes.refl _ _ _) (p := ⟨B, 3, none⟩) (Nat.le_refl _) (Nat.lt_succ_self _) _
  have hz : (u.setCell ⟨B, 3, none⟩ (.slice ra2 q2 rc2)).heap.size = u.heap.size := by simp [World.setCell]
  obtain ⟨b0, b1, b2, b3⟩ := h2.box
  obtain ⟨a9, c9, e9, hqc, hat⟩ := HAtRw.of_row hq ho
  injection e9 with ea _ ec
  subst ea ec
  refine ⟨h2.writes.trans (hw.mono9 (by omega) (Nat.le_refl _)), ⟨(setO (by omega)).trans b0, (setO (by omega)).trans b1, (setO (by omega)).trans b2, World.cell?_setCell_same _ _ _ b3⟩, fun i => by rw [World.frozen?_setCell]; exact h2.frz i, hq, hqc, h.mb, h.bw, ?_, (ap_mid h.ap).2, ?_, ?_⟩
  · rcases hat with h1 | ⟨g, off, e, hl, hc⟩
    · exact .inl h1
    · subst e
      obtain rfl : off = 0 := by
        rcases ho.2 with ⟨e9, _⟩ | ⟨g2, c2, cu, e9, _⟩
        · cases e9
        · injection e9 with e9
          injection e9 with e9
          injection e9
      have hg := ho.lt g rfl
      have hgB : g ≠ B := by omega
      have e2 : (u.setCell ⟨B, 3, none⟩ (.slice (some ⟨g, 0, none⟩) q2 rc2)).heap[g]? = u.heap[g]? := hw.block g hl (by omega)
      refine .inr ⟨g, 0, rfl, by omega, .inr (by omega), fun i => ?_, fun x hx => ?_, fun i x hx => (hc i x hx).block e2⟩
      · rw [World.frozen?_setCell]
        exact ho.frozenAt _
      · have := (h.ct x (mem_of_mid _ hx)).1
        omega
  · intro x hx
    obtain ⟨m1, m2, m3⟩ := h2.ct x (mem_of_mid _ hx)
    have hf := h.farB x (mem_of_mid _ hx)
    have := (h.ct x (mem_of_mid _ hx)).1
    exact ⟨by rw [hz]; exact m1, m2, m3.writes hw (by omega)⟩
  · intro x hx
    exact h.farB x (mem_of_mid _ hx)
end Go.Proofs.YtabkgncnanlapaaGreat
