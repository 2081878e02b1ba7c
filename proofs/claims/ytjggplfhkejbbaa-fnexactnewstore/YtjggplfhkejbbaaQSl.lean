/- spec.l3Pack: what is kept while rows are appended. -/
import Derived.Test.YtjggplfhkejbbaaQPr
namespace Go.Proofs.Ytjggplfhkejbbaa
open Go.RowKit Go.Deep
set_option linter.unusedVariables false
set_option maxRecDepth 20000

/-- A row that grows, over a box, and fresh rows of bytes that wait to be appended. -/
structure L3 (w wB W : World) (v : Value) (xs : List Int) (n : Nat) (P : List (Nat × List Int)) : Prop where
  below : Below (w.heap.size + 1) wB W
  hsz : w.heap.size + 1 ≤ W.heap.size
  own : W.ownsRow (w.heap.size + 1) 5 1 v n (bl xs)
  pend : ∀ p ∈ P, p.1 < W.heap.size ∧ v.ownBlock ≠ some p.1 ∧ ∀ j u, (bl p.2)[j]? = some u → W.cell? ((⟨p.1, 0, none⟩ : Addr).add j) = some u
theorem L3.drew {w wB W : World} {v : Value} {xs : List Int} {n : Nat} {P : List (Nat × List Int)} (h : L3 w wB W v xs n P) : L3 w wB W.drew v xs n P := ⟨h.below.drew, h.hsz, h.own, h.pend⟩
theorem L3.call {w wB W W' : World} {v : Value} {xs ys : List Int} {n g cq : Nat} {P : List (Nat × List Int)} (h : L3 w wB W v xs n P) (hb : Below W.heap.size W W') (hq : W'.ownsRow W.heap.size 5 1 (.slice (some ⟨g, 0, none⟩) ys.length cq) ys.length (bl ys)) (hg : W.heap.size ≤ g ∧ g < W'.heap.size) : L3 w wB W' v xs n ((g, ys) :: P) := by
  refine ⟨h.below.trans (hb.mono h.hsz), Nat.le_trans h.hsz hb.size, rowB_below h.own hb, fun p hp => ?_⟩
  rcases List.mem_cons.1 hp with rfl | hp
  · exact ⟨hg.2, fun e => by have := (h.own.lt _ e).2; omega, newsB hq⟩
  · obtain ⟨h1, h2, h3⟩ := h.pend p hp
    refine ⟨Nat.lt_of_lt_of_le h1 hb.size, h2, fun j u hj => ?_⟩
    have h4 := h3 j u hj
    rw [WideShapes.add_plain] at h4 ⊢
    exact cell_below h4 hb
theorem L3.app {w wB W W' : World} {v : Value} {xs ys : List Int} {n g' cap' m : Nat} {P : List (Nat × List Int)} (h : L3 w wB W v xs n P) (ho : W'.ownsRow (w.heap.size + 1) 5 1 (.slice (some ⟨g', 0, none⟩) (n + m) cap') (n + m) (bl xs ++ bl ys)) (hg : W.grownBy W' v.ownBlock) (hat : v.ownBlock = some g' ∨ g' = W.heap.size) :
    L3 w wB W' (.slice (some ⟨g', 0, none⟩) (n + m) cap') (xs ++ ys) (n + m) P := by
  refine ⟨h.below.grown hg h.hsz fun q hq => (h.own.lt q hq).1, Nat.le_trans h.hsz hg.size, by rw [bl_app]; exact ho, fun p hp => ?_⟩
  obtain ⟨h1, h2, h3⟩ := h.pend p hp
  have hblk := hg.block p.1 h1 (fun e => h2 e.symm)
  refine ⟨Nat.lt_of_lt_of_le h1 hg.size, ?_, fun j u hj => ?_⟩
  · rcases hat with e | e
    · intro e2
      exact h2 (e.trans e2)
    · intro e2
      simp only [Value.ownBlock, Option.some.injEq] at e2
      omega
  · have h4 := h3 j u hj
    rw [WideShapes.add_plain] at h4 ⊢
    exact (World.cell?_of_block (w := W) (a := ⟨p.1, _, none⟩) hblk).trans h4
theorem L3.stepApp {ops : Array Oper} {o : Oper} {a : Act} {K : Act → World → Prop} {Q : Exit → Act → World → Prop} {E : Prop} {w wB W : World} {v : Value} {xs : List Int} {n : Nat} {P : List (Nat × List Int)} (h : L3 w wB W v xs n P) (hgd : o.guard = none) (s x : Operand)
    (ho : o.op = .call { callee := .builtin .append, args := #[s, x], argTypes := #[27, 27] }) (hs : a.eval s = v) (g c : Nat) (ys : List Int) (hx : a.eval x = .slice (some ⟨g, 0, none⟩) 2 c) (hl : ys.length = 2) (hp : (g, ys) ∈ P) (hn : n ≤ 20)
    (hk : ∀ g' cap' W', L3 w wB W' (.slice (some ⟨g', 0, none⟩) (n + 2) cap') (xs ++ ys) (n + 2) P → K (a.put o.dst (.slice (some ⟨g', 0, none⟩) (n + 2) cap')) W') :
    if Region.wanted o (yielded ops a.tmps) = true then Oper.wp Try.prog o a W K Q else E := by
  obtain ⟨i0, hi, hz0, hz1, hz2⟩ := info_parts info5
  refine step_append_lies (P := Try.prog) W hgd s x 27 ho (w.heap.size + 1) 5 i0 (.int .u8 0) 1 1 Try.underlying27 hi hz0 hz1 hz2 rfl (by decide) v n (bl xs) hs h.own ⟨g, 0, none⟩ 2 c (bl ys) hx (by rw [bl_len, hl]) (h.pend _ hp).2.2 (bl_one _) (by decide) (by unfold maxLen; omega) (by omega) h.hsz _ rfl ?_
  intro g' cap' W' h1 h2 h3 h4
  exact hk g' cap' W' (h.app h1 h2 h3)
theorem L3.news {w wB W : World} {v : Value} {xs ys : List Int} {n g : Nat} {P : List (Nat × List Int)} (h : L3 w wB W v xs n P) (hp : (g, ys) ∈ P) : ∀ j u, (bl ys)[j]? = some u → W.cell? ((⟨g, 0, none⟩ : Addr).add j) = some u := (h.pend _ hp).2.2
theorem L3.cell {w wB W : World} {v x : Value} {xs : List Int} {n i : Nat} {P : List (Nat × List Int)} (h : L3 w wB W v xs n P) (hx : wB.cell? ⟨w.heap.size, i, none⟩ = some x) : W.cell? ⟨w.heap.size, i, none⟩ = some x :=
  (h.below.cell (p := ⟨w.heap.size, i, none⟩) (by show w.heap.size < w.heap.size + 1; omega)).trans hx
theorem two_u8 (x y : Int) : ∀ u ∈ [Value.int .u8 x, Value.int .u8 y], u.oneCell' = true := by intro u hu; simp at hu; rcases hu with rfl | rfl <;> rfl
theorem cell_two_newB (w : World) (a b : Value) (t : TypeId) : ∀ j u, [a, b][j]? = some u → (w.alloc (.cells #[a, b] t)).cell? ((⟨w.heap.size, 0, none⟩ : Addr).add j) = some u := by
  intro j u hj
  rw [WideShapes.add_plain]
  rcases j with _ | _ | j
  · simp at hj; subst hj; simp
  · simp at hj; subst hj; simp
  · simp at hj
theorem nb_bl (x : Int) (s : Nat) : (bl (nb x s)).length = s := by rw [bl_len, nb_len]
theorem le_mx {n : Nat} (h : n ≤ 20) : n + 2 ≤ maxLen := by unfold maxLen; omega
theorem le_bx {n : Nat} (h : n ≤ 20) : (n + 2) * 1 ≤ 140737488355328 := by omega
end Go.Proofs.Ytjggplfhkejbbaa
