/- spec.l1Pack: the walk. -/
import Derived.Test.YtldnfiadafmomaaPk
namespace Go.Proofs.Ytldnfiadafmomaa
open Go.RowKit Go.Deep
set_option linter.unusedVariables false
set_option maxRecDepth 20000

theorem step_appB {ops : Array Oper} {o : Oper} {a : Act} {K : Act → World → Prop} {Q : Exit → Act → World → Prop} {E : Prop} (w : World) (hgd : o.guard = none) (s x : Operand)
    (ho : o.op = .call { callee := .builtin .append, args := #[s, x], argTypes := #[55, 55] })
    (base : Nat) (v : Value) (n : Nat) (xs : List Value) (hs : a.eval s = v) (hown : w.ownsRow base 5 1 v n xs)
    (ad : Addr) (m c : Nat) (news : List Value) (hx : a.eval x = .slice (some ad) m c) (hl : news.length = m) (hnews : ∀ j u, news[j]? = some u → w.cell? (ad.add j) = some u) (h1 : ∀ u ∈ news, u.oneCell' = true)
    (h63 : n + m ≤ 100000) (hbase : base ≤ w.heap.size)
    (h : ∀ v' w', w'.ownsRow base 5 1 v' (n + m) (xs ++ news) → w.grownBy w' v.ownBlock → K (a.put o.dst v') w') :
    if Region.wanted o (yielded ops a.tmps) = true then Oper.wp Try.prog o a w K Q else E := by
  have hw : Region.wanted o (yielded ops a.tmps) = true := by simp [Region.wanted, hgd]
  rw [if_pos hw]
  obtain ⟨i0, hi, hz0, hz1, hz2⟩ := info_parts info5
  exact wp_append_own w s x 55 ho base 5 i0 _ 1 1 Try.underlying55 hi hz0 hz1 hz2 rfl (by decide) v n xs hs hown ad m c news hx (by omega) hnews h1 (by unfold maxLen; omega) (by omega) hbase fun v' w' h2 h3 _ => h v' w' h2 h3
theorem formB {w : World} {base n : Nat} {v : Value} {xs : List Value} (h : w.ownsRow base 5 1 v n xs) (hne : v ≠ .slice none 0 0) : ∃ g cap, v = .slice (some ⟨g, 0, none⟩) n cap ∧ base ≤ g ∧ g < w.heap.size := by
  rcases h.2 with ⟨rfl, h0⟩ | ⟨g, cap, cur, rfl, hb, hg, _⟩
  · exact absurd rfl hne
  · exact ⟨g, cap, rfl, hb, by obtain ⟨hlt, _⟩ := Array.getElem?_eq_some_iff.1 hg; exact hlt⟩
theorem keepB {w W : World} {o o2 : Obj} (h : Below (w.heap.size + 1) (w.alloc o) W.drew) : Below (w.heap.size + 1) (w.alloc o) (W.alloc o2).drew :=
  (Below.alloc (w := W) ⟨h.os, h.tape, h.output, h.size, h.block⟩ (by have := h.size; rw [World.size_alloc] at this; exact this) o2).drew
theorem keepB' {w W : World} {o o2 : Obj} (h : Below (w.heap.size + 1) (w.alloc o) W) : Below (w.heap.size + 1) (w.alloc o) (W.alloc o2) :=
  h.alloc (by have := h.size; rw [World.size_alloc] at this; exact this) o2
theorem hszB {w W : World} {o : Obj} (h : Below (w.heap.size + 1) (w.alloc o) W) : w.heap.size + 1 ≤ W.heap.size := by have := h.size; rw [World.size_alloc] at this; exact this
theorem belB {w W wq : World} {o : Obj} (h : Below (w.heap.size + 1) (w.alloc o) W) (hq : Below W.heap.size W wq) : Below (w.heap.size + 1) (w.alloc o) wq := h.trans (hq.mono (hszB h))
theorem grB {w W wa : World} {o : Obj} {v : Value} {n : Nat} {xs : List Value} (h : Below (w.heap.size + 1) (w.alloc o) W) (ho : W.ownsRow (w.heap.size + 1) 5 1 v n xs) (hg : W.grownBy wa v.ownBlock) : Below (w.heap.size + 1) (w.alloc o) wa :=
  h.grown hg (hszB h) fun q hq => (ho.lt q hq).1
theorem rowB_below {W wq : World} {B n : Nat} {v : Value} {xs : List Value} (h : W.ownsRow B 5 1 v n xs) (hb : Below W.heap.size W wq) : wq.ownsRow B 5 1 v n xs := by
  refine ⟨h.1, ?_⟩
  rcases h.2 with h2 | ⟨g, cap, cur, hv, hbg, hg, r⟩
  · exact .inl h2
  · have hlt : g < W.heap.size := by obtain ⟨hlt, _⟩ := Array.getElem?_eq_some_iff.1 hg; exact hlt
    exact .inr ⟨g, cap, cur, hv, hbg, (hb.block g hlt).trans hg, r⟩
theorem own8a (w : World) (o : Obj) (x : Value) : ((w.alloc o).alloc (.cells #[x] 5)).drew.ownsRow (w.heap.size + 1) 5 1 (.slice (some ⟨w.heap.size + 1, 0, none⟩) 1 1) 1 [x] := by
  have h := World.ownsRow_lit (base := w.heap.size + 1) (size := 1) (e := 5) (w.alloc o) #[x] 1 (by simp) (by unfold maxLen; omega) rfl
  rw [World.size_alloc] at h
  exact h
theorem own8b {B : Nat} {w : World} {x : Value} (hB : B ≤ w.heap.size) : (w.alloc (.cells #[x] 5)).ownsRow B 5 1 (.slice (some ⟨w.heap.size, 0, none⟩) 1 1) 1 [x] := World.ownsRow_lit w #[x] 1 hB (by unfold maxLen; omega) rfl
theorem newsB {W : World} {B n g cap : Nat} {xs : List Value} (h : W.ownsRow B 5 1 (.slice (some ⟨g, 0, none⟩) n cap) n xs) : ∀ j u, xs[j]? = some u → W.cell? ((⟨g, 0, none⟩ : Addr).add j) = some u := h.cells rfl
theorem newsB_alloc {W : World} {B n g cap : Nat} {xs : List Value} {o : Obj} (h : W.ownsRow B 5 1 (.slice (some ⟨g, 0, none⟩) n cap) n xs) : ∀ j u, xs[j]? = some u → (W.alloc o).cell? ((⟨g, 0, none⟩ : Addr).add j) = some u := (h.alloc o).cells rfl
theorem cellsq2 {w W wq : World} {o : Obj} {B i j : Nat} {x y : Value} (h : Below (w.heap.size + 1) (w.alloc o) W ∧ W.cell? ⟨B, i, none⟩ = some x ∧ W.cell? ⟨B, j, none⟩ = some y) (hq : Below W.heap.size W wq) :
    Below (w.heap.size + 1) (w.alloc o) wq ∧ wq.cell? ⟨B, i, none⟩ = some x ∧ wq.cell? ⟨B, j, none⟩ = some y := ⟨belB h.1 hq, cell_below h.2.1 hq, cell_below h.2.2 hq⟩
theorem cellsg {w W wa : World} {o : Obj} {i j : Nat} {x y v : Value} {n : Nat} {xs : List Value} (h : Below (w.heap.size + 1) (w.alloc o) W ∧ W.cell? ⟨w.heap.size, i, none⟩ = some x ∧ W.cell? ⟨w.heap.size, j, none⟩ = some y) (ho : W.ownsRow (w.heap.size + 1) 5 1 v n xs) (hg : W.grownBy wa v.ownBlock) :
    Below (w.heap.size + 1) (w.alloc o) wa ∧ wa.cell? ⟨w.heap.size, i, none⟩ = some x ∧ wa.cell? ⟨w.heap.size, j, none⟩ = some y := by
  have hb := hg.block w.heap.size (by have := hszB h.1; omega) (fun e => by have := (ho.lt _ e.symm).1; omega)
  exact ⟨grB h.1 ho hg, (World.cell?_of_block (w := W) (a := ⟨w.heap.size, i, none⟩) hb).trans h.2.1, (World.cell?_of_block (w := W) (a := ⟨w.heap.size, j, none⟩) hb).trans h.2.2⟩
theorem rowB_down {w : World} {B B' : Nat} {v : Value} {n : Nat} {xs : List Value} (h : w.ownsRow B 5 1 v n xs) (hb : B' ≤ B) : w.ownsRow B' 5 1 v n xs := by
  refine ⟨h.1, ?_⟩
  rcases h.2 with h2 | ⟨g, cap, cur, hv, hg, r⟩
  · exact .inl h2
  · exact .inr ⟨g, cap, cur, hv, by omega, r⟩
theorem cellsq3 {w W wq : World} {o : Obj} {A B C i j l : Nat} {x y z : Value} (h : Below (w.heap.size + 1) (w.alloc o) W ∧ W.cell? ⟨A, i, none⟩ = some x ∧ W.cell? ⟨B, j, none⟩ = some y ∧ W.cell? ⟨C, l, none⟩ = some z) (hq : Below W.heap.size W wq) :
    Below (w.heap.size + 1) (w.alloc o) wq ∧ wq.cell? ⟨A, i, none⟩ = some x ∧ wq.cell? ⟨B, j, none⟩ = some y ∧ wq.cell? ⟨C, l, none⟩ = some z := ⟨belB h.1 hq, cell_below h.2.1 hq, cell_below h.2.2.1 hq, cell_below h.2.2.2 hq⟩
theorem cellsg3 {w W wa : World} {o : Obj} {b i j l : Nat} {x y z v : Value} {n : Nat} {xs : List Value} (hbb : b < w.heap.size) (h : Below (w.heap.size + 1) (w.alloc o) W ∧ W.cell? ⟨w.heap.size, i, none⟩ = some x ∧ W.cell? ⟨b, j, none⟩ = some y ∧ W.cell? ⟨b, l, none⟩ = some z) (ho : W.ownsRow (w.heap.size + 1) 5 1 v n xs) (hg : W.grownBy wa v.ownBlock) :
    Below (w.heap.size + 1) (w.alloc o) wa ∧ wa.cell? ⟨w.heap.size, i, none⟩ = some x ∧ wa.cell? ⟨b, j, none⟩ = some y ∧ wa.cell? ⟨b, l, none⟩ = some z := by
  have hb := hg.block w.heap.size (by have := hszB h.1; omega) (fun e => by have := (ho.lt _ e.symm).1; omega)
  have hc := hg.block b (by have := hszB h.1; omega) (fun e => by have := (ho.lt _ e.symm).1; omega)
  exact ⟨grB h.1 ho hg, (World.cell?_of_block (w := W) (a := ⟨w.heap.size, i, none⟩) hb).trans h.2.1, (World.cell?_of_block (w := W) (a := ⟨b, j, none⟩) hc).trans h.2.2.1, (World.cell?_of_block (w := W) (a := ⟨b, l, none⟩) hc).trans h.2.2.2⟩
theorem newsOne {wr wq : World} {x : Value} (hbq : Below (wr.alloc (.cells #[x] 5)).drew.heap.size (wr.alloc (.cells #[x] 5)).drew wq) : ∀ j u, [x][j]? = some u → wq.cell? ((⟨wr.heap.size, 0, none⟩ : Addr).add j) = some u := by
  intro j u hj
  have h := cell_one_new wr x 5 j u hj
  rw [WideShapes.add_plain] at h ⊢
  exact cell_below (w := (wr.alloc (.cells #[x] 5)).drew) h hbq
/-- The bytes of the call's answer are still there behind an append to an earlier row. -/
theorem keptQ {wr W wa : World} {B Bq n nq gq cq : Nat} {v : Value} {xs ys : List Value} (ho : wr.ownsRow B 5 1 v n xs) (hq : W.ownsRow Bq 5 1 (.slice (some ⟨gq, 0, none⟩) nq cq) nq ys) (hgq : Bq ≤ gq) (hB : wr.heap.size ≤ Bq) (hg : W.grownBy wa v.ownBlock) : wa.ownsRow Bq 5 1 (.slice (some ⟨gq, 0, none⟩) nq cq) nq ys := by
  refine hq.kept hg (.inr fun e => ?_)
  have := (ho.lt gq (by rw [← e]; rfl)).2
  omega
theorem nb_bl4 (x : Int) : (bl (nb x 4)).length = 4 := by rw [bl_len, nb_len]
theorem nb_bl2 (x : Int) : (bl (nb x 2)).length = 2 := by rw [bl_len, nb_len]
theorem byt_small {x : Int} (h0 : 0 ≤ x) (h1 : x ≤ 255) : nb x 1 = [x] := by simp only [nb, byt]; congr 1; simp; omega

end Go.Proofs.Ytldnfiadafmomaa
