/- Trees copied, both sides. -/
import Derived.Test.YtbnehgpefjbheaaTca
namespace Go.Proofs.Ytbnehgpefjbheaa
open Go.RowKit Go.Deep
set_option linter.unusedVariables false
set_option maxRecDepth 20000

theorem run_bs0 (w : World) : (Instr.buildSlice 39 0 #[]).run Try.prog w = .ok (.slice (some ⟨w.heap.size, 0, none⟩) 0 0) (w.alloc (.cells #[] 2)) := by
  obtain ⟨i0, hi, hz0, hz1, hz2⟩ := info_partsN info2
  simp [Instr.buildSlice, Sem.run_bind, run_underlying Try.underlying39, sizeOf, typeInfo, hi, Instr.fill, newRow, show Array.range 0 = #[] from rfl]
theorem step_bs0 {ops : Array Oper} {o : Oper} {a : Act} {K : Act → World → Prop} {Q : Exit → Act → World → Prop} {E : Prop} (w : World) (d : Option Tmp) (hd : o.dst = d) (hgd : o.guard = none) (ho : o.op = .buildSlice 39 0 #[])
    (h : ∀ p w', Below w.heap.size w w' → K (a.put d (.slice (some ⟨p, 0, none⟩) 0 0)) w') : if Region.wanted o (yielded ops a.tmps) = true then Oper.wp Try.prog o a w K Q else E := by
  have hw : Region.wanted o (yielded ops a.tmps) = true := by simp [Region.wanted, hgd]
  rw [if_pos hw]
  subst hd
  unfold Oper.wp execOp
  simp only [ho, List.map_toArray, List.map_nil, run_bs0 w, Sem.run_bind, Sem.run_pure, Result.andThen_ok]
  exact h _ _ (below_new _ _)
theorem run_bsNd (w : World) (lf : Bool) (a1 a2 : Option Addr) (n1 c1 n2 c2 : Nat) : (Instr.buildSlice 27 1 #[(0, .agg #[.bool lf, .slice a1 n1 c1, .slice a2 n2 c2])]).run Try.prog w = .ok (.slice (some ⟨w.heap.size, 0, none⟩) 1 1) (w.alloc (.cells #[.bool lf, .slice a1 n1 c1, .slice a2 n2 c2] 63)) := by
  obtain ⟨i0, hi, hz0, hz1, hz2⟩ := info_partsN infoNd
  simp [Instr.buildSlice, Sem.run_bind, run_underlying Try.underlying27, sizeOf, typeInfo, hi, hz1, zeroValue, hz0, Instr.fill, Value.cells, newRow, show Array.range 3 = #[0, 1, 2] from rfl]
theorem step_bsNd {ops : Array Oper} {o : Oper} {a : Act} {K : Act → World → Prop} {Q : Exit → Act → World → Prop} {E : Prop} (w : World) (d : Option Tmp) (hd : o.dst = d) (hgd : o.guard = none) (x : Operand) (ho : o.op = .buildSlice 27 1 #[(0, x)])
    (t : Nd) (ai : PA) (hx : a.eval x = .agg #[.bool t.lf, .slice ai.1 t.kn ai.2.1, .slice ai.2.2.1 t.dn ai.2.2.2])
    (h : ∀ X w', CNd w' X 0 t ai.1 ai.2.1 ai.2.2.1 ai.2.2.2 → Below w.heap.size w w' → K (a.put d (.slice (some ⟨X, 0, none⟩) 1 1)) w') : if Region.wanted o (yielded ops a.tmps) = true then Oper.wp Try.prog o a w K Q else E := by
  have hw : Region.wanted o (yielded ops a.tmps) = true := by simp [Region.wanted, hgd]
  rw [if_pos hw]
  subst hd
  unfold Oper.wp execOp
  simp only [ho, hx, List.map_toArray, List.map_cons, List.map_nil, run_bsNd w t.lf _ _ _ _ _ _, Sem.run_bind, Sem.run_pure, Result.andThen_ok]
  exact h _ _ ⟨by simp [go_sem], by simp [go_sem], by simp [go_sem]⟩ (below_new _ _)
theorem infoIs : (Try.prog.info? 39).map (fun i => (i.zero, i.size, i.bytes)) = some (some (.slice none 0 0), 1, 24) := by kernel_rfl
theorem run_bsI (w : World) (a : Option Addr) (n c : Nat) : (Instr.buildSlice 102 1 #[(0, .slice a n c)]).run Try.prog w = .ok (.slice (some ⟨w.heap.size, 0, none⟩) 1 1) (w.alloc (.cells #[.slice a n c] 39)) := by
  obtain ⟨i0, hi, hz0, hz1, hz2⟩ := info_partsN infoIs
  simp [Instr.buildSlice, Sem.run_bind, run_underlying Try.underlying102, sizeOf, typeInfo, hi, hz1, zeroValue, hz0, Instr.fill, Value.cells, newRow, show Array.range 1 = #[0] from rfl]
theorem step_bsI {ops : Array Oper} {o : Oper} {a : Act} {K : Act → World → Prop} {Q : Exit → Act → World → Prop} {E : Prop} (w : World) (d : Option Tmp) (hd : o.dst = d) (hgd : o.guard = none) (x : Operand) (ho : o.op = .buildSlice 102 1 #[(0, x)])
    (ad : Option Addr) (n c : Nat) (hx : a.eval x = .slice ad n c)
    (h : ∀ X w', w'.cell? ⟨X, 0, none⟩ = some (.slice ad n c) → Below w.heap.size w w' → K (a.put d (.slice (some ⟨X, 0, none⟩) 1 1)) w') : if Region.wanted o (yielded ops a.tmps) = true then Oper.wp Try.prog o a w K Q else E := by
  have hw : Region.wanted o (yielded ops a.tmps) = true := by simp [Region.wanted, hgd]
  rw [if_pos hw]
  subst hd
  unfold Oper.wp execOp
  simp only [ho, hx, List.map_toArray, List.map_cons, List.map_nil, run_bsI w ad n c, Sem.run_bind, Sem.run_pure, Result.andThen_ok]
  exact h _ _ (by simp [go_sem]) (below_new _ _)
theorem grown_top {w w' : World} {r : Option Nat} {M top : Nat} (hg : w.grownBy w' r) (h : ∀ q, r = some q → M ≤ q ∧ q < top) : Writes M top w w' :=
  ⟨hg.os, hg.tape, hg.output, hg.size, fun k hk hd => hg.block k hk fun e => by have := h k e.symm; omega⟩
theorem GrNd.blk {base top : Nat} {w : World} {v : Value} {k : Nat} {T : Nat → Nd} (h : GrNd base top w v k T) : ∀ q, v.ownBlock = some q → base ≤ q ∧ q < top := by
  obtain ⟨h0, A, l, h, ho, hv, hj, hc⟩ := h
  exact fun q hq => ⟨(ho.lt q hq).1, hv q hq⟩
/-- A copy of a tree under way: the argument's box tb, the answer's rb, the copy's ob; what is copied lies from M on. -/
structure CpT (w wr : World) (tb rb ob M : Nat) (a : Option Addr) (n cap : Nat) (root : Int) (v : Value) : Prop where
  below : Below w.heap.size w wr
  hM : ob < M
  hob : rb < ob
  htb : tb < rb
  hrb : w.heap.size ≤ rb
  hsz : M ≤ wr.heap.size
  t : Box2 wr tb (.int .i64 root) (.slice a n cap)
  r : Box2 wr rb (.int .i64 0) (.slice none 0 0)
  rf : ∀ o, wr.frozen? ⟨rb, o, none⟩ = false
  b : Box2 wr ob (.int .i64 root) v
  bf : ∀ o, wr.frozen? ⟨ob, o, none⟩ = false
theorem CpT.far {w wr w2 : World} {tb rb ob M lo hi : Nat} {a : Option Addr} {n cap : Nat} {root : Int} {v : Value} (h : CpT w wr tb rb ob M a n cap root v) (hw : Writes lo hi wr w2) (hlo : M ≤ lo) : CpT w w2 tb rb ob M a n cap root v := by
  have hs := h.hsz
  have h1 := h.hM
  have h2 := h.hob
  have h3 := h.htb
  have h4 := h.hrb
  have f : ∀ b o, b < M → w2.frozen? ⟨b, o, none⟩ = wr.frozen? ⟨b, o, none⟩ := fun b o hb => World.frozen?_of_block (w := wr) (a := ⟨b, o, none⟩) (hw.block b (by omega) (by omega))
  exact ⟨Writes.below h.below hw (by omega), h1, h2, h3, h4, Nat.le_trans hs hw.size, h.t.writes hw (by omega), h.r.writes hw (by omega), fun o => (f _ _ (by omega)).trans (h.rf o), h.b.writes hw (by omega), fun o => (f _ _ (by omega)).trans (h.bf o)⟩
theorem CpT.mono {w wr w2 : World} {tb rb ob M : Nat} {a : Option Addr} {n cap : Nat} {root : Int} {v : Value} (h : CpT w wr tb rb ob M a n cap root v) (hb : Below wr.heap.size wr w2) : CpT w w2 tb rb ob M a n cap root v :=
  h.far (Writes.of_below (lo := wr.heap.size) (hi := wr.heap.size) hb) h.hsz
theorem CpT.set {w wr : World} {tb rb ob M : Nat} {a : Option Addr} {n cap : Nat} {root : Int} {v : Value} (h : CpT w wr tb rb ob M a n cap root v) (v2 : Value) : CpT w (wr.setCell ⟨ob, 1, none⟩ v2) tb rb ob M a n cap root v2 := by
  have hs := h.hsz
  have h1 := h.hM
  have h2 := h.hob
  have h3 := h.htb
  have h4 := h.hrb
  have hw : Writes ob (ob + 1) wr (wr.setCell ⟨ob, 1, none⟩ v2) := Writes.setCell (Writes.refl _ _ _) (p := ⟨ob, 1, none⟩) (Nat.le_refl _) (Nat.lt_succ_self _) _
  obtain ⟨c0, c1⟩ := h.b
  exact ⟨Writes.below h.below hw (by omega), h1, h2, h3, h4, Nat.le_trans hs hw.size, h.t.writes hw (by omega), h.r.writes hw (by omega), fun o => by rw [World.frozen?_setCell]; exact h.rf o, ⟨(setO (by omega)).trans c0, setS c1⟩, fun o => by rw [World.frozen?_setCell]; exact h.bf o⟩
/-- An answer that is a copy of a tree. -/
def CTr (t : Tr) (w : World) (e : Ending) (w' : World) : Prop := ∃ v M, e = .returned (.agg #[.int .i64 t.root, v]) ∧ Below w.heap.size w w' ∧ w.heap.size ≤ M ∧ GrNd M w'.heap.size w' v t.n t.T
/-- What a round of the copy leaves. -/
theorem cpt_round {w W w5 : World} {tb rb ob M top k n cap g cap2 : Nat} {a : Option Addr} {root : Int} {v : Value} {T : Nat → Nd} (hc : CpT w W tb rb ob M a n cap root v) (hw : Writes M top W w5) (hgr : GrNd M w5.heap.size w5 (.slice (some ⟨g, 0, none⟩) (k + 1) cap2) (k + 1) (upf T k (T k))) :
    CpT w (w5.setCell ⟨ob, 1, none⟩ (.slice (some ⟨g, 0, none⟩) (k + 1) cap2)) tb rb ob M a n cap root (.slice (some ⟨g, 0, none⟩) (k + 1) cap2) ∧
    GrNd M (w5.setCell ⟨ob, 1, none⟩ (.slice (some ⟨g, 0, none⟩) (k + 1) cap2)).heap.size (w5.setCell ⟨ob, 1, none⟩ (.slice (some ⟨g, 0, none⟩) (k + 1) cap2)) (.slice (some ⟨g, 0, none⟩) (k + 1) cap2) (k + 1) T := by
  have h1 := hc.hM
  refine ⟨(hc.far hw (Nat.le_refl _)).set _, ?_⟩
  have hz : (w5.setCell ⟨ob, 1, none⟩ (.slice (some ⟨g, 0, none⟩) (k + 1) cap2)).heap.size = w5.heap.size := by simp [World.setCell]
  rw [hz]
  refine GrNd.congr (hgr.writes (Writes.setCell (Writes.refl ob (ob + 1) _) (p := ⟨ob, 1, none⟩) (Nat.le_refl _) (Nat.lt_succ_self _) _) (.inl (by omega))) fun i hi => ?_
  by_cases e : i = k
  · subst e; exact upf_eq _ _ _
  · exact upf_ne _ _ e
end Go.Proofs.Ytbnehgpefjbheaa
