/- New copies: what is kept while they are made; steps of drawn regions. -/
import Derived.Test.YtenglcgkachomaaCpa
import Derived.Test.YtenglcgkachomaaCca
import Derived.Test.YtenglcgkachomaaNb
namespace Go.Proofs.Ytenglcgkachomaa
open Go.ChangeShapes Go.WideShapes Go.ChangeAt Go.RowKit Go.Deep Go.Joins
set_option linter.unusedVariables false
set_option maxRecDepth 20000

/-- When each key was turned last: the first k cells. -/
def lsF (K : Nat → Int) : Nat → Nat → Int
  | 0 => fun _ => 0
  | k + 1 => upf9 (lsF K k) (K k).toNat 1
/-- New copies under way: the box B, the block b1 of Last, the cells within l1 .. h1; all from M on. -/
structure Nk (M : Nat) (w wr : World) (B b1 l1 h1 : Nat) (a0 : Option Addr) (c0 n : Nat) (K V Z : Nat → Int) (nx ck : Int) : Prop where
  below : Below w.heap.size w wr
  b : Box5 wr B (.int .i64 nx) (.int .i64 ck) (.slice a0 n c0) (.slice (some ⟨b1, 0, none⟩) 32 32) (.slice none 0 0)
  bf : ∀ i, wr.frozen? ⟨B, i, none⟩ = false
  l : ∀ i, i < 32 → wr.cell? ⟨b1, i, none⟩ = some (.int .i64 (Z i))
  lf : ∀ i, wr.frozen? ⟨b1, i, none⟩ = false
  own : Own wr l1 h1 a0 n K V
  hB : M ≤ B
  hb1 : M ≤ b1
  hl : M ≤ l1
  ne : B ≠ b1
  nB : B < l1 ∨ h1 ≤ B
  n1 : b1 < l1 ∨ h1 ≤ b1
  hM : w.heap.size ≤ M
theorem Nk.mono {M : Nat} {w wr wq : World} {B b1 l1 h1 : Nat} {a0 : Option Addr} {c0 n : Nat} {K V Z : Nat → Int} {nx ck : Int} (h : Nk M w wr B b1 l1 h1 a0 c0 n K V Z nx ck) (hb : Below wr.heap.size wr wq) : Nk M w wq B b1 l1 h1 a0 c0 n K V Z nx ck :=
  ⟨below_then h.below hb, h.b.below hb, fun i => (hb.frozen (p := ⟨B, i, none⟩) (by have := Go.block_lt_of_cell h.b.1; exact this)).trans (h.bf i), fun i hi => cell_below (h.l i hi) hb, fun i => (hb.frozen (p := ⟨b1, i, none⟩) (by have := Go.block_lt_of_cell (h.l 0 (by omega)); exact this)).trans (h.lf i), h.own.below hb, h.hB, h.hb1, h.hl, h.ne, h.nB, h.n1, h.hM⟩
theorem farc {w : World} {b b' o o' : Nat} {v : Value} (h : b ≠ b') : (w.setCell ⟨b, o, none⟩ v).cell? ⟨b', o', none⟩ = w.cell? ⟨b', o', none⟩ := World.cell?_setCell_far _ _ _ _ h
theorem Nk.last {M : Nat} {w wr : World} {B b1 l1 h1 : Nat} {a0 : Option Addr} {c0 n : Nat} {K V Z : Nat → Int} {nx ck : Int} (h : Nk M w wr B b1 l1 h1 a0 c0 n K V Z nx ck) {j : Nat} (hj : j < 32) (x : Int) : Nk M w (wr.setCell ⟨b1, j, none⟩ (.int .i64 x)) B b1 l1 h1 a0 c0 n K V (upf9 Z j x) nx ck := by
  have g : ∀ i, (wr.setCell ⟨b1, j, none⟩ (.int .i64 x)).cell? ⟨B, i, none⟩ = wr.cell? ⟨B, i, none⟩ := fun i => farc (Ne.symm h.ne)
  have hbb := h.hb1
  have hMM := h.hM
  refine ⟨h.below.setCell (p := ⟨b1, j, none⟩) (by show w.heap.size ≤ b1; omega) _, ⟨(g _).trans h.b.1, (g _).trans h.b.2.1, (g _).trans h.b.2.2.1, (g _).trans h.b.2.2.2.1, (g _).trans h.b.2.2.2.2⟩, fun i => by rw [World.frozen?_setCell]; exact h.bf i, fun i hi => ?_, fun i => by rw [World.frozen?_setCell]; exact h.lf i, h.own.writes (lo' := b1) (hi' := b1 + 1) ((Writes.refl _ _ _).setCell (p := ⟨b1, j, none⟩) (Nat.le_refl _) (Nat.lt_succ_self _) _) (by have := h.n1; omega), h.hB, h.hb1, h.hl, h.ne, h.nB, h.n1, h.hM⟩
  by_cases e : i = j
  · subst e; rw [setS (h.l i hi), upf9_eq]
  · rw [setO (Ne.symm e), upf9_ne _ _ e]; exact h.l i hi
theorem Nk.clock {M : Nat} {w wr : World} {B b1 l1 h1 : Nat} {a0 : Option Addr} {c0 n : Nat} {K V Z : Nat → Int} {nx ck : Int} (h : Nk M w wr B b1 l1 h1 a0 c0 n K V Z nx ck) (x : Int) : Nk M w (wr.setCell ⟨B, 1, none⟩ (.int .i64 x)) B b1 l1 h1 a0 c0 n K V Z nx x := by
  have hbb := h.hB
  have hMM := h.hM
  exact ⟨h.below.setCell (p := ⟨B, 1, none⟩) (by show w.heap.size ≤ B; omega) _, ⟨(setO (by omega)).trans h.b.1, setS h.b.2.1, (setO (by omega)).trans h.b.2.2.1, (setO (by omega)).trans h.b.2.2.2.1, (setO (by omega)).trans h.b.2.2.2.2⟩, fun i => by rw [World.frozen?_setCell]; exact h.bf i, fun i hi => (farc h.ne).trans (h.l i hi), fun i => by rw [World.frozen?_setCell]; exact h.lf i, h.own.writes (lo' := B) (hi' := B + 1) ((Writes.refl _ _ _).setCell (p := ⟨B, 1, none⟩) (Nat.le_refl _) (Nat.lt_succ_self _) _) (by have := h.nB; omega), h.hB, h.hb1, h.hl, h.ne, h.nB, h.n1, h.hM⟩
/-- The box is stored whole. -/
theorem Nk.made {M : Nat} {w u : World} {B b1 l1 h1 : Nat} {a0 : Option Addr} {c0 n : Nat} {K V Z : Nat → Int} {z0 z1 z2 z3 z4 : Value} (nx ck : Int) (v3 : Value) (hv3 : v3 = .slice (some ⟨b1, 0, none⟩) 32 32) (hbel : Below w.heap.size w u) (hbx : Box5 u B z0 z1 z2 z3 z4) (hbf : ∀ i, u.frozen? ⟨B, i, none⟩ = false) (hL : ∀ i, i < 32 → u.cell? ⟨b1, i, none⟩ = some (.int .i64 (Z i))) (hlf : ∀ i, u.frozen? ⟨b1, i, none⟩ = false) (hown : Own u l1 h1 a0 n K V)
    (hB : M ≤ B) (hb1 : M ≤ b1) (hl : M ≤ l1) (ne : B ≠ b1) (nB : B < l1 ∨ h1 ≤ B) (n1 : b1 < l1 ∨ h1 ≤ b1) (hM : w.heap.size ≤ M) :
    Nk M w (((((u.setCell ⟨B, 0, none⟩ (.int .i64 nx)).setCell ⟨B, 1, none⟩ (.int .i64 ck)).setCell ⟨B, 2, none⟩ (.slice a0 n c0)).setCell ⟨B, 3, none⟩ v3).setCell ⟨B, 4, none⟩ (.slice none 0 0)) B b1 l1 h1 a0 c0 n K V Z nx ck := by
  subst hv3
  have hw : Writes B (B + 1) u (((((u.setCell ⟨B, 0, none⟩ (.int .i64 nx)).setCell ⟨B, 1, none⟩ (.int .i64 ck)).setCell ⟨B, 2, none⟩ (.slice a0 n c0)).setCell ⟨B, 3, none⟩ (.slice (some ⟨b1, 0, none⟩) 32 32)).setCell ⟨B, 4, none⟩ (.slice none 0 0)) := by
    repeat (first | with_reducible exact Writes.refl _ _ _ | with_reducible refine Writes.setCell ?_ (by simp) (by simp) _)
  have hlt : b1 < u.heap.size := Go.block_lt_of_cell (hL 0 (by omega))
  obtain ⟨q0, q1, q2, q3, q4⟩ := hbx
  refine ⟨hw.below hbel (by omega), ⟨?_, ?_, ?_, ?_, ?_⟩, fun i => by simp only [World.frozen?_setCell]; exact hbf i, fun i hi => cell_writes (hL i hi) hw (by omega), fun i => by simp only [World.frozen?_setCell]; exact hlf i, hown.writes hw (by omega), hB, hb1, hl, ne, nB, n1, hM⟩
  · rw [setO (by omega), setO (by omega), setO (by omega), setO (by omega)]; exact setS q0
  · rw [setO (by omega), setO (by omega), setO (by omega)]; exact setS (by rw [setO (by omega)]; exact q1)
  · rw [setO (by omega), setO (by omega)]; exact setS (by rw [setO (by omega), setO (by omega)]; exact q2)
  · rw [setO (by omega)]; exact setS (by rw [setO (by omega), setO (by omega), setO (by omega)]; exact q3)
  · exact setS (by rw [setO (by omega), setO (by omega), setO (by omega), setO (by omega)]; exact q4)
/-! ### steps -/
theorem infoCs5 : (Try.prog.info? 50).map (fun i => (i.zero, i.size, i.bytes)) = some (some (.agg #[.int .i64 0, .int .i64 0, .slice none 0 0, .slice none 0 0, .slice none 0 0]), 5, 88) := by kernel_rfl
theorem run_al5 (w : World) : (Instr.alloc 50 true (.tuple #[])).run Try.prog w = .ok (.pointer (some ⟨w.heap.size, 0, none⟩)) (w.alloc (.cells #[.int .i64 0, .int .i64 0, .slice none 0 0, .slice none 0 0, .slice none 0 0] 50)) := by
  obtain ⟨i0, hi, hz0, hz1, hz2⟩ := info_parts9 infoCs5
  simp [Instr.alloc, Sem.run_bind, zeroValue, typeInfo, hi, hz0, go_sem, Value.cells]
theorem step_al5 {ops : Array Oper} {o : Oper} {a : Act} {Kc : Act → World → Prop} {Q : Exit → Act → World → Prop} {Ee : Prop} (w : World) (d : Option Tmp) (hd : o.dst = d) (hgd : o.guard = none) (ho : o.op = .alloc 50)
    (h : ∀ B w', w.heap.size ≤ B → Box5 w' B (.int .i64 0) (.int .i64 0) (.slice none 0 0) (.slice none 0 0) (.slice none 0 0) → (∀ i, w'.frozen? ⟨B, i, none⟩ = false) → Below w.heap.size w w' → Kc (a.put d (.pointer (some ⟨B, 0, none⟩))) w') :
    if Region.wanted o (yielded ops a.tmps) = true then Oper.wp Try.prog o a w Kc Q else Ee := by
  have hw : Region.wanted o (yielded ops a.tmps) = true := by simp [Region.wanted, hgd]
  rw [if_pos hw]
  subst hd
  unfold Oper.wp execOp
  simp only [ho, run_al5 w, Sem.run_bind, Sem.run_pure, Result.andThen_ok]
  exact h _ _ (Nat.le_refl _) (Box5.new _ _ _ _ _ _ _) (fun i => by simp [go_sem]) (below_new _ _)
theorem step_mk32 {ops : Array Oper} {o : Oper} {a : Act} {Kc : Act → World → Prop} {Q : Exit → Act → World → Prop} {Ee : Prop} (w : World) (d : Option Tmp) (hd : o.dst = d) (hgd : o.guard = none) (ho : o.op = .makeSlice 42 (.const (.int .i64 32)) (.const (.int .i64 32)))
    (h : ∀ b1 w', w.heap.size ≤ b1 → (∀ i, i < 32 → w'.cell? ⟨b1, i, none⟩ = some (.int .i64 0)) → (∀ i, w'.frozen? ⟨b1, i, none⟩ = false) → Below w.heap.size w w' → Kc (a.put d (.slice (some ⟨b1, 0, none⟩) 32 32)) w') :
    if Region.wanted o (yielded ops a.tmps) = true then Oper.wp Try.prog o a w Kc Q else Ee := by
  have hw : Region.wanted o (yielded ops a.tmps) = true := by simp [Region.wanted, hgd]
  rw [if_pos hw]
  subst hd
  have hr := run_make_row' (P := Try.prog) 42 2 (.int .i64 0) 8 Try.underlying42 info2 rfl .i64 .i64 32 (by omega) (by omega) w
  have hrow := World.rowIs_made w (.int .i64 0) 32 2
  unfold Oper.wp execOp
  simp only [ho, Act.eval, Sem.run_bind, Sem.run_pure]
  rw [show ((32 : Nat) : Int) = 32 from rfl] at hr
  simp only [hr, Result.andThen_ok]
  exact h _ _ (Nat.le_refl _) (fun i hi => by have := hrow.cell (i := i) hi; simpa using this) (fun i => hrow.frozen i) (below_new _ _)
end Go.Proofs.Ytenglcgkachomaa
