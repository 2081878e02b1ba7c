/- spec.l7Purge: the walk. -/
import Derived.Test.YtnhlcadipkmhhaaGreatQPgc
import Derived.Test.YtnhlcadipkmhhaaGreatQWae
import Derived.Test.YtnhlcadipkmhhaaGreatQCb
namespace Go.Proofs.YtnhlcadipkmhhaaGreat
open Go.ChangeShapes Go.WideShapes Go.ChangeAt Go.RowKit Go.Deep Go.Joins
set_option linter.unusedVariables false
set_option maxRecDepth 20000
open Go.RowKit Go.Deep
set_option linter.unusedSimpArgs false

/-- A row and what its elements hold: all in blocks of its own. -/
theorem OwnRwP.of2 {w : World} {base B M n : Nat} {v : Value} {xs : List HRw} (hn : xs.length = n) (h : w.ownsRow base 105 2 v n (hbRw xs)) (ha : ApRw xs) (hc : ∀ x ∈ xs, CtRw w B M x) (hv : ∀ q, v.ownBlock = some q → ∀ x ∈ xs, q < x.l ∨ x.h ≤ q) :
    ∃ a cap, v = .slice a n cap ∧ n ≤ cap ∧ OwnRwP w (fun x => (B ≤ x ∧ x < M) ∨ v.ownBlock = some x) a n (fun i => (xs.map HRw.t).getD i zRw) := by
  obtain ⟨a, cap, rfl, hcap, hat⟩ := HAtRw.of_row hn h
  refine ⟨a, cap, rfl, hcap, ?_⟩
  rcases hat with rfl | ⟨b, off, rfl, hl, hcc⟩
  · exact .inl (by simpa using hn.symm)
  have hlt : ∀ i, i < n → ∃ x, xs[i]? = some x := fun i hi => ⟨_, List.getElem?_eq_getElem (by omega)⟩
  let z : HRw := ⟨zRw, none, 0, 0, 0⟩
  refine .inr ⟨b, off, rfl, .inr rfl, hl, fun i => ?_, fun i => (xs.getD i z).l, fun i => (xs.getD i z).h, fun i j hi hj hne => ?_, fun i hi => ?_⟩
  · rcases h.2 with ⟨e, _⟩ | ⟨g, _, _, e, _⟩
    · cases e
    · injection e with e
      injection e with e
      injection e with e1 e2
      subst e1
      subst e2
      exact h.frozenAt _
  · have gi := List.getElem?_eq_getElem (l := xs) (i := i) (by omega)
    have gj := List.getElem?_eq_getElem (l := xs) (i := j) (by omega)
    simp only [List.getD_eq_getElem?_getD, gi, gj, Option.getD_some]
    rcases Nat.lt_or_ge i j with c | c
    · exact List.pairwise_iff_getElem.1 ha i j (by omega) (by omega) c
    · exact (List.pairwise_iff_getElem.1 ha j i (by omega) (by omega) (by omega)).symm
  · obtain ⟨x, hx⟩ := hlt i hi
    have hmem := List.mem_of_getElem? hx
    obtain ⟨k1, k2, k3⟩ := hc x hmem
    have hq := hv b rfl x hmem
    have e1 : xs.getD i z = x := by simp [List.getD_eq_getElem?_getD, hx]
    have e2 : (xs.map HRw.t).getD i zRw = x.t := by simp [List.getD_eq_getElem?_getD, hx]
    simp only [e1, e2]
    exact ⟨by omega, fun y h1 h2 => .inl (by omega), x.A, x.c, hcc i x hx, k2, k3⟩
theorem step_appHRw {ops : Array Oper} {o : Oper} {a : Act} {Kc : Act → World → Prop} {Q : Exit → Act → World → Prop} {Ee : Prop} (w : World) (d : Option Tmp) (hd : o.dst = d) (hgd : o.guard = none) (s x : Operand)
    (ho : o.op = .call { callee := .builtin .append, args := #[s, x], argTypes := #[29, 29] })
    (base : Nat) (v : Value) (m : Nat) (xs : List HRw) (hm : xs.length = m) (hs : a.eval s = v) (hown : w.ownsRow base 105 2 v m (hbRw xs)) (Y cx : Nat) (y : HRw) (hx : a.eval x = .slice (some ⟨Y, 0, none⟩) 1 cx) (hC : CRw w Y 0 y.t y.A y.c) (hb : base ≤ w.heap.size) (hl : m ≤ 100000)
    (h : ∀ v' w', w'.ownsRow base 105 2 v' (m + 1) (hbRw (xs ++ [y])) → w.grownBy w' v.ownBlock → Kc (a.put d v') w') :
    if Region.wanted o (yielded ops a.tmps) = true then Oper.wp Tryz.prog o a w Kc Q else Ee := by
  have hw : Region.wanted o (yielded ops a.tmps) = true := by simp [Region.wanted, hgd]
  rw [if_pos hw]
  subst hd
  exact wp_appHRw w s x ho base v m xs hm hs hown Y cx y hx hC hb hl h
theorem step_appHTx {ops : Array Oper} {o : Oper} {a : Act} {Kc : Act → World → Prop} {Q : Exit → Act → World → Prop} {Ee : Prop} (w : World) (d : Option Tmp) (hd : o.dst = d) (hgd : o.guard = none) (s x : Operand)
    (ho : o.op = .call { callee := .builtin .append, args := #[s, x], argTypes := #[28, 28] })
    (base : Nat) (v : Value) (m : Nat) (xs : List HTx) (hm : xs.length = m) (hs : a.eval s = v) (hown : w.ownsRow base 64 5 v m (hbTx xs)) (Y cx : Nat) (y : HTx) (hx : a.eval x = .slice (some ⟨Y, 0, none⟩) 1 cx) (hC : CTx w Y 0 y.t y.A y.c) (hb : base ≤ w.heap.size) (hl : m ≤ 100000)
    (h : ∀ v' w', w'.ownsRow base 64 5 v' (m + 1) (hbTx (xs ++ [y])) → w.grownBy w' v.ownBlock → Kc (a.put d v') w') :
    if Region.wanted o (yielded ops a.tmps) = true then Oper.wp Tryz.prog o a w Kc Q else Ee := by
  have hw : Region.wanted o (yielded ops a.tmps) = true := by simp [Region.wanted, hgd]
  rw [if_pos hw]
  subst hd
  exact wp_appHTx w s x ho base v m xs hm hs hown Y cx y hx hC hb hl h
theorem PgA.of2 {E : En} {w w' : World} {v v' : Value} {B M B' M' base base' : Nat} {ts : List HTx} {rs : List HRw} (hb : Below w.heap.size w w') (ht : ts.map HTx.t = pgT E) (hr : rs.map HRw.t = pgR E)
    (hT : w'.ownsRow base 64 5 v (pgT E).length (hbTx ts)) (hR : w'.ownsRow base' 105 2 v' (pgR E).length (hbRw rs)) (aT : ApTx ts) (aR : ApRw rs) (cT : ∀ x ∈ ts, CtTx w' B M x) (cR : ∀ x ∈ rs, CtRw w' B' M' x)
    (h1 : w.heap.size ≤ B) (h2 : M ≤ base) (h3 : base ≤ B') (h3' : B' ≤ M') (h4 : B' ≤ base') (h5 : ∀ q, v.ownBlock = some q → q < B') (hvR : ∀ q, v'.ownBlock = some q → ∀ x ∈ rs, q < x.l ∨ x.h ≤ q) (h6 : M' ≤ w'.heap.size) (h7 : B ≤ M) :
    PgA E w (.returned (.agg #[.int .i64 E.nx, .int .i64 E.ck, v, v'])) w' := by
  have lt : ts.length = (pgT E).length := by rw [← ht, List.length_map]
  have lr : rs.length = (pgR E).length := by rw [← hr, List.length_map]
  obtain ⟨a, cap, rfl, hc, hP⟩ := OwnTxP.of (B := B) (M := M) lt hT aT cT (fun q hq => by have := (hT.lt q hq).1; omega)
  obtain ⟨a', cap', rfl, hc', hQ⟩ := OwnRwP.of2 (B := B') (M := M') lr hR aR cR hvR
  refine ⟨a, cap, a', cap', rfl, hb, Nat.le_refl _, _, _, fun x hx => ?_, fun x hx => ?_, fun x hx hy => ?_, hP.congr fun i hi => ?_, hQ.congr fun i hi => ?_⟩
  · rcases hx with hx | hx
    · omega
    · have := hT.lt x hx; omega
  · rcases hx with hx | hx
    · omega
    · have := hR.lt x hx; omega
  · rcases hx with hx | hx <;> rcases hy with hy | hy
    · omega
    · have := (hR.lt x hy).1; omega
    · have := h5 x hx; omega
    · have := h5 x hx; have := (hR.lt x hy).1; omega
  · rw [ht]; rfl
  · rw [hr]; rfl
theorem filter_next {α : Type} {xs : List α} {p : α → Bool} {k : Nat} {x : α} (h : xs[k]? = some x) : (xs.take (k + 1)).filter p = if p x = true then (xs.take k).filter p ++ [x] else (xs.take k).filter p := by
  rw [take_next h, List.filter_append]
  cases hp : p x <;> simp [hp]
theorem boxes_keep {w w' : World} {B : Nat} {v0 v1 v2 v3 : Value} (h : Box4 w B v0 v1 v2 v3) (e : w'.heap[B]? = w.heap[B]?) : Box4 w' B v0 v1 v2 v3 := by
  obtain ⟨h0, h1, h2, h3⟩ := h
  have g : ∀ i, w'.cell? ⟨B, i, none⟩ = w.cell? ⟨B, i, none⟩ := fun i => World.cell?_of_block (w := w) (a := ⟨B, i, none⟩) e
  exact ⟨(g 0).trans h0, (g 1).trans h1, (g 2).trans h2, (g 3).trans h3⟩
/-- The engine that is put together: its box, and nothing else of what was there is written. -/
structure PsI (W wr : World) (B4 : Nat) (E : En) (v v' : Value) : Prop where
  writes : Writes B4 (B4 + 1) W wr
  box : Box4 wr B4 (.int .i64 E.nx) (.int .i64 E.ck) v v'
  frz : ∀ i, wr.frozen? ⟨B4, i, none⟩ = false
theorem PsI.below {W wr u : World} {B4 : Nat} {E : En} {v v' : Value} (h : PsI W wr B4 E v v') (hb : Below wr.heap.size wr u) (hB : B4 < W.heap.size) : PsI W u B4 E v v' := by
  have hlt := Nat.lt_of_lt_of_le hB h.writes.size
  exact ⟨h.writes.trans (Writes.of_below hb), h.box.below hb, fun i => (World.frozen?_of_block (w := wr) (a := ⟨B4, i, none⟩) (hb.block B4 hlt)).trans (h.frz i)⟩
/-- .. an append to a list of its own, and the store into the box. -/
theorem PsI.grown {W wr u : World} {B4 : Nat} {E : En} {v v' : Value} {row : Option Nat} (h : PsI W wr B4 E v v') (hg : wr.grownBy u row) (hr : ∀ q, row = some q → W.heap.size ≤ q) (hB : B4 < W.heap.size) : PsI W u B4 E v v' := by
  have hlt := Nat.lt_of_lt_of_le hB h.writes.size
  have hne : some B4 ≠ row := fun e => by have := hr B4 e.symm; omega
  refine ⟨⟨hg.os.trans h.writes.os, hg.tape.trans h.writes.tape, hg.output.trans h.writes.output, Nat.le_trans h.writes.size hg.size, fun q hq hd => ?_⟩, boxes_keep h.box (hg.block B4 hlt hne), fun i => (World.frozen?_of_block (w := wr) (a := ⟨B4, i, none⟩) (hg.block B4 hlt hne)).trans (h.frz i)⟩
  rw [hg.block q (Nat.lt_of_lt_of_le hq h.writes.size) (fun e => by have := hr q e.symm; omega)]
  exact h.writes.block q hq hd
theorem PsI.set2 {W wr : World} {B4 : Nat} {E : En} {v v' : Value} (h : PsI W wr B4 E v v') (v2 : Value) : PsI W (wr.setCell ⟨B4, 2, none⟩ v2) B4 E v2 v' := by
  obtain ⟨b0, b1, b2, b3⟩ := h.box
  exact ⟨Writes.setCell h.writes (p := ⟨B4, 2, none⟩) (Nat.le_refl _) (Nat.lt_succ_self _) _, ⟨(setO (by omega)).trans b0, (setO (by omega)).trans b1, World.cell?_setCell_same _ _ _ b2, (setO (by omega)).trans b3⟩, fun i => by rw [World.frozen?_setCell]; exact h.frz i⟩
theorem PsI.set3 {W wr : World} {B4 : Nat} {E : En} {v v' : Value} (h : PsI W wr B4 E v v') (v2 : Value) : PsI W (wr.setCell ⟨B4, 3, none⟩ v2) B4 E v v2 := by
  obtain ⟨b0, b1, b2, b3⟩ := h.box
  exact ⟨Writes.setCell h.writes (p := ⟨B4, 3, none⟩) (Nat.le_refl _) (Nat.lt_succ_self _) _, ⟨(setO (by omega)).trans b0, (setO (by omega)).trans b1, (setO (by omega)).trans b2, World.cell?_setCell_same _ _ _ b3⟩, fun i => by rw [World.frozen?_setCell]; exact h.frz i⟩
theorem row_set {w : World} {base n s : Nat} {e : TypeId} {v : Value} {xs : List Value} {B o : Nat} {u : Value} (h : w.ownsRow base e s v n xs) (hB : B < base) : (w.setCell ⟨B, o, none⟩ u).ownsRow base e s v n xs :=
  ownsRow_of h fun q hq => (Writes.setCell (Writes.refl B (B + 1) w) (p := ⟨B, o, none⟩) (Nat.le_refl _) (Nat.lt_succ_self _) u).block q (h.lt q hq).2 (.inr (by have := (h.lt q hq).1; omega))
/-- The rows that are kept of the first k. -/
def lk (f : Int) (E : En) (k : Nat) : List Rw := ((List.range k).map (fun i => puR f (E.R i))).filter (fun r => decide (0 < r.n))
theorem lk_next (f : Int) (E : En) (k : Nat) : lk f E (k + 1) = if 0 < puN (E.R k).n (E.R k).U f then lk f E k ++ [puR f (E.R k)] else lk f E k := by
  unfold lk
  rw [List.range_succ, List.map_append, List.filter_append]
  by_cases h : 0 < puN (E.R k).n (E.R k).U f
  · rw [if_pos h]
    congr 1
    simp [puR, h]
  · rw [if_neg h]
    simp [puR, h]
theorem lk_len (f : Int) (E : En) (k : Nat) : (lk f E k).length ≤ k := by
  have := List.length_filter_le (fun r : Rw => decide (0 < r.n)) ((List.range k).map (fun i => puR f (E.R i)))
  simpa [lk] using this
theorem lk_up {f : Int} {E : En} {k m i : Nat} {t : Rw} (ht : t = E.R k) (hp : 0 < puN (E.R k).n (E.R k).U f) (hm : (lk f E k).length = m) (hi : i < m + 1) : upf (fun i => (lk f E k).getD i zRw) m (puR f t) i = (lk f E (k + 1)).getD i zRw := by
  rw [lk_next, if_pos hp, ht]
  by_cases e : i = m
  · subst e
    rw [upf_eq]
    simp [List.getD_eq_getElem?_getD, ← hm]
  · rw [upf_ne _ _ e]
    simp only [List.getD_eq_getElem?_getD]
    rw [List.getElem?_append_left (by omega)]
set_option maxHeartbeats 16000000 in
theorem l7Purge_any (E : En) (B : Nat) (a : Option Addr) (cap : Nat) (a' : Option Addr) (cap' : Nat) (w : World) (h0 : eF E = 0) (hE : EBox w B a cap a' cap' E) :
    Calls Tryz.prog 48 #[.pointer (some ⟨B, 0, none⟩)] w (PgA E w) := by
  have HX : Hid (EBox w B a cap a' cap' E) := hE
  have hp20 := (eF_pq h0).1
  have hq32 := (eF_pq h0).2
  have HU60 : Hid (∀ i, i < E.p → (E.T i).n ≤ 60) := undos60 h0
  have HR12 : Hid (∀ i, i < E.q → (E.R i).n ≤ 12) := rows12 h0
  have HGR : Hid (∀ i, i < E.q → rF E.ck E.p E.T E.R i = 0) := (eF_good h0).2.2.2
  have HBX0 : Hid (∀ o1 : Obj, o1 = .cells #[.int .i64 0, .int .i64 0, .slice none 0 0, .slice none 0 0] 31 →
      Box4 (w.alloc o1) w.heap.size (.int .i64 0) (.int .i64 0) (.slice none 0 0) (.slice none 0 0) ∧ (∀ i, (w.alloc o1).frozen? ⟨w.heap.size, i, none⟩ = false) ∧ Below w.heap.size w (w.alloc o1) ∧ (w.alloc o1).heap.size = w.heap.size + 1) := by
    rintro o1 rfl
    exact ⟨Box4.new w _ _ _ _ _, fun i => by simp [go_sem], below_new _ _, by simp⟩
  clear hE h0
  go_enter Tryz.func48, Tryz.ntmps48
  go_upto_region 2 with (first | (go_at_call 86; refine (l7Floor_any E B a cap a' cap' _ hp20 (HX.out.below (below_new _ _))).mono ?_; rintro e w9 ⟨rfl, hw9⟩; rw [hw9]; clear hw9))
  obtain ⟨hbr, hbf, hbw, hbs⟩ := HBX0.out _ rfl
  obtain ⟨W0, hW0⟩ : ∃ y, y = w.alloc (.cells #[.int .i64 0, .int .i64 0, .slice none 0 0, .slice none 0 0] 31) := ⟨_, rfl⟩
  rw [← hW0] at hbr hbf hbw hbs ⊢
  clear hW0 HBX0
  obtain ⟨fl, hfl⟩ : ∃ y, y = flF E.ck E.T E.p := ⟨_, rfl⟩
  have HFE : Hid (fl = flF E.ck E.T E.p) := hfl
  rw [← hfl]
  clear hfl
  have HBr : Hid (Box4 W0 w.heap.size (.int .i64 0) (.int .i64 0) (.slice none 0 0) (.slice none 0 0)) := hbr
  have HFr : Hid (∀ i, W0.frozen? ⟨w.heap.size, i, none⟩ = false) := hbf
  have HB0 : Hid (Below w.heap.size w W0) := hbw
  have HX0 : Hid (EBox W0 B a cap a' cap' E) := HX.out.below hbw
  obtain ⟨⟨b0, b1, b2, b3⟩, -⟩ := HX0.out
  have hsW0 : w.heap.size < W0.heap.size := by omega
  clear hbr hbf hbw hbs
  refine wp_region_E 999 (S := fun u => Below W0.heap.size W0 u) (by kernel_rfl) ((Below.refl _ _).drew) (fun hS => ?_)
  obtain ⟨u0, hu0⟩ : ∃ y, y = W0.drew := ⟨_, rfl⟩
  rw [← hu0] at hS ⊢
  clear hu0
  have hU0 := hS
  refine wpAnyE_takeD (L := 999) (i := 0) (v := .pointer (some ⟨B, 0, none⟩)) (some 11) rfl rfl (by kernel_rfl) (by kernel_rfl) (by kernel_rfl) (by kernel_rfl) (fun _ _ _ h => h) (Or.inl ⟨by kernel_rfl, by intro u hSu; go_simp⟩) hS ?_
  try simp only [Act.put, List.setIfInBounds_toArray, List.set_cons_zero, List.set_cons_succ]
  refine wpAnyE_takeD (L := 999) (i := 1) (v := .pointer (some ⟨B, 0, none⟩)) (some 12) rfl rfl (by kernel_rfl) (by kernel_rfl) (by kernel_rfl) (by kernel_rfl) (fun _ _ _ h => h) (Or.inl ⟨by kernel_rfl, by intro u hSu; go_simp⟩) hS ?_
  try simp only [Act.put, List.setIfInBounds_toArray, List.set_cons_zero, List.set_cons_succ]
  refine wpAnyE_takeD (L := 999) (i := 2) (v := .pointer (some ⟨B, 0, none⟩)) (some 13) rfl rfl (by kernel_rfl) (by kernel_rfl) (by kernel_rfl) (by kernel_rfl) (fun _ _ _ h => h) (Or.inl ⟨by kernel_rfl, by intro u hSu; go_simp⟩) hS ?_
  try simp only [Act.put, List.setIfInBounds_toArray, List.set_cons_zero, List.set_cons_succ]
  refine wpAnyE_takeD (L := 999) (i := 3) (v := .int .i64 E.nx) (some 14) rfl rfl (by kernel_rfl) (by kernel_rfl) (by kernel_rfl) (by kernel_rfl) (fun _ _ _ h => h) (Or.inl ⟨by kernel_rfl, by intro u hSu; have gb0 := cell_below b0 hSu; go_simp⟩) hS ?_
  try simp only [Act.put, List.setIfInBounds_toArray, List.set_cons_zero, List.set_cons_succ]
  refine wpAnyE_takeD (L := 999) (i := 4) (v := .pointer (some ⟨B, 0, none⟩)) (some 15) rfl rfl (by kernel_rfl) (by kernel_rfl) (by kernel_rfl) (by kernel_rfl) (fun _ _ _ h => h) (Or.inl ⟨by kernel_rfl, by intro u hSu; go_simp⟩) hS ?_
  try simp only [Act.put, List.setIfInBounds_toArray, List.set_cons_zero, List.set_cons_succ]
  refine wpAnyE_takeD (L := 999) (i := 5) (v := .pointer (some ⟨B, 0, none⟩)) (some 16) rfl rfl (by kernel_rfl) (by kernel_rfl) (by kernel_rfl) (by kernel_rfl) (fun _ _ _ h => h) (Or.inl ⟨by kernel_rfl, by intro u hSu; go_simp⟩) hS ?_
  try simp only [Act.put, List.setIfInBounds_toArray, List.set_cons_zero, List.set_cons_succ]
  refine wpAnyE_takeD (L := 999) (i := 6) (v := .pointer (some ⟨B, 1, none⟩)) (some 17) rfl rfl (by kernel_rfl) (by kernel_rfl) (by kernel_rfl) (by kernel_rfl) (fun _ _ _ h => h) (Or.inl ⟨by kernel_rfl, by intro u hSu; go_simp⟩) hS ?_
  try simp only [Act.put, List.setIfInBounds_toArray, List.set_cons_zero, List.set_cons_succ]
  refine wpAnyE_takeD (L := 999) (i := 7) (v := .int .i64 E.ck) (some 18) rfl rfl (by kernel_rfl) (by kernel_rfl) (by kernel_rfl) (by kernel_rfl) (fun _ _ _ h => h) (Or.inl ⟨by kernel_rfl, by intro u hSu; have gb1 := cell_below b1 hSu; go_simp⟩) hS ?_
  try simp only [Act.put, List.setIfInBounds_toArray, List.set_cons_zero, List.set_cons_succ]
  refine wpAnyE_takeD (L := 999) (i := 8) (v := .agg #[.int .i64 E.nx, .int .i64 E.ck, .slice none 0 0, .slice none 0 0]) (some 19) rfl rfl (by kernel_rfl) (by kernel_rfl) (by kernel_rfl) (by kernel_rfl) (fun _ _ _ h => h) (Or.inl ⟨by kernel_rfl, by intro u hSu; go_simp⟩) hS ?_
  try simp only [Act.put, List.setIfInBounds_toArray, List.set_cons_zero, List.set_cons_succ]
  refine wpAnyE_ready (rs := [9]) (by kernel_rfl) (by simp) ?_
  refine AllReadyE.cons rfl (fun K9 hK => ?_) AllReadyE.nil
  go_simp
  refine hK.out _ _ (below_then hS (below_new _ _)) (fun hS9 => ?_)
  try simp only [Act.put, List.setIfInBounds_toArray, List.set_cons_zero, List.set_cons_succ]
  clear hK K9 hS
  have hS := hS9
  clear hS9
  refine wpAnyE_ready (rs := [10]) (by kernel_rfl) (by simp) ?_
  refine AllReadyE.cons rfl (fun K9 hK => ?_) AllReadyE.nil
  obtain ⟨W4, hW4⟩ : ∃ y, y = u0.alloc (.cells #[.int .i64 E.nx, .int .i64 E.ck, .slice none 0 0, .slice none 0 0] 31) := ⟨_, rfl⟩
  go_simp
  rw [← hW4]
  have hS4 : Below W0.heap.size W0 W4 := by rw [hW4]; exact below_then hU0 (below_new _ _)
  have hz4 : u0.heap.size < W4.heap.size := by rw [hW4]; simp
  have HBo4 : Hid (Box4 W4 u0.heap.size (.int .i64 E.nx) (.int .i64 E.ck) (.slice none 0 0) (.slice none 0 0)) := by rw [hW4]; exact Box4.new _ _ _ _ _ _
  have HFo4 : Hid (∀ i, W4.frozen? ⟨u0.heap.size, i, none⟩ = false) := by rw [hW4]; exact fun i => by simp [go_sem]
  clear hW4
  refine hK.out _ _ hS4 (fun _ => ?_)
  try simp only [Act.put, List.setIfInBounds_toArray, List.set_cons_zero, List.set_cons_succ]
  clear hK K9 hS
  refine wpAnyE_done (by kernel_rfl) ?_ _
  go_simp
  have hu0z := hU0.size
  obtain ⟨B4, hB4⟩ : ∃ y, y = u0.heap.size := ⟨_, rfl⟩
  rw [← hB4] at HBo4 HFo4 hz4 hu0z ⊢
  have HB4 : Hid (Below W0.heap.size W0 W4) := hS4
  have HX4 : Hid (EBox W4 B a cap a' cap' E) := HX0.out.below hS4
  clear hB4 hS4 hU0 b0 b1 b2 b3
  obtain ⟨⟨b0, b1, b2, b3⟩, -⟩ := HX4.out
  go_wp2_with fail
  refine (l6Copy_any E a cap a' cap' _ hp20 hq32 HU60.out HR12.out HX4.out.2).mono ?_
  rintro e w5 ⟨v, v', c0, M, rfl, hb5, hc0, hM, hgt, hgr⟩
  have hs5 := hb5.size
  have hMz : M ≤ w5.heap.size := hgt.1
  obtain ⟨txs, ltx, dtx, otx, vtx, atx, ctx⟩ := hgt.list
  obtain ⟨xs, lxs, dxs, oxs, vxs, axs, cxs⟩ := hgr.list
  obtain ⟨va, vc, rfl, hvc, hta⟩ := HAtTx.of_row ltx otx
  obtain ⟨vb, vd, rfl, hvd, hra⟩ := HAtRw.of_row lxs oxs
  clear b0 b1 b2 b3
  go_wp2_with fail
  obtain ⟨W, hW⟩ : ∃ x, x = w5.alloc (.cells #[.int .i64 E.nx, .int .i64 E.ck, .slice va E.p vc, .slice vb E.q vd] 31) := ⟨_, rfl⟩
  have hBW5 : Below w5.heap.size w5 W := by rw [hW]; exact below_new _ _
  have HBo5 : Hid (Box4 W w5.heap.size (.int .i64 E.nx) (.int .i64 E.ck) (.slice va E.p vc) (.slice vb E.q vd)) := by rw [hW]; exact Box4.new _ _ _ _ _ _
  have hzW : W.heap.size = w5.heap.size + 1 := by rw [hW]; exact World.size_alloc _ _
  rw [← hW]
  clear hW
  obtain ⟨B5, hB5⟩ : ∃ y, y = w5.heap.size := ⟨_, rfl⟩
  rw [← hB5] at HBo5 ⊢
  have hB5W : B5 < W.heap.size := by omega
  have hB4W : B4 < W.heap.size := by omega
  have hB45 : B4 < c0 := by omega
  have hM5 : M ≤ B5 := by omega
  have HBW : Hid (Below w.heap.size w W) := below_then HB0.out (below_then HB4.out (below_then hb5 hBW5))
  have HB4W : Hid (Below W4.heap.size W4 W) := below_then hb5 hBW5
  have HI0 : Hid (PsI W W B4 E (.slice none 0 0) (.slice none 0 0)) := ⟨Writes.refl _ _ _, HBo4.out.below HB4W.out, fun i => (World.frozen?_of_block (w := W4) (a := ⟨B4, i, none⟩) (HB4W.out.block B4 hz4)).trans (HFo4.out i)⟩
  have HBrW : Hid (Box4 W w.heap.size (.int .i64 0) (.int .i64 0) (.slice none 0 0) (.slice none 0 0)) := (HBr.out.below HB4.out).below HB4W.out
  have HFrW : Hid (∀ i, W.frozen? ⟨w.heap.size, i, none⟩ = false) := fun i => by
    rw [World.frozen?_of_block (w := W0) (a := ⟨w.heap.size, i, none⟩) ((below_then HB4.out HB4W.out).block w.heap.size hsW0)]
    exact HFr.out i
  have HTA : Hid (HAtTx W va txs) := hta.below hBW5
  have HRA : Hid (HAtRw W vb xs) := hra.below hBW5
  have HTB : Hid (∀ b off, va = some ⟨b, off, none⟩ → c0 ≤ b ∧ b < M) := by
    intro b off e
    subst e
    exact ⟨by rcases otx.2 with ⟨e2, _⟩ | ⟨g, cap9, cur, e2, hg9, _⟩ <;> first | (cases e2; done) | (injection e2 with e2; injection e2 with e2; injection e2 with e2 e3; subst e2; exact hg9), vtx b rfl⟩
  have HRB : Hid (∀ b off, vb = some ⟨b, off, none⟩ → M ≤ b ∧ b < B5) := by
    intro b off e
    subst e
    exact ⟨by rcases oxs.2 with ⟨e2, _⟩ | ⟨g, cap9, cur, e2, hg9, _⟩ <;> first | (cases e2; done) | (injection e2 with e2; injection e2 with e2; injection e2 with e2 e3; subst e2; exact hg9), by rw [hB5]; exact vxs b rfl⟩
  have HTD : Hid (txs.length = E.p ∧ txs.map HTx.t = (List.range E.p).map E.T ∧ ApTx txs ∧ ∀ x ∈ txs, CtTx W c0 M x) := ⟨ltx, dtx, atx, fun x hx => (ctx x hx).2.below hBW5⟩
  have HRD : Hid (xs.length = E.q ∧ xs.map HRw.t = (List.range E.q).map E.R ∧ ∀ x ∈ xs, CtRw W M B5 x) := ⟨lxs, dxs, fun x hx => by rw [hB5]; exact (cxs x hx).2.below hBW5⟩
  have HSZ : Hid (w.heap.size < c0) := by have := HB0.out.size; show w.heap.size < c0; omega
  have hwB4 : w.heap.size < B4 := by omega
  clear hgt hgr otx vtx atx ctx oxs vxs axs cxs hta hra ltx dtx lxs dxs hvc hvd hb5 hBW5 hB5 hzW hs5 HBr HFr HB0 HX0 HX4 HBo4 HFo4 HB4 HB4W hc0
  go_loopw [6] (fun i wr => ∃ k : Nat, k ≤ E.p ∧ i = .int .i64 k ∧ ∃ v m, Hid (((txs.take k).filter needTx).length = m) ∧ Hid (PsI W wr B4 E v (.slice none 0 0)) ∧ Hid (wr.ownsRow W.heap.size 64 5 v m (hbTx ((txs.take k).filter needTx)))) (fun i _ => E.p - (intOf i).toNat)
  case atStart => exact ⟨0, Nat.zero_le _, rfl, _, 0, rfl, HI0, World.ownsRow_nil _ _ _ _⟩
  case round =>
    clear HI0
    obtain ⟨k, hk, rfl, vv, m, HM, HI, HO⟩ := hrel
    obtain ⟨ya, yc, rfl, -, -⟩ := HAtTx.of_row HM.out HO.out
    have hsr : W.heap.size ≤ wr.heap.size := HI.out.writes.size
    have HB5r : Hid (Box4 wr B5 (.int .i64 E.nx) (.int .i64 E.ck) (.slice va E.p vc) (.slice vb E.q vd)) := HBo5.out.writes HI.out.writes (.inr (by omega))
    have hm20 : m ≤ 20 := by
      have h1 := List.length_filter_le needTx (txs.take k)
      have h2 := List.length_take_le k txs
      rw [HM.out] at h1
      omega
    by_cases hlt : k < E.p
    · have hlt' : (k : Int) < (E.p : Int) := by omega
      have hk0 : (0 : Int) ≤ (k : Int) := by omega
      obtain ⟨x, hx⟩ : ∃ x, txs[k]? = some x := ⟨_, List.getElem?_eq_getElem (by rw [HTD.out.1]; exact hlt)⟩
      rcases HTA.out with h | ⟨b, off, rfl, hbW, hcc⟩
      · rw [h] at hx; simp at hx
      have hbb := HTB.out b off rfl
      have hbr : b < wr.heap.size := by omega
      have HCR : Hid (CTx wr b (off + k * 5) x.t x.A x.c) := (hcc k x hx).block (HI.out.writes.block b hbW (.inr (by omega)))
      have HFN := filter_next (p := needTx) hx
      have HLT : Hid (k < E.p) := hlt
      obtain ⟨n0, n1, n2, n3⟩ := HB5r.out
      clear hcc hx
      by_cases hst : x.t.st = 1
      · have hst2 : (x.t.st == 1) = true := by simp [hst]
        have HFN2 : Hid ((txs.take (k + 1)).filter needTx = (txs.take k).filter needTx ++ [x]) := by rw [Hid, HFN, if_pos (by simp [needTx, hst])]
        obtain ⟨x0, x1, x2, x3, x4⟩ := HCR.out
        clear HFN hst
        go_upto_region 8 with fail
        clear x0 x1 x2 x3 x4
        · have tt : True := trivial
          clear tt
          refine wp_region_E 10 (S := fun u => u.cell? ⟨B4, 2, none⟩ = some (.slice ya m yc) ∧ u.cell? ⟨B5, 2, none⟩ = some (.slice (some ⟨b, off, none⟩) E.p vc) ∧ CTx u b (off + k * 5) x.t x.A x.c) (by kernel_rfl) (⟨HI.out.box.2.2.1, n2, HCR.out⟩) (fun hS => ?_)
          obtain ⟨u0, hu0⟩ : ∃ y, y = wr.drew := ⟨_, rfl⟩
          have hU0 : Below wr.heap.size wr u0 := by rw [hu0]; exact (Below.refl _ _).drew
          rw [← hu0] at hS ⊢
          clear hu0
          refine wpAnyE_takeD (L := 10) (i := 0) (v := .pointer (some ⟨B4, 2, none⟩)) (some 38) rfl rfl (by kernel_rfl) (by kernel_rfl) (by kernel_rfl) (by kernel_rfl) (fun _ _ _ h => h) (Or.inl ⟨by kernel_rfl, by intro u hSu; go_simp⟩) hS ?_
          try simp only [Act.put, List.setIfInBounds_toArray, List.set_cons_zero, List.set_cons_succ]
          refine wpAnyE_takeD (L := 10) (i := 1) (v := .slice ya m yc) (some 39) rfl rfl (by kernel_rfl) (by kernel_rfl) (by kernel_rfl) (by kernel_rfl) (fun _ _ _ h => h) (Or.inl ⟨by kernel_rfl, by intro u hSu; obtain ⟨g4, g5, k0, k1, k2, k3, k4⟩ := hSu; go_simp⟩) hS ?_
          try simp only [Act.put, List.setIfInBounds_toArray, List.set_cons_zero, List.set_cons_succ]
          refine wpAnyE_takeD (L := 10) (i := 2) (v := .pointer (some ⟨B5, 2, none⟩)) (some 40) rfl rfl (by kernel_rfl) (by kernel_rfl) (by kernel_rfl) (by kernel_rfl) (fun _ _ _ h => h) (Or.inl ⟨by kernel_rfl, by intro u hSu; go_simp⟩) hS ?_
          try simp only [Act.put, List.setIfInBounds_toArray, List.set_cons_zero, List.set_cons_succ]
          refine wpAnyE_takeD (L := 10) (i := 3) (v := .slice (some ⟨b, off, none⟩) E.p vc) (some 41) rfl rfl (by kernel_rfl) (by kernel_rfl) (by kernel_rfl) (by kernel_rfl) (fun _ _ _ h => h) (Or.inl ⟨by kernel_rfl, by intro u hSu; obtain ⟨g4, g5, k0, k1, k2, k3, k4⟩ := hSu; go_simp⟩) hS ?_
          try simp only [Act.put, List.setIfInBounds_toArray, List.set_cons_zero, List.set_cons_succ]
          refine wpAnyE_takeD (L := 10) (i := 4) (v := .int .i64 (k : Int)) (some 42) rfl rfl (by kernel_rfl) (by kernel_rfl) (by kernel_rfl) (by kernel_rfl) (fun _ _ _ h => h) (Or.inl ⟨by kernel_rfl, by intro u hSu; go_simp⟩) hS ?_
          try simp only [Act.put, List.setIfInBounds_toArray, List.set_cons_zero, List.set_cons_succ]
          refine wpAnyE_takeD (L := 10) (i := 5) (v := .pointer (some ⟨b, off + k * 5, none⟩)) (some 43) rfl rfl (by kernel_rfl) (by kernel_rfl) (by kernel_rfl) (by kernel_rfl) (fun _ _ _ h => h) (Or.inl ⟨by kernel_rfl, by intro u hSu; go_simp⟩) hS ?_
          try simp only [Act.put, List.setIfInBounds_toArray, List.set_cons_zero, List.set_cons_succ]
          refine wpAnyE_takeD (L := 10) (i := 6) (v := .agg #[.int .i64 x.t.id, .int .i64 x.t.am, .int .i64 x.t.st, .int .i64 x.t.dn, .slice x.A x.t.n x.c]) (some 44) rfl rfl (by kernel_rfl) (by kernel_rfl) (by kernel_rfl) (by kernel_rfl) (fun _ _ _ h => h) (Or.inl ⟨by kernel_rfl, by intro u hSu; obtain ⟨g4, g5, k0, k1, k2, k3, k4⟩ := hSu; go_simp⟩) hS ?_
          try simp only [Act.put, List.setIfInBounds_toArray, List.set_cons_zero, List.set_cons_succ]
          refine wpAnyE_ready (rs := [7]) (by kernel_rfl) (by simp) ?_
          refine AllReadyE.cons rfl (fun K9 hK => ?_) AllReadyE.nil
          go_simp
          refine hK.out _ _ (⟨cell_alloc hS.1 _, cell_alloc hS.2.1 _, hS.2.2.block ((below_new u0 _).block b (Nat.lt_of_lt_of_le hbr hU0.size))⟩) (fun hS9 => ?_)
          try simp only [Act.put, List.setIfInBounds_toArray, List.set_cons_zero, List.set_cons_succ]
          clear hK K9 hS
          have hS := hS9
          clear hS9
          obtain ⟨w1, hw1⟩ : ∃ y, y = u0.alloc (.cells #[.int .i64 x.t.id, .int .i64 x.t.am, .int .i64 x.t.st, .int .i64 x.t.dn, .slice x.A x.t.n x.c] 64) := ⟨_, rfl⟩
          have hb1 : Below wr.heap.size wr w1 := by rw [hw1]; exact below_then hU0 (below_new _ _)
          have hc1 : CTx w1 u0.heap.size 0 x.t x.A x.c := by rw [hw1]; simp [CTx, go_sem]
          rw [← hw1] at hS ⊢
          clear hw1
          have HO1 : Hid (w1.ownsRow W.heap.size 64 5 (.slice ya m yc) m (hbTx ((txs.take k).filter needTx))) := own_belowI HO.out hb1
          have HI1 : Hid (PsI W w1 B4 E (.slice ya m yc) (.slice none 0 0)) := HI.out.below hb1 hB4W
          have hz1 := hb1.size
          clear hb1
          refine wpAnyE_ready (rs := [8]) (by kernel_rfl) (by simp) ?_
          refine AllReadyE.cons rfl (fun K9 hK => ?_) AllReadyE.nil
          refine step_appHTx _ (some 46) rfl rfl (.tmp 39) (.tmp 45) rfl W.heap.size _ m ((txs.take k).filter needTx) HM.out rfl HO1.out u0.heap.size 1 x rfl hc1 (by omega) (by omega) (fun v2 w3 ho3 hg3 => ?_)
          have hlo : ∀ q, (Value.slice ya m yc).ownBlock = some q → W.heap.size ≤ q := fun q hq => (HO1.out.lt q hq).1
          obtain ⟨yb, yd, rfl, -, -⟩ := HAtTx.of_row (xs := (txs.take k).filter needTx ++ [x]) (by simp [HM.out]) ho3
          have HI3 : Hid (PsI W w3 B4 E (.slice ya m yc) (.slice none 0 0)) := HI1.out.grown hg3 hlo hB4W
          have HO3 : Hid (w3.ownsRow W.heap.size 64 5 (.slice yb (m + 1) yd) (m + 1) (hbTx ((txs.take k).filter needTx ++ [x]))) := ho3
          have hz3 := hg3.size
          have kb : ∀ q, q < W.heap.size → w3.heap[q]? = w1.heap[q]? := fun q hq => hg3.block q (by omega) (fun e => by have := hlo q e.symm; omega)
          refine hK.out _ _ ⟨HI3.out.box.2.2.1, (World.cell?_of_block (w := w1) (a := ⟨B5, 2, none⟩) (kb B5 hB5W)).trans hS.2.1, hS.2.2.block (kb b hbW)⟩ (fun hS9 => ?_)
          try simp only [Act.put, List.setIfInBounds_toArray, List.set_cons_zero, List.set_cons_succ]
          clear hK K9 hS ho3 hg3 hlo kb HO1 HI1 hc1
          have hS := hS9
          clear hS9
          refine wpAnyE_ready (rs := [9]) (by kernel_rfl) (by simp) ?_
          refine AllReadyE.cons rfl (fun K9 hK => ?_) AllReadyE.nil
          go_simp
          refine hK.out _ _ (hS) (fun hS9 => ?_)
          try simp only [Act.put, List.setIfInBounds_toArray, List.set_cons_zero, List.set_cons_succ]
          clear hK K9 hS
          have hS := hS9
          clear hS9
          refine wpAnyE_ready (rs := [10]) (by kernel_rfl) (by simp) ?_
          refine AllReadyE.last rfl (fun K9 hK => ?_)
          have f4 := HI3.out.frz 2
          have z4 := hS.1
          have HI4 : Hid (PsI W (w3.setCell ⟨B4, 2, none⟩ (.slice yb (m + 1) yd)) B4 E (.slice yb (m + 1) yd) (.slice none 0 0)) := HI3.out.set2 _
          have HO4 : Hid ((w3.setCell ⟨B4, 2, none⟩ (.slice yb (m + 1) yd)).ownsRow W.heap.size 64 5 (.slice yb (m + 1) yd) (m + 1) (hbTx ((txs.take k).filter needTx ++ [x]))) := row_set HO3.out hB4W
          go_simp
          refine hK.out _ _ ?_
          clear hK K9 hS f4 z4 HO3 HI3
          refine wpAnyE_done (by kernel_rfl) ?_ _
          go_simp
          rw [← HFN2.out] at HO4
          have HM4 : Hid (((txs.take (k + 1)).filter needTx).length = m + 1) := by rw [Hid, HFN2.out]; simp [HM.out]
          go_wp2_with fail
          go_roundw
          case rel => exact ⟨k + 1, HLT.out, by go_num, _, _, HM4, HI4, HO4⟩
          case measure => simp [intOf]; omega
      · have hst2 : (x.t.st == 1) = false := by simp [hst]
        have HFN2 : Hid ((txs.take (k + 1)).filter needTx = (txs.take k).filter needTx) := by rw [Hid, HFN, if_neg (by simp [needTx, hst])]
        obtain ⟨x0, x1, x2, x3, x4⟩ := HCR.out
        have HM4 : Hid (((txs.take (k + 1)).filter needTx).length = m) := by rw [Hid, HFN2.out]; exact HM.out
        have HO4 : Hid (wr.ownsRow W.heap.size 64 5 (.slice ya m yc) m (hbTx ((txs.take (k + 1)).filter needTx))) := by rw [Hid, HFN2.out]; exact HO.out
        clear HFN hst
        go_wp2_with fail
        go_roundw
        case rel => exact ⟨k + 1, HLT.out, by go_num, _, _, HM4, HI, HO4⟩
        case measure => simp [intOf]; omega
    · have hkn : k = E.p := by omega
      have hnl : ¬ ((k : Int) < (E.p : Int)) := by omega
      obtain ⟨m1, rfl⟩ : ∃ x, x = m := ⟨m, rfl⟩
      have hO := HO.out
      have hMm := HM.out
      rw [hkn, ← HTD.out.1, List.take_length] at hO hMm
      have HO7 : Hid (wr.ownsRow W.heap.size 64 5 (.slice ya m1 yc) m1 (hbTx (txs.filter needTx))) := hO
      have HM7 : Hid ((txs.filter needTx).length = m1) := hMm
      obtain ⟨w7, rfl⟩ : ∃ x, x = wr := ⟨wr, rfl⟩
      obtain ⟨n0, n1, n2, n3⟩ := HB5r.out
      clear hO hMm hkn HO HM
      go_wp2_with fail
      have HIW : Hid (PsI W w7 B4 E (.slice ya m1 yc) (.slice none 0 0)) := HI
      have HI7 : Hid (PsI w7 w7 B4 E (.slice ya m1 yc) (.slice none 0 0)) := ⟨Writes.refl _ _ _, HI.out.box, HI.out.frz⟩
      obtain ⟨v, hv⟩ : ∃ y, y = Value.slice ya m1 yc := ⟨_, rfl⟩
      have HV : Hid (v = .slice ya m1 yc) := hv
      have hB47 : B4 < w7.heap.size := by omega
      have hB57 : B5 < w7.heap.size := by omega
      have HG0 : Hid (GrRw w7.heap.size w7.heap.size w7 (.slice none 0 0) 0 (fun i => (lk fl E 0).getD i zRw)) := GrRw.nil _ _ _
      rw [← hv] at HI7
      clear hv n0 n1 n2 n3
      go_loopw [7, 8] (fun i _ wr => ∃ k : Nat, k ≤ E.q ∧ i = .int .i64 k ∧ ∃ v2 m2, Hid ((lk fl E k).length = m2) ∧ Hid (PsI w7 wr B4 E v v2) ∧ Hid (GrRw w7.heap.size wr.heap.size wr v2 m2 (fun i => (lk fl E k).getD i zRw))) (fun i _ _ => E.q - (intOf i).toNat)
      case atStart => exact ⟨0, Nat.zero_le _, rfl, _, 0, rfl, HI7, HG0⟩
      case round =>
        clear HI7 HG0
        obtain ⟨k, hk, rfl, v2, m, HM, HI, HG⟩ := hrel
        obtain ⟨ya2, yc2, rfl, -, -⟩ := HG.out.own
        have hsz7 : w7.heap.size ≤ wr.heap.size := HI.out.writes.size
        have HB5r : Hid (Box4 wr B5 (.int .i64 E.nx) (.int .i64 E.ck) (.slice va E.p vc) (.slice vb E.q vd)) := (HBo5.out.writes HIW.out.writes (.inr (by omega))).writes HI.out.writes (.inr (by omega))
        have hm20 : m ≤ 32 := by
          have h1 := lk_len fl E k
          rw [HM.out] at h1
          omega
        by_cases hlt : k < E.q
        · have hlt' : (k : Int) < (E.q : Int) := by omega
          have hk0 : (0 : Int) ≤ (k : Int) := by omega
          obtain ⟨x, hx⟩ : ∃ x, xs[k]? = some x := ⟨_, List.getElem?_eq_getElem (by rw [HRD.out.1]; exact hlt)⟩
          have hxr := (data_at HRD.out.2.1 hx).2
          have hxc := HRD.out.2.2 x (List.mem_of_getElem? hx)
          rcases HRA.out with h | ⟨b, off, rfl, hbW, hcc⟩
          · rw [h] at hx; simp at hx
          have hbb := HRB.out b off rfl
          have hb7 : b < w7.heap.size := by omega
          have hbr0 : b < wr.heap.size := by omega
          have HCR : Hid (CRw wr b (off + k * 2) x.t x.A x.c) := ((hcc k x hx).block (HIW.out.writes.block b hbW (.inr (by omega)))).block (HI.out.writes.block b hb7 (.inr (by omega)))
          have HCH : Hid (chF x.t.n x.t.U = 0) := by rw [Hid, hxr]; exact (rF_good (HGR.out k hlt)).2.2.1
          have HVX : Hid (VersAt wr x.A x.t.n x.t.U) := ((hxc.2.2.writes HIW.out.writes (by have := hxc.1; omega)).writes HI.out.writes (by have := hxc.1; omega)).at
          have HLK : Hid (x.t = E.R k) := hxr
          have HLT : Hid (k < E.q) := hlt
          obtain ⟨n0, n1, n2, n3⟩ := HB5r.out
          obtain ⟨x0, x1⟩ := HCR.out
          clear hcc hx hxr hxc hlt
          go_upto_region 13 with (first | (go_at_call 87; refine (l5PurgeW_any x.t.n x.t.U x.A x.c fl _ HCH.out HVX.out).mono ?_; rintro e u1 ⟨A, c, rfl, hbu, ho9, hle9⟩))
          have hzu := hbu.size
          have HO9 : Hid (Own4 u1 wr.heap.size u1.heap.size A (puR fl x.t).n (puR fl x.t).U) := ho9
          have HLE9 : Hid ((puR fl x.t).n ≤ c) := hle9
          have HI1 : Hid (PsI w7 u1 B4 E v (.slice ya2 m yc2)) := HI.out.below hbu hB47
          have HCR1 : Hid (CRw u1 b (off + k * 2) x.t x.A x.c) := HCR.out.block (hbu.block b hbr0)
          have hbr : b < u1.heap.size := by omega
          have HGu : Hid (GrRw w7.heap.size u1.heap.size u1 (.slice ya2 m yc2) m (fun i => (lk fl E k).getD i zRw)) := (HG.out.below hbu).wide hzu (Nat.le_refl _)
          have HGo : Hid (GrRw w7.heap.size wr.heap.size u1 (.slice ya2 m yc2) m (fun i => (lk fl E k).getD i zRw)) := HG.out.below hbu
          replace n3 := cell_below n3 hbu
          obtain ⟨m9, hm9⟩ : ∃ y, y = puN x.t.n x.t.U fl := ⟨_, rfl⟩
          have HM9 : Hid (m9 = puN x.t.n x.t.U fl) := hm9
          rw [← hm9]
          clear hbu ho9 hle9 n0 n1 n2 x0 x1 hm9 HG HI HCR HVX
          by_cases hpos : 0 < m9
          · have hpos' : (0 : Int) < (m9 : Int) := by omega
            have HPOS : Hid (0 < puN (E.R k).n (E.R k).U fl) := by rw [Hid, ← HLK.out, ← HM9.out]; exact hpos
            have HM4 : Hid ((lk fl E (k + 1)).length = m + 1) := by rw [Hid, lk_next, if_pos HPOS.out]; simp [HM.out]
            have HG := HGo
            clear HGu HGo
            obtain ⟨c0, c1, c2, c3⟩ := HI1.out.box
            go_upto_region 14 with fail
            clear c0 c1 c2 c3
            refine wp_region_E 13 (S := fun u => u.cell? ⟨B4, 3, none⟩ = some (.slice ya2 m yc2) ∧ u.cell? ⟨B5, 3, none⟩ = some (.slice (some ⟨b, off, none⟩) E.q vd) ∧ CRw u b (off + k * 2) x.t x.A x.c) (by kernel_rfl) (⟨HI1.out.box.2.2.2, n3, HCR1.out⟩) (fun hS => ?_)
            obtain ⟨u0, hu0⟩ : ∃ y, y = u1.drew := ⟨_, rfl⟩
            have hU0 : Below u1.heap.size u1 u0 := by rw [hu0]; exact (Below.refl _ _).drew
            rw [← hu0] at hS ⊢
            clear hu0
            refine wpAnyE_takeD (L := 13) (i := 0) (v := .pointer (some ⟨B4, 3, none⟩)) (some 66) rfl rfl (by kernel_rfl) (by kernel_rfl) (by kernel_rfl) (by kernel_rfl) (fun _ _ _ h => h) (Or.inl ⟨by kernel_rfl, by intro u hSu; go_simp⟩) hS ?_
            try simp only [Act.put, List.setIfInBounds_toArray, List.set_cons_zero, List.set_cons_succ]
            refine wpAnyE_takeD (L := 13) (i := 1) (v := .slice ya2 m yc2) (some 67) rfl rfl (by kernel_rfl) (by kernel_rfl) (by kernel_rfl) (by kernel_rfl) (fun _ _ _ h => h) (Or.inl ⟨by kernel_rfl, by intro u hSu; obtain ⟨g4, g5, k0, k1⟩ := hSu; go_simp⟩) hS ?_
            try simp only [Act.put, List.setIfInBounds_toArray, List.set_cons_zero, List.set_cons_succ]
            refine wpAnyE_takeD (L := 13) (i := 2) (v := .pointer (some ⟨B5, 3, none⟩)) (some 68) rfl rfl (by kernel_rfl) (by kernel_rfl) (by kernel_rfl) (by kernel_rfl) (fun _ _ _ h => h) (Or.inl ⟨by kernel_rfl, by intro u hSu; go_simp⟩) hS ?_
            try simp only [Act.put, List.setIfInBounds_toArray, List.set_cons_zero, List.set_cons_succ]
            refine wpAnyE_takeD (L := 13) (i := 3) (v := .slice (some ⟨b, off, none⟩) E.q vd) (some 69) rfl rfl (by kernel_rfl) (by kernel_rfl) (by kernel_rfl) (by kernel_rfl) (fun _ _ _ h => h) (Or.inl ⟨by kernel_rfl, by intro u hSu; obtain ⟨g4, g5, k0, k1⟩ := hSu; go_simp⟩) hS ?_
            try simp only [Act.put, List.setIfInBounds_toArray, List.set_cons_zero, List.set_cons_succ]
            refine wpAnyE_takeD (L := 13) (i := 4) (v := .int .i64 (k : Int)) (some 70) rfl rfl (by kernel_rfl) (by kernel_rfl) (by kernel_rfl) (by kernel_rfl) (fun _ _ _ h => h) (Or.inl ⟨by kernel_rfl, by intro u hSu; go_simp⟩) hS ?_
            try simp only [Act.put, List.setIfInBounds_toArray, List.set_cons_zero, List.set_cons_succ]
            refine wpAnyE_takeD (L := 13) (i := 5) (v := .pointer (some ⟨b, off + k * 2, none⟩)) (some 71) rfl rfl (by kernel_rfl) (by kernel_rfl) (by kernel_rfl) (by kernel_rfl) (fun _ _ _ h => h) (Or.inl ⟨by kernel_rfl, by intro u hSu; go_simp⟩) hS ?_
            try simp only [Act.put, List.setIfInBounds_toArray, List.set_cons_zero, List.set_cons_succ]
            refine wpAnyE_takeD (L := 13) (i := 6) (v := .pointer (some ⟨b, off + k * 2, none⟩)) (some 72) rfl rfl (by kernel_rfl) (by kernel_rfl) (by kernel_rfl) (by kernel_rfl) (fun _ _ _ h => h) (Or.inl ⟨by kernel_rfl, by intro u hSu; go_simp⟩) hS ?_
            try simp only [Act.put, List.setIfInBounds_toArray, List.set_cons_zero, List.set_cons_succ]
            refine wpAnyE_takeD (L := 13) (i := 7) (v := .int .i64 x.t.key) (some 73) rfl rfl (by kernel_rfl) (by kernel_rfl) (by kernel_rfl) (by kernel_rfl) (fun _ _ _ h => h) (Or.inl ⟨by kernel_rfl, by intro u hSu; obtain ⟨g4, g5, k0, k1⟩ := hSu; go_simp⟩) hS ?_
            try simp only [Act.put, List.setIfInBounds_toArray, List.set_cons_zero, List.set_cons_succ]
            refine wpAnyE_takeD (L := 13) (i := 8) (v := .slice A m9 c) (some 74) rfl rfl (by kernel_rfl) (by kernel_rfl) (by kernel_rfl) (by kernel_rfl) (fun _ _ _ h => h) (Or.inl ⟨by kernel_rfl, by intro u hSu; go_simp⟩) hS ?_
            try simp only [Act.put, List.setIfInBounds_toArray, List.set_cons_zero, List.set_cons_succ]
            refine wpAnyE_takeD (L := 13) (i := 9) (v := .agg #[.int .i64 x.t.key, .slice A m9 c]) (some 75) rfl rfl (by kernel_rfl) (by kernel_rfl) (by kernel_rfl) (by kernel_rfl) (fun _ _ _ h => h) (Or.inl ⟨by kernel_rfl, by intro u hSu; go_simp⟩) hS ?_
            try simp only [Act.put, List.setIfInBounds_toArray, List.set_cons_zero, List.set_cons_succ]
            refine wpAnyE_ready (rs := [10]) (by kernel_rfl) (by simp) ?_
            refine AllReadyE.cons rfl (fun K9 hK => ?_) AllReadyE.nil
            go_simp
            refine hK.out _ _ (⟨cell_alloc hS.1 _, cell_alloc hS.2.1 _, hS.2.2.block ((below_new u0 _).block b (Nat.lt_of_lt_of_le hbr hU0.size))⟩) (fun hS9 => ?_)
            try simp only [Act.put, List.setIfInBounds_toArray, List.set_cons_zero, List.set_cons_succ]
            clear hK K9 hS
            have hS := hS9
            clear hS9
            obtain ⟨w1, hw1⟩ : ∃ y, y = u0.alloc (.cells #[.int .i64 x.t.key, .slice A m9 c] 105) := ⟨_, rfl⟩
            have hb1 : Below u1.heap.size u1 w1 := by rw [hw1]; exact below_then hU0 (below_new _ _)
            have hc1 : CRw w1 u0.heap.size 0 (puR fl x.t) A c := by rw [hw1]; simp [CRw, go_sem, puR, HM9.out]
            rw [← hw1] at hS ⊢
            clear hw1
            have hz1 := hb1.size
            have HG1 : Hid (GrRw w7.heap.size wr.heap.size w1 (.slice ya2 m yc2) m (fun i => (lk fl E k).getD i zRw)) := HG.out.below hb1
            have HI2 : Hid (PsI w7 w1 B4 E v (.slice ya2 m yc2)) := HI1.out.below hb1 hB47
            have HO9a : Hid (Own4 w1 wr.heap.size u1.heap.size A (puR fl x.t).n (puR fl x.t).U) := HO9.out.below hb1
            clear hb1
            refine wpAnyE_ready (rs := [11]) (by kernel_rfl) (by simp) ?_
            refine AllReadyE.cons rfl (fun K9 hK => ?_) AllReadyE.nil
            refine step_grRw w1 rfl (.tmp 67) (.tmp 76) rfl w7.heap.size wr.heap.size _ m _ rfl HG1.out u0.heap.size 0 1 (puR fl x.t) A c wr.heap.size u1.heap.size rfl hc1 (.inr ⟨Nat.le_refl _, hz1⟩) hsz7 HLE9.out HO9a.out (by omega) (fun g gc w3 hgr3 hg3 => ?_)
            have hlo : ∀ q, (Value.slice ya2 m yc2).ownBlock = some q → w7.heap.size ≤ q := fun q hq => by obtain ⟨_, _, _, _, _, ho, _⟩ := HG1.out; exact (ho.lt q hq).1
            have HI3 : Hid (PsI w7 w3 B4 E v (.slice ya2 m yc2)) := HI2.out.grown hg3 hlo hB47
            have HG3 : Hid (GrRw w7.heap.size w3.heap.size w3 (.slice (some ⟨g, 0, none⟩) (m + 1) gc) (m + 1) (upf (fun i => (lk fl E k).getD i zRw) m (puR fl x.t))) := hgr3
            have hz3 := hg3.size
            have kb : ∀ q, q < w7.heap.size → w3.heap[q]? = w1.heap[q]? := fun q hq => hg3.block q (by omega) (fun e => by have := hlo q e.symm; omega)
            refine hK.out _ _ ⟨HI3.out.box.2.2.2, (World.cell?_of_block (w := w1) (a := ⟨B5, 3, none⟩) (kb B5 hB57)).trans hS.2.1, hS.2.2.block (kb b hb7)⟩ (fun hS9 => ?_)
            try simp only [Act.put, List.setIfInBounds_toArray, List.set_cons_zero, List.set_cons_succ]
            clear hK K9 hS hgr3 hg3 hlo kb HG1 HI2 hc1 HO9a
            have hS := hS9
            clear hS9
            refine wpAnyE_ready (rs := [12]) (by kernel_rfl) (by simp) ?_
            refine AllReadyE.cons rfl (fun K9 hK => ?_) AllReadyE.nil
            go_simp
            refine hK.out _ _ (hS) (fun hS9 => ?_)
            try simp only [Act.put, List.setIfInBounds_toArray, List.set_cons_zero, List.set_cons_succ]
            clear hK K9 hS
            have hS := hS9
            clear hS9
            refine wpAnyE_ready (rs := [13]) (by kernel_rfl) (by simp) ?_
            refine AllReadyE.last rfl (fun K9 hK => ?_)
            have f4 := HI3.out.frz 3
            have z4 := hS.1
            have HI4 : Hid (PsI w7 (w3.setCell ⟨B4, 3, none⟩ (.slice (some ⟨g, 0, none⟩) (m + 1) gc)) B4 E v (.slice (some ⟨g, 0, none⟩) (m + 1) gc)) := HI3.out.set3 _
            have HG4 : Hid (GrRw w7.heap.size (w3.setCell ⟨B4, 3, none⟩ (.slice (some ⟨g, 0, none⟩) (m + 1) gc)).heap.size (w3.setCell ⟨B4, 3, none⟩ (.slice (some ⟨g, 0, none⟩) (m + 1) gc)) (.slice (some ⟨g, 0, none⟩) (m + 1) gc) (m + 1) (fun i => (lk fl E (k + 1)).getD i zRw)) := by
              have e9 : (w3.setCell ⟨B4, 3, none⟩ (.slice (some ⟨g, 0, none⟩) (m + 1) gc)).heap.size = w3.heap.size := by simp [World.setCell]
              rw [Hid, e9]
              refine (HG3.out.writes (Writes.setCell (Writes.refl B4 (B4 + 1) w3) (p := ⟨B4, 3, none⟩) (Nat.le_refl _) (Nat.lt_succ_self _) _) (.inl (by omega))).congr fun i hi => ?_
              exact lk_up HLK.out HPOS.out HM.out hi
            go_simp
            refine hK.out _ _ ?_
            clear hK K9 hS f4 z4 HG3 HI3
            refine wpAnyE_done (by kernel_rfl) ?_ _
            go_simp
            go_wp2_with fail
            go_roundw
            case rel => exact ⟨k + 1, HLT.out, by go_num, _, _, HM4, HI4, HG4⟩
            case measure => simp [intOf]; omega
          · have hpos' : ¬ (0 : Int) < (m9 : Int) := by omega
            have hz9 : m9 = 0 := by omega
            have HLN : lk fl E (k + 1) = lk fl E k := by rw [lk_next, if_neg (by rw [← HLK.out, ← HM9.out]; exact hpos)]
            have HM4 : Hid ((lk fl E (k + 1)).length = m) := by rw [Hid, HLN]; exact HM.out
            have HG4 : Hid (GrRw w7.heap.size u1.heap.size u1 (.slice ya2 m yc2) m (fun i => (lk fl E (k + 1)).getD i zRw)) := by rw [Hid, HLN]; exact HGu.out
            clear HLN hpos hz9
            go_wp2_with fail
            go_roundw
            case rel => exact ⟨k + 1, HLT.out, by go_num, _, _, HM4, HI1, HG4⟩
            case measure => simp [intOf]; omega
        · have hkn : k = E.q := by omega
          have hnl : ¬ ((k : Int) < (E.q : Int)) := by omega
          have hMm := HM.out
          have hGm := HG.out
          rw [hkn, HFE.out] at hMm hGm
          have HLR : Hid ((pgR E).length = m) := hMm
          obtain ⟨ra, rcp, erc, hrc, hOR⟩ := hGm.own
          injection erc with erc1 erc2 erc3
          subst erc1
          subst erc3
          have HOR : Hid (OwnRw wr w7.heap.size wr.heap.size ya2 m (fun i => (pgR E).getD i zRw)) := hOR
          have HLT : Hid ((pgT E).length = (txs.filter needTx).length) := (filter_len (pgT_of HTD.out.2.1)).symm
          have HTr : Hid (wr.ownsRow W.heap.size 64 5 v (pgT E).length (hbTx (txs.filter needTx))) := by
            rw [Hid, HLT.out, HM7.out, HV.out]
            exact ownsRow_of HO7.out fun q hq => HI.out.writes.block q (HO7.out.lt q hq).2 (.inr (by have := (HO7.out.lt q hq).1; omega))
          have HTC : Hid (∀ x ∈ txs.filter needTx, CtTx wr c0 M x) := fun x hx => ((HTD.out.2.2.2 x (List.mem_filter.1 hx).1).writes HIW.out.writes (.inl (by omega))).writes HI.out.writes (.inl (by omega))
          have HBr1 : Hid (Box4 wr w.heap.size (.int .i64 0) (.int .i64 0) (.slice none 0 0) (.slice none 0 0)) := (HBrW.out.writes HIW.out.writes (.inl (by omega))).writes HI.out.writes (.inl (by omega))
          have HFr1 : Hid (∀ i, wr.frozen? ⟨w.heap.size, i, none⟩ = false) := fun i => by
            rw [World.frozen?_of_block (w := w7) (a := ⟨w.heap.size, i, none⟩) (HI.out.writes.block w.heap.size (by omega) (.inl (by omega))), World.frozen?_of_block (w := W) (a := ⟨w.heap.size, i, none⟩) (HIW.out.writes.block w.heap.size (by omega) (.inl (by omega)))]
            exact HFrW.out i
          have HB1 : Hid (Below w.heap.size w wr) := Writes.below (Writes.below HBW.out HIW.out.writes (by omega)) HI.out.writes (by omega)
          have HF : Hid (∀ w9, Writes w.heap.size (w.heap.size + 1) wr w9 → w9.heap.size = wr.heap.size → PgA E w (.returned (.agg #[.int .i64 E.nx, .int .i64 E.ck, v, .slice ya2 m yc2])) w9) := fun w9 g9 z9 => by
            have hT9 := ownsRow_of HTr.out (w' := w9) fun q hq => g9.block q (HTr.out.lt q hq).2 (.inr (by have := (HTr.out.lt q hq).1; omega))
            have lt : (txs.filter needTx).length = (pgT E).length := HLT.out.symm
            have hsz := HSZ.out
            obtain ⟨a9, cap9, e9, hc9, hP⟩ := OwnTxP.of (B := c0) (M := M) lt hT9 (HTD.out.2.2.1.filter _) (fun x hx => (HTC.out x hx).writes g9 (.inl (by omega))) (fun q hq => by have := (hT9.lt q hq).1; omega)
            have hQ := (HOR.out.writes g9 (.inr (by omega))).toP
            have hb9 : Below w.heap.size w w9 := Writes.below HB1.out g9 (Nat.le_refl _)
            have hv7 : ∀ q, v.ownBlock = some q → q < w7.heap.size := fun q hq => by rw [HV.out] at hq; exact (HO7.out.lt q hq).2
            rw [← HLR.out] at hQ ⊢
            refine ⟨a9, cap9, ya2, yc2, by rw [e9]; rfl, hb9, Nat.le_refl _, _, _, fun y hy => ?_, fun y hy => ?_, fun y hy hz => ?_, hP.congr fun i hi => ?_, hQ⟩
            · rcases hy with hy | hy
              · omega
              · have := hT9.lt y hy; omega
            · omega
            · rcases hy with hy | hy
              · omega
              · have := hv7 y hy; omega
            · rw [pgT_of HTD.out.2.1]
              rfl
          obtain ⟨d0, d1, d2, d3⟩ := HI.out.box
          obtain ⟨r0, r1, r2, r3⟩ := HBr1.out
          have rf := HFr1.out
          obtain ⟨n0, n1, n2, n3⟩ := HB5r.out
          rw [HV.out] at d2 HF
          clear HG hMm hGm hOR HOR HTr HTC HBr1 HFr1 HI HV
          go_wp2_with fail
          refine bodyPost_ret (v := .agg #[.int .i64 E.nx, .int .i64 E.ck, .slice ya m1 yc, .slice ya2 m yc2]) (by simp [results, Tryz.results48, go_sem, *]) rfl ?_
          refine HF.out _ ?_ (by simp [World.setCell])
          repeat (first | with_reducible exact Writes.refl _ _ _ | with_reducible refine Writes.setCell ?_ (by first | omega | (simp <;> omega)) (by first | omega | (simp <;> omega)) _)
end Go.Proofs.YtnhlcadipkmhhaaGreat
