/- impl.purgedEngine. -/
import Derived.Test.YtnhlcadipkmhhaaGreatQPgb
import Derived.Test.YtnhlcadipkmhhaaGreatQNer
import Derived.Test.YtnhlcadipkmhhaaGreatQUc
import Derived.Test.YtnhlcadipkmhhaaGreatQVi
import Derived.Test.YtnhlcadipkmhhaaGreatQKz
namespace Go.Proofs.YtnhlcadipkmhhaaGreat
open Go.RowKit Go.Deep
set_option linter.unusedVariables false
set_option linter.unusedSimpArgs false
set_option maxRecDepth 20000

/-- The rows of a copy, the first k of them purged by now. -/
structure PgI (W wr : World) (f : Int) (M top : Nat) (vb : Option Addr) (R : Nat → Rw) (xs ps : List HRw) (k : Nat) : Prop where
  writes : Writes M top W wr
  at_ : HAtRw wr vb (ps ++ xs.drop k)
  frz : ∀ b off, vb = some ⟨b, off, none⟩ → ∀ i, wr.frozen? ⟨b, i, none⟩ = false
  rest : ∀ x ∈ xs.drop k, CtRw wr M top x
  len : ps.length = k
  data : ps.map HRw.t = (List.range k).map (fun i => puR f (R i))
  apart : ApRw ps
  own : ∀ p ∈ ps, CtRw wr W.heap.size wr.heap.size p
theorem drop_at {α : Type} {xs : List α} {k : Nat} {x : α} (h : xs[k]? = some x) : xs.drop k = x :: xs.drop (k + 1) := by
  obtain ⟨hk, rfl⟩ := List.getElem?_eq_some_iff.1 h
  exact List.drop_eq_getElem_cons hk
theorem PgI.cellAt {W wr : World} {f : Int} {M top : Nat} {vb : Option Addr} {R : Nat → Rw} {xs ps : List HRw} {k : Nat} (h : PgI W wr f M top vb R xs ps k) {x : HRw} (hx : xs[k]? = some x) : (ps ++ xs.drop k)[k]? = some x := by
  rw [List.getElem?_append_right (by rw [h.len]; exact Nat.le_refl _), h.len, Nat.sub_self, drop_at hx]
  rfl
theorem PgI.step {W wr u : World} {f : Int} {M top b off lo hi c : Nat} {A : Option Addr} {R : Nat → Rw} {xs ps : List HRw} {k : Nat} {x : HRw} (h : PgI W wr f M top (some ⟨b, off, none⟩) R xs ps k) (hx : xs[k]? = some x) (hxr : x.t = R k) (hb : Below wr.heap.size wr u)
    (hMt : top ≤ W.heap.size) (hb1 : M ≤ b) (hb2 : b < top) (hbx : ∀ y ∈ xs, b < y.l ∨ y.h ≤ b) (hlo : wr.heap.size ≤ lo) (hhi : hi ≤ u.heap.size) (hm : puN x.t.n x.t.U f ≤ c) (ho : Own4 u lo hi A (puN x.t.n x.t.U f) x.t.U) :
    PgI W (u.setCell ⟨b, off + k * 2 + 1, none⟩ (.slice A (puN x.t.n x.t.U f) c)) f M top (some ⟨b, off, none⟩) R xs (ps ++ [⟨puR f x.t, A, c, lo, hi⟩]) (k + 1) := by
  obtain ⟨h1, h2, h3, h4, h5, h6, h7, h8⟩ := h
  have hsz : W.heap.size ≤ wr.heap.size := h1.size
  have hw0 : Writes b (b + 1) u (u.setCell ⟨b, off + k * 2 + 1, none⟩ (.slice A (puN x.t.n x.t.U f) c)) := Writes.setCell (Writes.refl _ _ _) (p := ⟨b, off + k * 2 + 1, none⟩) (Nat.le_refl _) (Nat.lt_succ_self _) _
  have hsu := hb.size
  have hs9 : (u.setCell ⟨b, off + k * 2 + 1, none⟩ (.slice A (puN x.t.n x.t.U f) c)).heap.size = u.heap.size := by simp [World.setCell]
  refine ⟨?_, ?_, ?_, ?_, by simp [h5], ?_, ?_, ?_⟩
  · exact Writes.setCell (h1.trans (Writes.of_below hb)) (p := ⟨b, off + k * 2 + 1, none⟩) hb1 hb2 _
  · rcases h2 with h2 | ⟨b', off', e, hl, hc⟩
    · have := congrArg List.length h2
      rw [drop_at hx] at this
      simp at this
    · simp only [Option.some.injEq, Addr.mk.injEq, and_true] at e
      obtain ⟨rfl, rfl⟩ := e
      have eL : ps ++ [(⟨puR f x.t, A, c, lo, hi⟩ : HRw)] ++ xs.drop (k + 1) = ps ++ (⟨puR f x.t, A, c, lo, hi⟩ : HRw) :: xs.drop (k + 1) := by simp
      rw [eL]
      refine .inr ⟨b, off, rfl, by rw [hs9]; omega, fun i y hy => ?_⟩
      by_cases hik : i = k
      · subst hik
        rw [List.getElem?_append_right (by omega), h5, Nat.sub_self, List.getElem?_cons_zero, Option.some.injEq] at hy
        subst hy
        have hold := (hc i x (by rw [List.getElem?_append_right (by omega), h5, Nat.sub_self, drop_at hx]; rfl)).block (hb.block _ (by omega))
        obtain ⟨q0, q1⟩ := hold
        refine ⟨(setO (by omega)).trans q0, ?_⟩
        exact World.cell?_setCell_same _ _ _ q1
      · have hy2 : (ps ++ xs.drop k)[i]? = some y := by
          rw [drop_at hx]
          rcases Nat.lt_or_ge i k with c1 | c1
          · rw [List.getElem?_append_left (by omega)] at hy ⊢
            exact hy
          · rw [List.getElem?_append_right (by omega), h5] at hy ⊢
            obtain ⟨j, hj⟩ : ∃ j, i - k = j + 1 := ⟨i - k - 1, by omega⟩
            rw [hj, List.getElem?_cons_succ] at hy ⊢
            exact hy
        obtain ⟨q0, q1⟩ := (hc i y hy2).block (hb.block _ (by omega))
        exact ⟨(setO (by omega)).trans q0, (setO (by omega)).trans q1⟩
  · intro b' off' e i
    rw [World.frozen?_setCell]
    simp only [Option.some.injEq, Addr.mk.injEq, and_true] at e
    obtain ⟨rfl, rfl⟩ := e
    rw [World.frozen?_of_block (w := wr) (a := ⟨b, i, none⟩) (hb.block b (by omega))]
    exact h3 b off rfl i
  · intro y hy
    have hy2 : y ∈ xs.drop k := by rw [drop_at hx]; exact List.mem_cons_of_mem _ hy
    have hyx := hbx y (List.mem_of_mem_drop hy)
    obtain ⟨k1, k2, k3⟩ := (h4 y hy2).below hb
    exact ⟨k1, k2, k3.writes hw0 (by omega)⟩
  · rw [List.map_append, h6, List.range_succ, List.map_append]
    simp [hxr]
  · refine List.pairwise_append.2 ⟨h7, by simp, fun p hp q hq => ?_⟩
    simp only [List.mem_singleton] at hq
    subst hq
    have := (h8 p hp).1
    show p.h ≤ lo ∨ hi ≤ p.l
    omega
  · intro p hp
    rcases List.mem_append.1 hp with hp | hp
    · obtain ⟨k1, k2, k3⟩ := (h8 p hp).below hb
      exact ⟨by rw [hs9]; omega, k2, k3.writes hw0 (by omega)⟩
    · simp only [List.mem_singleton] at hp
      subst hp
      refine ⟨?_, hm, ho.writes hw0 ?_⟩
      · rw [hs9]
        show hi = 0 ∨ W.heap.size ≤ lo ∧ hi ≤ u.heap.size
        omega
      · show hi ≤ b ∨ b + 1 ≤ lo
        omega
/-- Where the rows of a copy lie. -/
theorem PgI.start {W : World} {f : Int} {M top n : Nat} {base : Nat} {vb : Option Addr} {vd : Nat} {R : Nat → Rw} {xs : List HRw} (hn : xs.length = n) (h : W.ownsRow base 105 2 (.slice vb n vd) n (hbRw xs)) (hc : ∀ x ∈ xs, CtRw W M top x) : PgI W W f M top vb R xs [] 0 := by
  refine ⟨Writes.refl _ _ _, ?_, ?_, by simpa using hc, rfl, rfl, List.Pairwise.nil, fun p hp => absurd hp (by simp)⟩
  · obtain ⟨a, cap, e, _, hat⟩ := HAtRw.of_row hn h
    injection e with e1
    subst e1
    simpa using hat
  · intro b off e i
    rcases h.2 with ⟨e2, _⟩ | ⟨g, cap, cur, e2, _⟩
    · injection e2 with e2
      rw [e2] at e
      cases e
    · injection e2 with e2
      rw [e2] at e
      simp only [Option.some.injEq, Addr.mk.injEq, and_true] at e
      obtain ⟨rfl, rfl⟩ := e
      subst e2
      exact h.frozenAt _
theorem wf_small {x : Int} (h1 : 0 ≤ x) (h2 : x ≤ 1000000) : (Lit.int .i64 x).wf = true := WalkArith.wf_i64 (by omega)
theorem fl_in {E : En} (h : eF E = 0) : inB (flF E.ck E.T E.p) 0 1000000 = true := by
  have hck := (eF_good h).2.1
  have hT := (eF_good h).2.2.1
  have : ∀ k, k ≤ E.p → 0 ≤ flF E.ck E.T k ∧ flF E.ck E.T k ≤ 1000000 := by
    intro k
    induction k with
    | zero => exact fun _ => hck
    | succ k ih =>
      intro hk
      have h1 := ih (by omega)
      have hi := (tF_good (hT k (by omega))).1
      unfold tIn at hi
      simp only [Bool.and_eq_true] at hi
      have a1 := inB_iff.1 hi.1.1.2
      simp only [flF]
      split
      · unfold mn2
        split <;> omega
      · exact h1
  exact inB_iff.2 (this E.p (Nat.le_refl _))
theorem row_pos {ck : Int} {p : Nat} {T : Nat → Tx} {R : Nat → Rw} {i : Nat} (h : rF ck p T R i = 0) : 0 < (R i).n := by
  have h1 := (rF_good h).2.1
  unfold rB1 at h1
  simp only [Bool.or_eq_false_iff, beq_eq_false_iff_ne] at h1
  omega
theorem data_at {α β : Type} {g : α → β} {xs : List α} {n : Nat} {F : Nat → β} (h : xs.map g = (List.range n).map F) {i : Nat} {x : α} (hx : xs[i]? = some x) : i < n ∧ g x = F i := by
  have hl := congrArg List.length h
  simp only [List.length_map, List.length_range] at hl
  have hi : i < n := by rw [← hl]; exact (List.getElem?_eq_some_iff.1 hx).1
  have h9 := congrArg (fun l => l[i]?) h
  simp only [List.getElem?_map, hx, Option.map_some, List.getElem?_range hi] at h9
  injection h9 with h9
  exact ⟨hi, h9⟩
theorem ri_rows {ps : List HRw} {f ck : Int} {p q : Nat} {T : Nat → Tx} {R : Nat → Rw} (h : ps.map HRw.t = (List.range q).map (fun i => puR f (R i))) (hg : ∀ i, i < q → rF ck p T R i = 0) : RiRw ps := by
  refine List.pairwise_iff_getElem.2 fun i j hi hj hlt => ?_
  have e1 := data_at h (List.getElem?_eq_getElem hi)
  have e2 := data_at h (List.getElem?_eq_getElem hj)
  have := keys_rise hg j e2.1 i hlt
  unfold keyRw
  rw [e1.2, e2.2]
  exact this
theorem wf_rows {ps : List HRw} {f ck : Int} {p q : Nat} {T : Nat → Tx} {R : Nat → Rw} (h : ps.map HRw.t = (List.range q).map (fun i => puR f (R i))) (hg : ∀ i, i < q → rF ck p T R i = 0) : ∀ x ∈ ps, (Lit.int .i64 (keyRw x)).wf = true := by
  intro x hx
  obtain ⟨i, hi, rfl⟩ := List.mem_iff_getElem.1 hx
  have e1 := data_at h (List.getElem?_eq_getElem hi)
  have := inB_iff.1 (rF_good (hg i e1.1)).1
  unfold keyRw
  rw [e1.2]
  show (Lit.int .i64 (R i).key).wf = true
  exact wf_small (by omega) (by omega)
theorem ri_txns {ps : List HTx} {nx ck : Int} {p : Nat} {T : Nat → Tx} (h : ps.map HTx.t = (List.range p).map T) (hg : ∀ i, i < p → tF nx ck T i = 0) : RiTx ps := by
  refine List.pairwise_iff_getElem.2 fun i j hi hj hlt => ?_
  have e1 := data_at h (List.getElem?_eq_getElem hi)
  have e2 := data_at h (List.getElem?_eq_getElem hj)
  have := ids_rise hg j e2.1 i hlt
  unfold keyTx
  rw [e1.2, e2.2]
  exact this
theorem wf_txns {ps : List HTx} {E : En} (h : ps.map HTx.t = (List.range E.p).map E.T) (h0 : eF E = 0) : ∀ x ∈ ps, (Lit.int .i64 (keyTx x)).wf = true := by
  intro x hx
  obtain ⟨i, hi, rfl⟩ := List.mem_iff_getElem.1 hx
  have e1 := data_at h (List.getElem?_eq_getElem hi)
  have hi2 := (tF_good ((eF_good h0).2.2.1 i e1.1)).1
  unfold tIn at hi2
  simp only [Bool.and_eq_true] at hi2
  have a1 := inB_iff.1 hi2.1.1.1
  have a2 := (eF_good h0).1
  unfold keyTx
  rw [e1.2]
  exact wf_small (by omega) (by omega)
set_option maxHeartbeats 16000000 in
theorem purged_any (E : En) (a : Option Addr) (cap : Nat) (a' : Option Addr) (cap' : Nat) (w : World) (h0 : eF E = 0) (h : EngAt w a a' E) :
    Calls Tryz.prog 50 #[.agg #[.int .i64 E.nx, .int .i64 E.ck, .slice a E.p cap, .slice a' E.q cap']] w (PgA E w) := by
  have HXA : Hid (EngAt w a a' E) := h
  have hp20 := (eF_pq h0).1
  have hq32 := (eF_pq h0).2
  have HU60 : Hid (∀ i, i < E.p → (E.T i).n ≤ 60) := undos60 h0
  have HR12 : Hid (∀ i, i < E.q → (E.R i).n ≤ 12) := rows12 h0
  have HGT : Hid (∀ i, i < E.p → tF E.nx E.ck E.T i = 0) := (eF_good h0).2.2.1
  have HGR : Hid (∀ i, i < E.q → rF E.ck E.p E.T E.R i = 0) := (eF_good h0).2.2.2
  have HCK : Hid (0 ≤ E.ck ∧ E.ck ≤ 1000000) := (eF_good h0).2.1
  have HFL : Hid (inB (flF E.ck E.T E.p) 0 1000000 = true) := fl_in h0
  have HBX0 : Hid (∀ o1 o2 : Obj, o1 = .cells #[.int .i64 E.nx, .int .i64 E.ck, .slice a E.p cap, .slice a' E.q cap'] 31 → o2 = .cells #[.int .i64 0, .int .i64 0, .slice none 0 0, .slice none 0 0] 31 →
      Box4 ((w.alloc o1).alloc o2) w.heap.size (.int .i64 E.nx) (.int .i64 E.ck) (.slice a E.p cap) (.slice a' E.q cap') ∧ Box4 ((w.alloc o1).alloc o2) (w.heap.size + 1) (.int .i64 0) (.int .i64 0) (.slice none 0 0) (.slice none 0 0) ∧ (∀ i, ((w.alloc o1).alloc o2).frozen? ⟨w.heap.size + 1, i, none⟩ = false) ∧ Below w.heap.size w ((w.alloc o1).alloc o2) ∧ ((w.alloc o1).alloc o2).heap.size = w.heap.size + 2) := by
    rintro o1 o2 rfl rfl
    exact ⟨(Box4.new w _ _ _ _ _).alloc _, by simp [Box4, go_sem], fun i => by simp [go_sem], ((Below.refl _ _).alloc (Nat.le_refl _) _).alloc (by simp) _, by simp⟩
  have HH0 : Hid (eF E = 0) := h0
  clear h h0
  go_enter Tryz.func50, Tryz.ntmps50
  go_wp2_with fail
  obtain ⟨hbe, hbr, hbf, hbw, hbs⟩ := HBX0.out _ _ rfl rfl
  refine (copyEngine_any E a cap a' cap' _ hp20 hq32 HU60.out HR12.out (HXA.out.below hbw)).mono ?_
  rintro e w2 ⟨v, v', b0, M, rfl, hb2, hb0, hM, hgt, hgr⟩
  rw [hbs] at hb0
  have hs2 : w.heap.size + 2 ≤ w2.heap.size := by have := hb2.size; rw [hbs] at this; exact this
  have HBe : Hid (Box4 w2 w.heap.size (.int .i64 E.nx) (.int .i64 E.ck) (.slice a E.p cap) (.slice a' E.q cap')) := hbe.below hb2
  have HBr : Hid (Box4 w2 (w.heap.size + 1) (.int .i64 0) (.int .i64 0) (.slice none 0 0) (.slice none 0 0)) := hbr.below hb2
  have HFr : Hid (∀ i, w2.frozen? ⟨w.heap.size + 1, i, none⟩ = false) := fun i => ((bcell2 hb2).2 _ _ (by rw [hbs]; omega)).trans (hbf i)
  have HB2 : Hid (Below w.heap.size w w2) := below_then hbw hb2
  have hMz : M ≤ w2.heap.size := hgt.1
  obtain ⟨txs, ltx, dtx, otx, vtx, atx, ctx⟩ := hgt.list
  obtain ⟨xs, lxs, dxs, oxs, vxs, axs, cxs⟩ := hgr.list
  obtain ⟨va, vc, rfl, hvc, hta⟩ := HAtTx.of_row ltx otx
  obtain ⟨vb, vd, rfl, hvd, hra⟩ := HAtRw.of_row lxs oxs
  have HTA : Hid (HAtTx w2 va txs) := hta
  have HTD : Hid (txs.length = E.p ∧ txs.map HTx.t = (List.range E.p).map E.T ∧ ApTx txs ∧ ∀ x ∈ txs, CtTx w2 b0 M x) := ⟨ltx, dtx, atx, fun x hx => (ctx x hx).2⟩
  have HRO : Hid (w2.ownsRow M 105 2 (.slice vb E.q vd) E.q (hbRw xs)) := oxs
  have HRD : Hid (xs.length = E.q ∧ xs.map HRw.t = (List.range E.q).map E.R) := ⟨lxs, dxs⟩
  have HRC : Hid (∀ x ∈ xs, CtRw w2 M w2.heap.size x) := fun x hx => (cxs x hx).2
  have HBX : Hid (∀ b off, vb = some ⟨b, off, none⟩ → off = 0 ∧ M ≤ b ∧ b < w2.heap.size ∧ ∀ y ∈ xs, b < y.l ∨ y.h ≤ b) := by
    intro b off e
    subst e
    have hq := vxs b rfl
    rcases oxs.2 with ⟨e2, _⟩ | ⟨g, cap9, cur, e2, hg9, _⟩
    · cases e2
    · injection e2 with e2
      injection e2 with e2
      injection e2 with e2 e3
      subst e2
      exact ⟨e3, hg9, hq, fun y hy => (cxs y hy).1 b rfl⟩
  have HTB : Hid (∀ b off, va = some ⟨b, off, none⟩ → b < M) := by
    intro b off e
    subst e
    rcases otx.2 with ⟨e2, _⟩ | ⟨g, cap9, cur, e2, hg9, _⟩
    · cases e2
    · injection e2 with e2
      injection e2 with e2
      injection e2 with e2 e3
      subst e2
      exact vtx b rfl
  clear hgt hgr otx vtx atx ctx oxs vxs axs cxs hta hra ltx dtx lxs dxs hvc hvd hb2 hbe hbr hbf hbw hbs HBX0
  go_upto_region 2 with fail
  obtain ⟨W3, hW3⟩ : ∃ x, x = w2.alloc (.cells #[.int .i64 E.nx, .int .i64 E.ck, .slice va E.p vc, .slice vb E.q vd] 31) := ⟨_, rfl⟩
  have hz3 : W3.heap.size = w2.heap.size + 1 := by rw [hW3]; exact World.size_alloc _ _
  have hB3 : Below w2.heap.size w2 W3 := by rw [hW3]; exact below_new _ _
  have HBo : Hid (Box4 W3 w2.heap.size (.int .i64 E.nx) (.int .i64 E.ck) (.slice va E.p vc) (.slice vb E.q vd)) := by rw [hW3]; exact Box4.new _ _ _ _ _ _
  have HFo : Hid (∀ i, W3.frozen? ⟨w2.heap.size, i, none⟩ = false) := by rw [hW3]; exact fun i => by simp [go_sem]
  rw [← hW3]
  clear hW3
  obtain ⟨p0, p1, p2, p3⟩ := HBe.out.below hB3
  obtain ⟨B3, hB9⟩ : ∃ y, y = w2.heap.size := ⟨_, rfl⟩
  have HEX : Hid (EngAt W3 a a' E) := HXA.out.below (below_then HB2.out hB3)
  have HTop : Hid (w2.heap.size = B3) := hB9.symm
  rw [← hB9] at HBo HFo ⊢
  have HB32 : Hid (Below w2.heap.size w2 W3) := hB3
  clear hB3
  have hzB : W3.heap.size = B3 + 1 := by rw [hB9]; exact hz3
  rw [← hB9] at hs2 hMz HRC HBX
  clear hB9 hz3
  obtain ⟨q0, q1, q2, q3⟩ := HBo.out
  go_wp2_with (first | (go_at_call 89; refine (floorOf_any E a cap a' cap' _ hp20 HEX.out).mono ?_; rintro e W ⟨rfl, hbW⟩; have c3 := cell_below q3 hbW))
  have HBW : Hid (Below w.heap.size w W) := below_then HB2.out (below_then HB32.out hbW)
  have hsW : B3 + 1 ≤ W.heap.size := by have := hbW.size; rw [hzB] at this; exact this
  have HB2W : Hid (Below w2.heap.size w2 W) := below_then HB32.out hbW
  have HBoW : Hid (Box4 W B3 (.int .i64 E.nx) (.int .i64 E.ck) (.slice va E.p vc) (.slice vb E.q vd)) := HBo.out.below hbW
  have HFoW : Hid (∀ i, W.frozen? ⟨B3, i, none⟩ = false) := fun i => ((bcell2 hbW).2 _ _ (by omega)).trans (HFo.out i)
  have HBrW : Hid (Box4 W (w.heap.size + 1) (.int .i64 0) (.int .i64 0) (.slice none 0 0) (.slice none 0 0)) := HBr.out.below HB2W.out
  have HFrW : Hid (∀ i, W.frozen? ⟨w.heap.size + 1, i, none⟩ = false) := fun i => ((bcell2 HB2W.out).2 _ _ (by rw [HTop.out]; omega)).trans (HFr.out i)
  have HTAW : Hid (HAtTx W va txs) := HTA.out.below HB2W.out
  have HTCW : Hid (∀ x ∈ txs, CtTx W b0 M x) := fun x hx => (HTD.out.2.2.2 x hx).below HB2W.out
  obtain ⟨fl, hfl⟩ : ∃ y, y = flF E.ck E.T E.p := ⟨_, rfl⟩
  have HFE : Hid (fl = flF E.ck E.T E.p) := hfl
  rw [← hfl] at HFL ⊢
  have HI0 : Hid (PgI W W fl M B3 vb E.R xs [] 0) := PgI.start HRD.out.1 (own_belowI HRO.out HB2W.out) (fun x hx => (HRC.out x hx).below HB2W.out)
  clear hfl hbW p0 p1 p2 p3 q0 q1 q2 q3 c3 HBo HFo HBr HFr HTA HRO HRC HB32 HBe hzB HEX
  go_loopw [5, 6, 14] (fun _ _ i wr => ∃ k : Nat, k ≤ E.q ∧ i = .int .i64 k ∧ ∃ ps, Hid (PgI W wr fl M B3 vb E.R xs ps k)) (fun _ _ i _ => E.q - (intOf i).toNat)
  case atStart => exact ⟨0, Nat.zero_le _, rfl, [], HI0⟩
  case round =>
    clear HI0
    obtain ⟨k, hk, rfl, ps, HI⟩ := hrel
    have hsr : W.heap.size ≤ wr.heap.size := HI.out.writes.size
    by_cases hlt : k < E.q
    · have hlt' : (k : Int) < (E.q : Int) := by omega
      have hk0 : (0 : Int) ≤ (k : Int) := by omega
      obtain ⟨x, hx⟩ : ∃ x, xs[k]? = some x := ⟨_, List.getElem?_eq_getElem (by rw [HRD.out.1]; exact hlt)⟩
      have hxr : x.t = E.R k := by
        have h9 := congrArg (fun l => l[k]?) HRD.out.2
        simp only [List.getElem?_map, hx, Option.map_some, List.getElem?_range hlt] at h9
        injection h9
      rcases HI.out.at_ with h | ⟨b, off, rfl, hbl, hcc⟩
      · have h9 := HI.out.cellAt hx
        rw [h] at h9
        simp at h9
      have HCR : Hid (CRw wr b (off + k * 2) x.t x.A x.c) := hcc k x (HI.out.cellAt hx)
      obtain ⟨-, hb1, hb2, hbx⟩ := HBX.out b off rfl
      have HBX9 : Hid (∀ y ∈ xs, b < y.l ∨ y.h ≤ b) := hbx
      have hxc := HI.out.rest x (by rw [drop_at hx]; exact List.mem_cons_self ..)
      have hg := rF_good (HGR.out k hlt)
      have HCH : Hid (chF x.t.n x.t.U = 0) := by rw [Hid, hxr]; exact hg.2.2.1
      have hn12 : x.t.n ≤ 12 := by rw [hxr]; exact HR12.out k hlt
      have hn1 : 0 < x.t.n := by rw [hxr]; exact row_pos (HGR.out k hlt)
      obtain ⟨xb, xo, hxA, hva⟩ : ∃ xb xo, x.A = some ⟨xb, xo, none⟩ ∧ VersAt wr (some ⟨xb, xo, none⟩) x.t.n x.t.U := by
        have h9 := hxc.2.2.at
        rcases h9 with h9 | ⟨xb, xo, e, h9⟩
        · omega
        · exact ⟨xb, xo, e, .inr ⟨xb, xo, rfl, h9⟩⟩
      have HVA : Hid (VersAt wr (some ⟨xb, xo, none⟩) x.t.n x.t.U) := hva
      have HXK : Hid (xs[k]? = some x) := hx
      have HXR : Hid (x.t = E.R k) := hxr
      have hcx : x.t.n ≤ x.c := hxc.2.1
      have HIo := HI.out.writes
      have HBo1 : Hid (Box4 wr B3 (.int .i64 E.nx) (.int .i64 E.ck) (.slice va E.p vc) (.slice (some ⟨b, off, none⟩) E.q vd)) := HBoW.out.writes HIo (.inr (by omega))
      have HPC : Hid (∀ u, Below (wr.alloc (.cells #[.int .i64 x.t.key, .slice (some ⟨xb, xo, none⟩) x.t.n x.c] 105)).heap.size (wr.alloc (.cells #[.int .i64 x.t.key, .slice (some ⟨xb, xo, none⟩) x.t.n x.c] 105)) u → Calls Tryz.prog 90 #[.slice (some ⟨xb, xo, none⟩) x.t.n x.c, .int .i64 fl] u fun e w' => ∃ A c, e = .returned (.agg #[.int .i64 0, .slice A (puN x.t.n x.t.U fl) c]) ∧ puN x.t.n x.t.U fl ≤ c ∧ Below u.heap.size u w' ∧ Own4 w' u.heap.size w'.heap.size A (puN x.t.n x.t.U fl) x.t.U) := fun u hu => by
        have e1 : puC x.t.n x.t.U fl = 0 := by
          unfold puC
          rw [if_pos HCH.out, if_pos HFL.out]
        have e2 : puM x.t.n x.t.U fl = puN x.t.n x.t.U fl := by
          unfold puM
          rw [if_pos e1]
        refine (implPuD_any x.t.n x.t.U xb xo x.c hcx fl u (by omega) ((HVA.out.below (below_new _ _)).below hu)).mono ?_
        rintro e w' ⟨A, c, he, hsh, hb, ho⟩
        rw [e1, e2] at he
        rw [e2] at hsh ho
        exact ⟨A, c, he, hsh.1, hb, ho⟩
      have hMt : B3 ≤ W.heap.size := by omega
      have HLO0 : Hid (∀ o : Obj, ∀ u, Below (wr.alloc o).heap.size (wr.alloc o) u → wr.heap.size ≤ u.heap.size) := fun o u hu => by have := hu.size; simp at this; omega
      obtain ⟨c0, c1, c2, c3⟩ := HBo1.out
      obtain ⟨x0, x1⟩ := HCR.out
      rw [hxA] at x1
      have HXA2 : Hid (x.A = some ⟨xb, xo, none⟩) := hxA
      clear hcc hx hxr hbx hxc hg hn1 hva hxA hsr
      go_upto_region 6 with fail
      obtain ⟨W1, hW1⟩ : ∃ y, y = wr.alloc (.cells #[.int .i64 x.t.key, .slice (some ⟨xb, xo, none⟩) x.t.n x.c] 105) := ⟨_, rfl⟩
      rw [← hW1] at HPC ⊢
      have HBW1 : Hid (Below wr.heap.size wr W1) := by rw [hW1]; exact below_new _ _
      obtain ⟨s0, s1⟩ : Box2 W1 wr.heap.size (.int .i64 x.t.key) (.slice (some ⟨xb, xo, none⟩) x.t.n x.c) := by rw [hW1]; exact Box2.new _ _ _ _
      replace c3 := cell_below c3 HBW1.out
      have hz1 : wr.heap.size ≤ W1.heap.size := HBW1.out.size
      clear hW1 x0 x1 c0 c1 c2 HLO0 HBo1 HIo
      · have top : True := trivial
        clear top
        refine wp_region_E 10 (S := fun u => Below W1.heap.size W1 u) (by kernel_rfl) ((Below.refl _ _).drew) (fun hS => ?_)
        obtain ⟨u0, hu0⟩ : ∃ y, y = W1.drew := ⟨_, rfl⟩
        rw [← hu0] at hS ⊢
        clear hu0
        refine wpAnyE_takeD (L := 10) (i := 0) (v := .pointer (some ⟨B3, 3, none⟩)) (some 19) rfl rfl (by kernel_rfl) (by kernel_rfl) (by kernel_rfl) (by kernel_rfl) (fun _ _ _ h => h) (Or.inl ⟨by kernel_rfl, by intro u hSu; go_simp⟩) hS ?_
        try simp only [Act.put, List.setIfInBounds_toArray, List.set_cons_zero, List.set_cons_succ]
        refine wpAnyE_takeD (L := 10) (i := 1) (v := .slice (some ⟨b, off, none⟩) E.q vd) (some 20) rfl rfl (by kernel_rfl) (by kernel_rfl) (by kernel_rfl) (by kernel_rfl) (fun _ _ _ h => h) (Or.inl ⟨by kernel_rfl, by intro u hSu; have gc3 := cell_below c3 hSu; go_simp⟩) hS ?_
        try simp only [Act.put, List.setIfInBounds_toArray, List.set_cons_zero, List.set_cons_succ]
        refine wpAnyE_takeD (L := 10) (i := 2) (v := .int .i64 (k : Int)) (some 21) rfl rfl (by kernel_rfl) (by kernel_rfl) (by kernel_rfl) (by kernel_rfl) (fun _ _ _ h => h) (Or.inl ⟨by kernel_rfl, by intro u hSu; go_simp⟩) hS ?_
        try simp only [Act.put, List.setIfInBounds_toArray, List.set_cons_zero, List.set_cons_succ]
        refine wpAnyE_takeD (L := 10) (i := 3) (v := .pointer (some ⟨wr.heap.size, 1, none⟩)) (some 22) rfl rfl (by kernel_rfl) (by kernel_rfl) (by kernel_rfl) (by kernel_rfl) (fun _ _ _ h => h) (Or.inl ⟨by kernel_rfl, by intro u hSu; go_simp⟩) hS ?_
        try simp only [Act.put, List.setIfInBounds_toArray, List.set_cons_zero, List.set_cons_succ]
        refine wpAnyE_takeD (L := 10) (i := 4) (v := .slice (some ⟨xb, xo, none⟩) x.t.n x.c) (some 23) rfl rfl (by kernel_rfl) (by kernel_rfl) (by kernel_rfl) (by kernel_rfl) (fun _ _ _ h => h) (Or.inl ⟨by kernel_rfl, by intro u hSu; have gs1 := cell_below s1 hSu; go_simp⟩) hS ?_
        try simp only [Act.put, List.setIfInBounds_toArray, List.set_cons_zero, List.set_cons_succ]
        refine wpAnyE_takeD (L := 10) (i := 5) (v := .int .i64 fl) (some 24) rfl rfl (by kernel_rfl) (by kernel_rfl) (by kernel_rfl) (by kernel_rfl) (fun _ _ _ h => h) (Or.inl ⟨by kernel_rfl, by intro u hSu; go_simp⟩) hS ?_
        try simp only [Act.put, List.setIfInBounds_toArray, List.set_cons_zero, List.set_cons_succ]
        refine wpAnyE_ready (rs := [6]) (by kernel_rfl) (by simp) ?_
        refine AllReadyE.cons rfl (fun K9 hK => ?_) AllReadyE.nil
        go_simp
        refine (HPC.out _ hS).mono ?_
        rintro e u1 ⟨A, c, rfl, hle9, hbu, ho9⟩
        have HO9 : Hid (Own4 u1 _ u1.heap.size A (puN x.t.n x.t.U fl) x.t.U) := ho9
        have HLE9 : Hid (puN x.t.n x.t.U fl ≤ c) := hle9
        have HBU : Hid (Below wr.heap.size wr u1) := below_then HBW1.out (below_then hS hbu)
        have hzz := hS.size
        clear ho9 hle9
        refine hK.out _ _ (below_then hS hbu) (fun hS9 => ?_)
        try simp only [Act.put, List.setIfInBounds_toArray, List.set_cons_zero, List.set_cons_succ]
        clear hK K9 hS hbu
        have hS := hS9
        clear hS9
        obtain ⟨m9, hm9⟩ : ∃ y, y = puN x.t.n x.t.U fl := ⟨_, rfl⟩
        have HM9 : Hid (m9 = puN x.t.n x.t.U fl) := hm9
        rw [← hm9]
        clear hm9
        refine wpAnyE_takeD (L := 10) (i := 7) (v := .slice A m9 c) (some 26) rfl rfl (by kernel_rfl) (by kernel_rfl) (by kernel_rfl) (by kernel_rfl) (fun _ _ _ h => h) (Or.inl ⟨by kernel_rfl, by intro u hSu; have hf : (Instr.field 123 (.agg #[.int .i64 0, .slice A m9 c]) 1).run Tryz.prog u = .ok (.slice A m9 c) u := (by kernel_rfl); go_simp⟩) hS ?_
        try simp only [Act.put, List.setIfInBounds_toArray, List.set_cons_zero, List.set_cons_succ]
        refine wpAnyE_ready (rs := [8]) (by kernel_rfl) (by simp) ?_
        refine AllReadyE.cons rfl (fun K9 hK => ?_) AllReadyE.nil
        go_simp
        refine hK.out _ _ hS (fun hS9 => ?_)
        try simp only [Act.put, List.setIfInBounds_toArray, List.set_cons_zero, List.set_cons_succ]
        clear hK K9 hS
        have hS := hS9
        clear hS9
        refine wpAnyE_ready (rs := [9]) (by kernel_rfl) (by simp) ?_
        refine AllReadyE.cons rfl (fun K9 hK => ?_) AllReadyE.nil
        go_simp
        refine hK.out _ _ hS (fun hS9 => ?_)
        try simp only [Act.put, List.setIfInBounds_toArray, List.set_cons_zero, List.set_cons_succ]
        clear hK K9 hS
        have hS := hS9
        clear hS9
        refine wpAnyE_ready (rs := [10]) (by kernel_rfl) (by simp) ?_
        refine AllReadyE.last rfl (fun K9 hK => ?_)
        obtain ⟨t0, t1⟩ := HCR.out.block (HBU.out.block b hbl)
        have tf : u1.frozen? ⟨b, off + k * 2 + 1, none⟩ = false := by
          rw [World.frozen?_of_block (w := wr) (a := ⟨b, off + k * 2 + 1, none⟩) (HBU.out.block b hbl)]
          exact HI.out.frz b off rfl _
        have HI2 := HI.out.step HXK.out HXR.out HBU.out hMt hb1 hb2 HBX9.out (by omega) (Nat.le_refl _) HLE9.out HO9.out
        rw [← HM9.out] at HI2
        have HI3 : Hid (PgI W _ fl M B3 (some ⟨b, off, none⟩) E.R xs _ (k + 1)) := HI2
        go_simp
        refine hK.out _ _ ?_
        clear hK K9 hS t0 t1 tf HI2 HI HBU HO9 HLE9 s0 s1 c3 HCR
        refine wpAnyE_done (by kernel_rfl) ?_ _
        go_simp
        go_wp2_with fail
        go_roundw
        case rel => exact ⟨k + 1, hlt, by go_num, _, HI3⟩
        case measure => simp [intOf]; omega
    · have hkn : k = E.q := by omega
      have hnl : ¬ ((k : Int) < (E.q : Int)) := by omega
      have HIq : Hid (PgI W wr fl M B3 vb E.R xs ps E.q) := by rw [← hkn]; exact HI
      have hdr : xs.drop E.q = [] := List.drop_eq_nil_of_le (by rw [HRD.out.1]; exact Nat.le_refl _)
      have hat := HIq.out.at_
      rw [hdr, List.append_nil] at hat
      have HAT : Hid (HAtRw wr vb ps) := hat
      have HPD : Hid (ps.map HRw.t = (List.range E.q).map (fun i => puR (flF E.ck E.T E.p) (E.R i))) := by rw [Hid, ← HFE.out]; exact HIq.out.data
      have HPL : Hid (ps.length = E.q) := HIq.out.len
      have HPA : Hid (ApRw ps ∧ ∀ p ∈ ps, CtRw wr W.heap.size wr.heap.size p) := ⟨HIq.out.apart, HIq.out.own⟩
      have HIo := HIq.out.writes
      have HBo1 : Hid (Box4 wr B3 (.int .i64 E.nx) (.int .i64 E.ck) (.slice va E.p vc) (.slice vb E.q vd)) := HBoW.out.writes HIo (.inr (Nat.le_refl _))
      have HFo1 : Hid (∀ i, wr.frozen? ⟨B3, i, none⟩ = false) := fun i => (World.frozen?_of_block (w := W) (a := ⟨B3, i, none⟩) (HIo.block B3 (by omega) (.inr (Nat.le_refl _)))).trans (HFoW.out i)
      have HBr1 : Hid (Box4 wr (w.heap.size + 1) (.int .i64 0) (.int .i64 0) (.slice none 0 0) (.slice none 0 0)) := HBrW.out.writes HIo (.inl (by omega))
      have HFr1 : Hid (∀ i, wr.frozen? ⟨w.heap.size + 1, i, none⟩ = false) := fun i => (World.frozen?_of_block (w := W) (a := ⟨w.heap.size + 1, i, none⟩) (HIo.block (w.heap.size + 1) (by omega) (.inl (by omega)))).trans (HFrW.out i)
      have HTA1 : Hid (HAtTx wr va txs) := by
        rcases HTAW.out with h | ⟨b, off, e, hl, hc⟩
        · exact .inl h
        · have hbb := HTB.out b off e
          exact .inr ⟨b, off, e, Nat.lt_of_lt_of_le hl HIo.size, fun i y hy => (hc i y hy).block (HIo.block b hl (.inl hbb))⟩
      have HTC1 : Hid (∀ x ∈ txs, CtTx wr b0 M x) := fun x hx => (HTCW.out x hx).writes HIo (.inr (Nat.le_refl _))
      have HB1 : Hid (Below w.heap.size w wr) := Writes.below HBW.out HIo (by omega)
      have HRI : Hid (RiRw ps) := ri_rows HPD.out HGR.out
      have HRW : Hid (∀ p ∈ ps, (Lit.int .i64 (keyRw p)).wf = true) := wf_rows HPD.out HGR.out
      have HTI : Hid (RiTx txs) := ri_txns HTD.out.2.1 HGT.out
      have HTW : Hid (∀ p ∈ txs, (Lit.int .i64 (keyTx p)).wf = true) := wf_txns HTD.out.2.1 HH0.out
      have hsr : W.heap.size ≤ wr.heap.size := HIo.size
      obtain ⟨w5, rfl⟩ : ∃ x, x = wr := ⟨wr, rfl⟩
      obtain ⟨c0, c1, c2, c3⟩ := HBo1.out
      have hnl2 : ¬ ((E.q : Int) < (E.q : Int)) := by omega
      rw [hkn] at hnl ⊢
      clear hkn HI HIq hat hdr HIo HBoW HFoW HBrW HFrW HTAW HTCW
      go_wp2_with (first | (go_at_call 91; refine (neededRw_any ps E.q vb vd _ HPL.out (by omega) HRI.out HRW.out HAT.out).mono ?_; rintro e w6 ⟨v6, rfl, hb6, ho6⟩; obtain ⟨ra, rcp, rfl, -, -⟩ := HAtRw.of_row rfl ho6; obtain ⟨d0, d1, d2, d3⟩ := HBo1.out.below hb6; have df : ∀ i, w6.frozen? ⟨B3, i, none⟩ = false := fun i => ((bcell2 hb6).2 _ _ (by omega)).trans (HFo1.out i)))
      have h6 := hb6.size
      have HLR : Hid ((ps.filter needRw).length = (pgR E).length) := filter_len (pgR_of HPD.out)
      have HLT : Hid ((txs.filter needTx).length = (pgT E).length) := filter_len (pgT_of HTD.out.2.1)
      obtain ⟨m6, hm6⟩ : ∃ y, y = (ps.filter needRw).length := ⟨_, rfl⟩
      have HM6 : Hid ((ps.filter needRw).length = m6) := hm6.symm
      rw [← hm6] at ho6 ⊢
      clear hm6
      obtain ⟨S6, hS6⟩ : ∃ y, y = w6.setCell ⟨B3, 3, none⟩ (.slice ra m6 rcp) := ⟨_, rfl⟩
      have hw6 : Writes B3 (B3 + 1) w6 S6 := by rw [hS6]; exact Writes.setCell (Writes.refl _ _ _) (p := ⟨B3, 3, none⟩) (Nat.le_refl _) (Nat.lt_succ_self _) _
      have hz6 : S6.heap.size = w6.heap.size := by rw [hS6]; simp [World.setCell]
      have hbx6 : Box4 S6 B3 (.int .i64 E.nx) (.int .i64 E.ck) (.slice va E.p vc) (.slice ra m6 rcp) := by
        rw [hS6]
        exact ⟨(setO (by omega)).trans d0, (setO (by omega)).trans d1, (setO (by omega)).trans d2, World.cell?_setCell_same _ _ _ d3⟩
      have hf6 : ∀ i, S6.frozen? ⟨B3, i, none⟩ = false := fun i => by rw [hS6, World.frozen?_setCell]; exact df i
      rw [← hS6]
      clear hS6 d0 d1 d2 d3 df
      have HO6 : Hid (S6.ownsRow w5.heap.size 105 2 (.slice ra m6 rcp) m6 (hbRw (ps.filter needRw))) := ownsRow_of ho6 fun q hq => hw6.block q ((ho6.lt q hq).2) (.inr (by have := (ho6.lt q hq).1; omega))
      have HC6 : Hid (∀ p ∈ ps.filter needRw, CtRw S6 W.heap.size w5.heap.size p) := fun p hp => ((HPA.out.2 p (List.mem_filter.1 hp).1).below hb6).writes hw6 (.inl (by omega))
      have HT6 : Hid (HAtTx S6 va txs) := by
        rcases HTA1.out.below hb6 with h | ⟨b, off, e, hl, hc⟩
        · exact .inl h
        · have hbb := HTB.out b off e
          exact .inr ⟨b, off, e, Nat.lt_of_lt_of_le hl hw6.size, fun i y hy => (hc i y hy).block (hw6.block b hl (.inl (by omega)))⟩
      have HTC6 : Hid (∀ x ∈ txs, CtTx S6 b0 M x) := fun x hx => ((HTC1.out x hx).below hb6).writes hw6 (.inr (by omega))
      have HBr6 : Hid (Box4 S6 (w.heap.size + 1) (.int .i64 0) (.int .i64 0) (.slice none 0 0) (.slice none 0 0)) := (HBr1.out.below hb6).writes hw6 (.inl (by omega))
      have HFr6 : Hid (∀ i, S6.frozen? ⟨w.heap.size + 1, i, none⟩ = false) := fun i => by
        rw [World.frozen?_of_block (w := w6) (a := ⟨w.heap.size + 1, i, none⟩) (hw6.block (w.heap.size + 1) (by omega) (.inl (by omega)))]
        exact ((bcell2 hb6).2 _ _ (by omega)).trans (HFr1.out i)
      have HB6 : Hid (Below w.heap.size w S6) := Writes.below (below_then HB1.out hb6) hw6 (by omega)
      clear ho6 hb6 hw6 HTA1 HTC1 HBr1 HFr1 HB1 HBo1 HFo1 HAT
      refine (neededTx_any txs E.p va vc _ HTD.out.1 (by omega) HTI.out HTW.out HT6.out).mono ?_
      rintro e w7 ⟨v7, rfl, hb7, ho7⟩
      obtain ⟨ta, tcp, rfl, -, -⟩ := HAtTx.of_row rfl ho7
      have h7 := hb7.size
      obtain ⟨m7, hm7⟩ : ∃ y, y = (txs.filter needTx).length := ⟨_, rfl⟩
      have HM7 : Hid ((txs.filter needTx).length = m7) := hm7.symm
      rw [← hm7] at ho7 ⊢
      clear hm7
      obtain ⟨e0, e1, e2, e3⟩ := hbx6.below hb7
      have ef : ∀ i, w7.frozen? ⟨B3, i, none⟩ = false := fun i => ((bcell2 hb7).2 _ _ (by omega)).trans (hf6 i)
      obtain ⟨r0, r1, r2, r3⟩ := HBr6.out.below hb7
      have rf : ∀ i, w7.frozen? ⟨w.heap.size + 1, i, none⟩ = false := fun i => ((bcell2 hb7).2 _ _ (by omega)).trans (HFr6.out i)
      have HF : Hid (∀ w8 w9, Writes B3 (B3 + 1) w7 w8 → Writes (w.heap.size + 1) (w.heap.size + 2) w8 w9 → PgA E w (.returned (.agg #[.int .i64 E.nx, .int .i64 E.ck, .slice ta m7 tcp, .slice ra m6 rcp])) w9) := fun w8 w9 g8 g9 => by
        have z8 := g8.size
        have z9 := g9.size
        refine PgA.of (B := b0) (M := M) (B' := W.heap.size) (M' := w5.heap.size) (base := S6.heap.size) (base' := w5.heap.size) (ts := txs.filter needTx) (rs := ps.filter needRw) ?_ (pgT_of HTD.out.2.1) (pgR_of HPD.out) ?_ ?_ (HTD.out.2.2.1.filter _) (HPA.out.1.filter _) ?_ ?_ (by omega) (by omega) (by omega) hsr (Nat.le_refl _) (by omega) ?_ (by omega)
        · exact Writes.below (Writes.below (below_then HB6.out hb7) g8 (by omega)) g9 (by omega)
        · rw [← HLT.out, HM7.out]
          refine ownsRow_of ho7 fun q hq => ?_
          have h1 := ho7.lt q hq
          rw [g9.block q (by omega) (.inr (by omega)), g8.block q h1.2 (.inr (by omega))]
        · rw [← HLR.out, HM6.out]
          have h2 := own_belowI HO6.out hb7
          refine ownsRow_of h2 fun q hq => ?_
          have h1 := h2.lt q hq
          rw [g9.block q (by omega) (.inr (by omega)), g8.block q h1.2 (.inr (by omega))]
        · intro x hx
          exact (((HTC6.out x (List.mem_filter.1 hx).1).below hb7).writes g8 (.inr (by omega))).writes g9 (.inl (by omega))
        · intro x hx
          exact (((HC6.out x hx).below hb7).writes g8 (.inl (by omega))).writes g9 (.inl (by omega))
        · intro q hq hq2
          have h1 := (ho7.lt q hq).1
          have h2 := (HO6.out.lt q hq2).2
          omega
      clear HO6 HC6 HT6 HTC6 HBr6 HFr6 hbx6 hf6 hb7 ho7
      go_wp2_with fail
      refine bodyPost_ret (v := .agg #[.int .i64 E.nx, .int .i64 E.ck, .slice ta m7 tcp, .slice ra m6 rcp]) (by simp [results, Tryz.results50, go_sem, *]) rfl ?_
      refine HF.out (w7.setCell ⟨B3, 2, none⟩ (.slice ta m7 tcp)) _ ?_ ?_
      · exact Writes.setCell (Writes.refl _ _ _) (p := ⟨B3, 2, none⟩) (Nat.le_refl _) (Nat.lt_succ_self _) _
      · repeat (first | with_reducible exact Writes.refl _ _ _ | with_reducible refine Writes.setCell ?_ (by first | omega | (simp <;> omega)) (by first | omega | (simp <;> omega)) _)
end Go.Proofs.YtnhlcadipkmhhaaGreat
