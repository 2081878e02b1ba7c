/- spec.l3Pack, Had true, Has false. -/
import Derived.Test.YtaokclhcmgbgnaaGreatQPr2
import Derived.Test.YtaokclhcmgbgnaaGreatQSp
import Derived.Deep.RegionLaw
namespace Go.Proofs.YtaokclhcmgbgnaaGreat
open Go.RowKit Go.Deep
set_option linter.unusedVariables false
set_option maxRecDepth 20000

theorem run_app_zero (w : World) (ty : TypeId) (ba : Option Addr) (n c : Nat) (xa : Option Addr) (xc : Nat) (h : n ≤ c) :
    (Builtin.append_ #[27, 27] ty #[.slice ba n c, .slice xa 0 xc]).run Tryz.prog w = .ok (.slice ba n c) w := by
  cases ba <;> cases xa <;> simp [Builtin.append_, go_sem, h, Builtin.firstCells, storeCells]
theorem grown_refl (w : World) (r : Option Nat) : w.grownBy w r := ⟨rfl, rfl, rfl, Nat.le_refl _, fun _ _ _ => rfl⟩
theorem zL_bl (z : Nat → Int) (n : Nat) : ∀ j u, (bl (zL z n))[j]? = some u → j < n ∧ u = .int .u8 (z j) := by
  intro j u h
  have hj : j < n := by
    have := (List.getElem?_eq_some_iff.1 h).1
    simpa [bl, zL] using this
  simp [bl, zL, hj] at h
  exact ⟨hj, h.symm⟩
theorem wp_appB {o : Oper} {a : Act} {K : Act → World → Prop} {Q : Exit → Act → World → Prop} (w : World) (s x : Operand)
    (ho : o.op = .call { callee := .builtin .append, args := #[s, x], argTypes := #[27, 27] })
    (base : Nat) (v : Value) (zs : List Int) (hs : a.eval s = v) (hown : w.ownsRow base 5 1 v zs.length (bl zs))
    (xa : Option Addr) (m c : Nat) (z : Nat → Int) (hx : a.eval x = .slice xa m c) (hb : BytesAt w xa m z) (h63 : zs.length + m ≤ 100000) (hbase : base ≤ w.heap.size)
    (h : ∀ v' w', w'.ownsRow base 5 1 v' (zs ++ zL z m).length (bl (zs ++ zL z m)) → w.grownBy w' v.ownBlock → K (a.put o.dst v') w') : o.wp Tryz.prog a w K Q := by
  by_cases hm : m = 0
  · subst hm
    obtain ⟨ba, cap, rfl⟩ : ∃ ba cap, v = .slice ba zs.length cap := by
      rcases hown.2 with ⟨rfl, h0⟩ | ⟨g, cap, cur, rfl, _⟩
      · exact ⟨none, 0, by rw [h0]⟩
      · exact ⟨_, cap, rfl⟩
    have hr := run_app_zero w o.type ba zs.length cap xa c (own_cap hown)
    unfold Oper.wp execOp
    simp only [ho, resolve, invoke, builtin, Sem.run_bind, Sem.run_pure, Result.andThen_ok, List.map_toArray, List.map_cons, List.map_nil, hs, hx, hr]
    refine h _ w ?_ (grown_refl _ _)
    have e : zs ++ zL z 0 = zs := by simp [zL]
    rw [e]
    exact hown
  · rcases hb with hb | ⟨b, off, rfl, hbl, hc⟩
    · exact absurd hb hm
    · obtain ⟨i0, hi, hz0, hz1, hz2⟩ := info_parts info5
      refine wp_append_own w s x 27 ho base 5 i0 _ 1 1 Tryz.underlying27 hi hz0 hz1 hz2 rfl (by decide) v zs.length (bl zs) hs hown ⟨b, off, none⟩ m c (bl (zL z m)) hx (by rw [bl_len, zL_len]; omega) (fun j u hj => ?_) (bl_one _) (by unfold maxLen; omega) (by omega) hbase fun v' w' h2 h3 _ => h v' w' ?_ h3
      · obtain ⟨h1, rfl⟩ := zL_bl z m j u hj
        rw [WideShapes.add_plain]
        exact hc j h1
      · rw [List.length_append, zL_len, bl_app]
        exact h2
theorem wpList_appB {ops : Array Oper} {rest : List Oper} {o : Oper} {a : Act} {Q : Exit → Act → World → Prop} (w : World) (hgd : o.guard = none) (s x : Operand)
    (ho : o.op = .call { callee := .builtin .append, args := #[s, x], argTypes := #[27, 27] })
    (base : Nat) (v : Value) (zs : List Int) (hs : a.eval s = v) (hown : w.ownsRow base 5 1 v zs.length (bl zs))
    (xa : Option Addr) (m c : Nat) (z : Nat → Int) (hx : a.eval x = .slice xa m c) (hb : BytesAt w xa m z) (h63 : zs.length + m ≤ 100000) (hbase : base ≤ w.heap.size)
    (h : ∀ v' w', w'.ownsRow base 5 1 v' (zs ++ zL z m).length (bl (zs ++ zL z m)) → w.grownBy w' v.ownBlock → wpList Tryz.prog ops Q rest (a.put o.dst v') w') : wpList Tryz.prog ops Q (o :: rest) a w :=
  wpList_plain hgd fun _ hK => wp_appB w s x ho base v zs hs hown xa m c z hx hb h63 hbase fun v' w' h2 h3 => hK _ _ (h v' w' h2 h3)
theorem step_appZ {ops : Array Oper} {o : Oper} {a : Act} {K : Act → World → Prop} {Q : Exit → Act → World → Prop} {E : Prop} (w : World) (hgd : o.guard = none) (s x : Operand)
    (ho : o.op = .call { callee := .builtin .append, args := #[s, x], argTypes := #[27, 27] })
    (base : Nat) (v : Value) (zs : List Int) (hs : a.eval s = v) (hown : w.ownsRow base 5 1 v zs.length (bl zs))
    (xa : Option Addr) (m c : Nat) (z : Nat → Int) (hx : a.eval x = .slice xa m c) (hb : BytesAt w xa m z) (h63 : zs.length + m ≤ 100000) (hbase : base ≤ w.heap.size)
    (h : ∀ v' w', w'.ownsRow base 5 1 v' (zs ++ zL z m).length (bl (zs ++ zL z m)) → w.grownBy w' v.ownBlock → K (a.put o.dst v') w') :
    if Region.wanted o (yielded ops a.tmps) = true then Oper.wp Tryz.prog o a w K Q else E := by
  have hw : Region.wanted o (yielded ops a.tmps) = true := by simp [Region.wanted, hgd]
  rw [if_pos hw]
  exact wp_appB w s x ho base v zs hs hown xa m c z hx hb h63 hbase h
/-- Pieces joined, the first k of them. -/
def jn (N : Nat → Nat) (Z : Nat → Nat → Int) : Nat → List Int
  | 0 => []
  | k + 1 => jn N Z k ++ zL (Z k) (N k)
theorem jn_len (N : Nat → Nat) (Z : Nat → Nat → Int) : ∀ k, (jn N Z k).length = sumL N k
  | 0 => rfl
  | k + 1 => by simp only [jn, List.length_append, jn_len N Z k, zL_len, sumL]
theorem sumL_mono (N : Nat → Nat) {k m : Nat} (h : k ≤ m) : sumL N k ≤ sumL N m := by
  induction m with
  | zero => have : k = 0 := by omega
            subst this; exact Nat.le_refl _
  | succ m ih =>
    by_cases e : k = m + 1
    · subst e; exact Nat.le_refl _
    · have := ih (by omega); simp only [sumL]; omega
set_option maxHeartbeats 2000000 in
theorem joined_any (m : Nat) (A : Nat → Option Addr) (N C : Nat → Nat) (Z : Nat → Nat → Int) (pb po pc : Nat) (w : World) (hs : sumL N m ≤ 90000) (hpb : pb < w.heap.size)
    (hp : ∀ i, i < m → w.cell? ⟨pb, po + i, none⟩ = some (.slice (A i) (N i) (C i)) ∧ BytesAt w (A i) (N i) (Z i)) (hm : m ≤ 3) :
    Calls Tryz.prog 162 #[.slice (some ⟨pb, po, none⟩) m pc] w fun e w' => ∃ v, e = .returned v ∧ Below w.heap.size w w' ∧ w'.ownsRow w.heap.size 5 1 v (jn N Z m).length (bl (jn N Z m)) := by
  have HP : Hid (∀ i, i < m → w.cell? ⟨pb, po + i, none⟩ = some (.slice (A i) (N i) (C i)) ∧ BytesAt w (A i) (N i) (Z i)) := hp
  clear hp
  go_enter Tryz.func162, Tryz.ntmps162
  go_wp2_with fail
  go_loopw [3, 5, 8] (fun v _ i wr => ∃ k : Nat, k ≤ m ∧ i = .int .i64 k ∧ Hid (Below w.heap.size w wr) ∧ Hid (wr.ownsRow w.heap.size 5 1 v (jn N Z k).length (bl (jn N Z k)))) (fun _ _ i _ => m - (intOf i).toNat)
  case atStart => exact ⟨0, by omega, rfl, Below.refl _ _, World.ownsRow_nil _ _ _ _⟩
  case round =>
    obtain ⟨k, hk, rfl, HB, HO⟩ := hrel
    by_cases hlt : k < m
    · have hlt' : (k : Int) < (m : Int) := by omega
      have hk1 : (0 : Int) ≤ (k : Int) := by omega
      have hc := cell_below (HP.out k hlt).1 HB.out
      have HBA : Hid (BytesAt wr (A k) (N k) (Z k)) := (HP.out k hlt).2.below HB.out
      have HLE : Hid ((jn N Z k).length + N k ≤ 100000) := by
        have h1 := jn_len N Z k
        have h2 := sumL_mono N (k := k + 1) (m := m) (by omega)
        simp only [sumL] at h2
        show (jn N Z k).length + N k ≤ 100000
        omega
      go_wp2_with (at_builtin; refine wpList_appB _ rfl (.tmp 12) (.tmp 13) rfl w.heap.size _ (jn N Z k) rfl HO.out (A k) (N k) (C k) (Z k) rfl HBA.out HLE.out HB.out.size ?_)
      intro v1 w1 ho1 hg1
      have HO1 : Hid (w1.ownsRow w.heap.size 5 1 v1 (jn N Z (k + 1)).length (bl (jn N Z (k + 1)))) := by
        show w1.ownsRow w.heap.size 5 1 v1 (jn N Z k ++ zL (Z k) (N k)).length (bl (jn N Z k ++ zL (Z k) (N k)))
        rw [List.length_append]
        exact ho1
      have HB1 : Hid (Below w.heap.size w w1) := HB.out.grown hg1 HB.out.size (fun q hq => (HO.out.lt q hq).1)
      clear ho1 hg1
      go_wp2_with fail
      go_roundw
      case rel => exact ⟨k + 1, hlt, by go_num, HB1, HO1⟩
      case measure => simp [intOf]; omega
    · have hkn : k = m := by omega
      subst hkn
      go_wp2_with fail
      go_ret
      exact ⟨_, rfl, HB.out, HO.out⟩
/-- A row that grows, over a box, and fresh rows of bytes that wait to be appended. -/
structure L3 (w wB W : World) (v : Value) (xs : List Int) (n : Nat) (P : List (Nat × List Int)) : Prop where
  below : Below (w.heap.size + 1) wB W
  hsz : w.heap.size + 1 ≤ W.heap.size
  own : W.ownsRow (w.heap.size + 1) 5 1 v n (bl xs)
  pend : ∀ p ∈ P, p.1 < W.heap.size ∧ v.ownBlock ≠ some p.1 ∧ ∀ j u, (bl p.2)[j]? = some u → W.cell? ((⟨p.1, 0, none⟩ : Addr).add j) = some u
theorem L3.drew {w wB W : World} {v : Value} {xs : List Int} {n : Nat} {P : List (Nat × List Int)} (h : L3 w wB W v xs n P) : L3 w wB W.drew v xs n P := ⟨h.below.drew, h.hsz, h.own, h.pend⟩
theorem L3.call {w wB W W' : World} {v : Value} {xs ys : List Int} {n g cq : Nat} {P : List (Nat × List Int)} (h : L3 w wB W v xs n P) (hb : Below W.heap.size W W') (hq : W'.ownsRow W.heap.size 5 1 (.slice (some ⟨g, 0, none⟩) ys.length cq) ys.length (bl ys)) (hg : W.heap.size ≤ g ∧ g < W'.heap.size) : L3 w wB W' v xs n ((g, ys) :: P) := by
  refine ⟨h.below.trans (hb.mono h.hsz), Nat.le_trans h.hsz hb.size, rowB_below h.own hb, fun p hp => ?_⟩
  rcases List.mem_cons.1 hp with rfl | hp
  · exact ⟨hg.2, fun e => by have := (h.own.lt _ e).2; omega, newsB hq⟩
  · obtain ⟨h1, h2, h3⟩ := h.pend p hp
    refine ⟨Nat.lt_of_lt_of_le h1 hb.size, h2, fun j u hj => ?_⟩
    have h4 := h3 j u hj
    rw [WideShapes.add_plain] at h4 ⊢
    exact cell_below h4 hb
theorem L3.app {w wB W W' : World} {v : Value} {xs ys : List Int} {n g' cap' m : Nat} {P : List (Nat × List Int)} (h : L3 w wB W v xs n P) (ho : W'.ownsRow (w.heap.size + 1) 5 1 (.slice (some ⟨g', 0, none⟩) (n + m) cap') (n + m) (bl xs ++ bl ys)) (hg : W.grownBy W' v.ownBlock) (hat : v.ownBlock = some g' ∨ g' = W.heap.size) :
    L3 w wB W' (.slice (some ⟨g', 0, none⟩) (n + m) cap') (xs ++ ys) (n + m) P := by
  refine ⟨h.below.grown hg h.hsz fun q hq => (h.own.lt q hq).1, Nat.le_trans h.hsz hg.size, by rw [bl_app]; exact ho, fun p hp => ?_⟩
  obtain ⟨h1, h2, h3⟩ := h.pend p hp
  have hblk := hg.block p.1 h1 (fun e => h2 e.symm)
  refine ⟨Nat.lt_of_lt_of_le h1 hg.size, ?_, fun j u hj => ?_⟩
  · rcases hat with e | e
    · intro e2
      exact h2 (e.trans e2)
    · intro e2
      simp only [Value.ownBlock, Option.some.injEq] at e2
      omega
  · have h4 := h3 j u hj
    rw [WideShapes.add_plain] at h4 ⊢
    exact (World.cell?_of_block (w := W) (a := ⟨p.1, _, none⟩) hblk).trans h4
theorem L3.stepApp {ops : Array Oper} {o : Oper} {a : Act} {K : Act → World → Prop} {Q : Exit → Act → World → Prop} {E : Prop} {w wB W : World} {v : Value} {xs : List Int} {n : Nat} {P : List (Nat × List Int)} (h : L3 w wB W v xs n P) (hgd : o.guard = none) (s x : Operand)
    (ho : o.op = .call { callee := .builtin .append, args := #[s, x], argTypes := #[27, 27] }) (hs : a.eval s = v) (g c : Nat) (ys : List Int) (hx : a.eval x = .slice (some ⟨g, 0, none⟩) 2 c) (hl : ys.length = 2) (hp : (g, ys) ∈ P) (hn : n ≤ 20)
    (hk : ∀ g' cap' W', L3 w wB W' (.slice (some ⟨g', 0, none⟩) (n + 2) cap') (xs ++ ys) (n + 2) P → K (a.put o.dst (.slice (some ⟨g', 0, none⟩) (n + 2) cap')) W') :
    if Region.wanted o (yielded ops a.tmps) = true then Oper.wp Tryz.prog o a W K Q else E := by
  obtain ⟨i0, hi, hz0, hz1, hz2⟩ := info_parts info5
  refine step_append_lies (P := Tryz.prog) W hgd s x 27 ho (w.heap.size + 1) 5 i0 (.int .u8 0) 1 1 Tryz.underlying27 hi hz0 hz1 hz2 rfl (by decide) v n (bl xs) hs h.own ⟨g, 0, none⟩ 2 c (bl ys) hx (by rw [bl_len, hl]) (h.pend _ hp).2.2 (bl_one _) (by decide) (by unfold maxLen; omega) (by omega) h.hsz _ rfl ?_
  intro g' cap' W' h1 h2 h3 h4
  exact hk g' cap' W' (h.app h1 h2 h3)
theorem L3.cell {w wB W : World} {v x : Value} {xs : List Int} {n i : Nat} {P : List (Nat × List Int)} (h : L3 w wB W v xs n P) (hx : wB.cell? ⟨w.heap.size, i, none⟩ = some x) : W.cell? ⟨w.heap.size, i, none⟩ = some x :=
  (h.below.cell (p := ⟨w.heap.size, i, none⟩) (by show w.heap.size < w.heap.size + 1; omega)).trans hx
theorem two_u8 (x y : Int) : ∀ u ∈ [Value.int .u8 x, Value.int .u8 y], u.oneCell' = true := by intro u hu; simp at hu; rcases hu with rfl | rfl <;> rfl
theorem cell_two_newB (w : World) (a b : Value) (t : TypeId) : ∀ j u, [a, b][j]? = some u → (w.alloc (.cells #[a, b] t)).cell? ((⟨w.heap.size, 0, none⟩ : Addr).add j) = some u := by
  intro j u hj
  rw [WideShapes.add_plain]
  rcases j with _ | _ | j
  · simp at hj; subst hj; simp
  · simp at hj; subst hj; simp
  · simp at hj
set_option maxHeartbeats 8000000 in
theorem specL3_0 (k t key old nw bk : Int) (w : World) (g : GoodR k t key false old false nw bk) :
    Calls Tryz.prog 119 #[.agg #[.int .i64 k, .int .i64 t, .int .i64 key, .bool false, .int .i64 old, .bool false, .int .i64 nw, .int .i64 bk]] w fun e w' => ∃ v, e = .returned v ∧ Below w.heap.size w w' ∧ w'.ownsRow w.heap.size 5 1 v (rb k t key false old false nw bk).length (bl (rb k t key false old false nw bk)) ∧ v ≠ .slice none 0 0 := by
  have HG : Hid (GoodR k t key false old false nw bk) := g
  obtain ⟨hk1, hk2⟩ := g.k
  obtain ⟨ht1, ht2⟩ := g.t
  have ht2 : t ≤ 1000000 := by omega
  obtain ⟨hy1, hy2⟩ := g.key
  have Hold : Hid (0 ≤ old ∧ old ≤ 1000000) := ⟨g.old.1, by have := g.old; omega⟩
  have Hnw : Hid (0 ≤ nw ∧ nw ≤ 1000000) := ⟨g.nw.1, by have := g.nw; omega⟩
  have Hbk : Hid (0 ≤ bk ∧ bk ≤ 1000000) := ⟨g.bk.1, by have := g.bk; omega⟩
  have hw8 : IntKind.u8.wrap k = k := by rw [IntKind.wrap_u8]; omega
  have hw9 : IntKind.u8.wrap key = key := by rw [IntKind.wrap_u8]; omega
  obtain ⟨i0, hi, hz0, hz1, hz2⟩ := info_parts info5
  have HI : Hid (Tryz.prog.info? 5 = some i0 ∧ i0.zero = some (.int .u8 0) ∧ i0.size = 1 ∧ i0.bytes = 1) := ⟨hi, hz0, hz1, hz2⟩
  have hb0 : Below (w.heap.size + 1) (w.alloc (.cells #[.int .i64 k, .int .i64 t, .int .i64 key, .bool false, .int .i64 old, .bool false, .int .i64 nw, .int .i64 bk] 105)) (w.alloc (.cells #[.int .i64 k, .int .i64 t, .int .i64 key, .bool false, .int .i64 old, .bool false, .int .i64 nw, .int .i64 bk] 105)).drew := (Below.refl _ _).drew
  clear hi hz0 hz1 hz2 g
  go_enter Tryz.func119, Tryz.ntmps119
  go_wp2
  have hold0 : Below (w.heap.size + 1) (w.alloc (.cells #[.int .i64 k, .int .i64 t, .int .i64 key, .bool false, .int .i64 old, .bool false, .int .i64 nw, .int .i64 bk] 105)) (w.alloc (.cells #[.int .i64 k, .int .i64 t, .int .i64 key, .bool false, .int .i64 old, .bool false, .int .i64 nw, .int .i64 bk] 105)).drew ∧ (w.alloc (.cells #[.int .i64 k, .int .i64 t, .int .i64 key, .bool false, .int .i64 old, .bool false, .int .i64 nw, .int .i64 bk] 105)).drew.cell? ⟨w.heap.size, 0, none⟩ = some (.int .i64 k) ∧ (w.alloc (.cells #[.int .i64 k, .int .i64 t, .int .i64 key, .bool false, .int .i64 old, .bool false, .int .i64 nw, .int .i64 bk] 105)).drew.cell? ⟨w.heap.size, 1, none⟩ = some (.int .i64 t) := ⟨hb0, by simp, by simp⟩
  go_region_held3 (fun w' => Below (w.heap.size + 1) (w.alloc (.cells #[.int .i64 k, .int .i64 t, .int .i64 key, .bool false, .int .i64 old, .bool false, .int .i64 nw, .int .i64 bk] 105)) w' ∧ w'.cell? ⟨w.heap.size, 0, none⟩ = some (.int .i64 k) ∧ w'.cell? ⟨w.heap.size, 1, none⟩ = some (.int .i64 t)) (first | assumption | (obtain ⟨hKa, hKb, hKc⟩ := ‹Below (w.heap.size + 1) _ _ ∧ _ ∧ _›; exact ⟨by first | exact keepB hKa | exact keepB' hKa, by go_keep, by go_keep⟩))
    (first | (go_at_call 88; refine (l1Bytes_any t 2 _ (by decide) ht1 ht2).mono ?_; rintro e wq ⟨vq, rfl, hbq, hoq, hneq⟩; obtain ⟨gq, cq, rfl, hgq⟩ := formB hoq hneq; have HX := (‹Below (w.heap.size + 1) _ _ ∧ _ ∧ _›); have hC := cellsq2 HX hbq; clear HX) | (have HX := (‹Below (w.heap.size + 1) _ _ ∧ _ ∧ _›); refine step_appB _ rfl (.tmp 14) (.tmp 17) rfl (w.heap.size + 1) _ 1 [(.int .u8 k)] rfl (rowB_below (own8a w _ _) hbq) ⟨gq, 0, none⟩ 2 cq (bl (nb t 2)) rfl (nb_bl2 _) (newsB hoq) (bl_one _) (by decide) (hszB HX.1) ?_; intro v18 w18 ho18 hg18; have hD18 := cellsg HX (rowB_below (own8a w _ _) hbq) hg18) | (have HX := (‹Below (w.heap.size + 1) _ _ ∧ _ ∧ _›); refine step_appB _ rfl (.tmp 14) (.tmp 17) rfl (w.heap.size + 1) _ 1 [(.int .u8 k)] rfl (own8b (hszB hC.1)) ⟨gq, 0, none⟩ 2 cq (bl (nb t 2)) rfl (nb_bl2 _) (newsB_alloc hoq) (bl_one _) (by decide) (hszB HX.1) ?_; intro v18 w18 ho18 hg18; have hD18 := cellsg HX (own8b (hszB hC.1)) hg18))
  all_goals
    have PS : Hid (Below (w.heap.size + 1) (w.alloc (.cells #[.int .i64 k, .int .i64 t, .int .i64 key, .bool false, .int .i64 old, .bool false, .int .i64 nw, .int .i64 bk] 105)) w18 ∧ w18.ownsRow (w.heap.size + 1) 5 1 v18 3 (bl (nb k 1 ++ nb t 2))) := by
      refine ⟨hD18.1, ?_⟩
      rw [byt_small hk1 (by omega), bl_app]
      exact ho18
    have k2 : w18.cell? ⟨w.heap.size, 2, none⟩ = some (.int .i64 key) := by rw [PS.out.1.cell (p := ⟨w.heap.size, 2, none⟩) (by simp)]; simp
    have m2 := fun o : Obj => cell_alloc k2 o
    have HSZ : Hid (w.heap.size + 1 ≤ w18.heap.size) := hszB PS.out.1
    clear ho18 hg18 hD18
    go_wp2_with (at_builtin; refine wpList_append_own _ rfl (.tmp 19) (.tmp 24) 27 rfl (w.heap.size + 1) 5 i0 (.int .u8 0) 1 1 Tryz.underlying27 HI.out.1 HI.out.2.1 HI.out.2.2.1 HI.out.2.2.2 rfl (by decide) _ 3 _ rfl (PS.out.2.alloc _) ⟨w18.heap.size, 0, none⟩ 2 2 [.int .u8 key, .int .u8 0] rfl rfl (cell_two_newB _ _ _ _) (two_u8 _ _) ?c3 ?c4 ?c5 ?_)
    case c3 => unfold maxLen; omega
    case c4 => omega
    case c5 => have := HSZ.out; simp; omega
    intro v25 w25 ho25 hg25 _
    have HL0 : Hid (L3 w (w.alloc (.cells #[.int .i64 k, .int .i64 t, .int .i64 key, .bool false, .int .i64 old, .bool false, .int .i64 nw, .int .i64 bk] 105)) w25 v25 (nb k 1 ++ nb t 2 ++ (nb key 1 ++ nb (fl false false) 1)) 5 []) := by
      have hb := keepB' (o2 := .cells #[.int .u8 key, .int .u8 0] 5) PS.out.1
      have ho := PS.out.2.alloc (.cells #[.int .u8 key, .int .u8 0] 5)
      refine ⟨grB hb ho hg25, Nat.le_trans (hszB hb) hg25.size, ?_, fun p hp => by cases hp⟩
      rw [bl_app, byt_small hy1 (by omega), show nb (fl false false) 1 = [0] by rw [byt_small (by decide) (by decide)]; rfl]
      exact ho25
    clear ho25 hg25 PS k2 m2 HSZ
    have HL := HL0.out.drew
    have d4 := HL.cell (i := 4) (x := .int .i64 old) (by simp)
    have d6 := HL.cell (i := 6) (x := .int .i64 nw) (by simp)
    have d7 := HL.cell (i := 7) (x := .int .i64 bk) (by simp)
    go_wp2
    go_region_held3 (fun w' => w'.cell? ⟨w.heap.size, 4, none⟩ = some (.int .i64 old) ∧ w'.cell? ⟨w.heap.size, 6, none⟩ = some (.int .i64 nw) ∧ w'.cell? ⟨w.heap.size, 7, none⟩ = some (.int .i64 bk)) (go_keep)
      (first | (go_at_call 88; refine (l1Bytes_any _ 2 _ (by decide) ?ha ?hb).mono ?_; (case ha => first | exact Hold.out.1 | exact Hnw.out.1 | exact Hbk.out.1); (case hb => first | exact Hold.out.2 | exact Hnw.out.2 | exact Hbk.out.2); rintro e wq ⟨vq, rfl, hbq, hoq, hneq⟩; obtain ⟨gq, cq, rfl, hgq⟩ := formB hoq hneq; have HL := L3.call HL hbq hoq hgq; have d4 := HL.cell (i := 4) (x := .int .i64 old) (by simp); have d6 := HL.cell (i := 6) (x := .int .i64 nw) (by simp); have d7 := HL.cell (i := 7) (x := .int .i64 bk) (by simp); clear hoq hbq hneq hgq) | (refine HL.stepApp rfl (.tmp 26) (.tmp 29) rfl rfl _ _ (nb old 2) rfl (nb_len _ _) (by simp) (by decide) ?_; intro gx capx wx HL; have d4 := HL.cell (i := 4) (x := .int .i64 old) (by simp); have d6 := HL.cell (i := 6) (x := .int .i64 nw) (by simp); have d7 := HL.cell (i := 7) (x := .int .i64 bk) (by simp)) | (refine HL.stepApp rfl (.tmp 30) (.tmp 33) rfl rfl _ _ (nb nw 2) rfl (nb_len _ _) (by simp) (by decide) ?_; intro gx capx wx HL; have d4 := HL.cell (i := 4) (x := .int .i64 old) (by simp); have d6 := HL.cell (i := 6) (x := .int .i64 nw) (by simp); have d7 := HL.cell (i := 7) (x := .int .i64 bk) (by simp)) | (refine HL.stepApp rfl (.tmp 34) (.tmp 37) rfl rfl _ _ (nb bk 2) rfl (nb_len _ _) (by simp) (by decide) ?_; intro gx capx wx HL; have d4 := HL.cell (i := 4) (x := .int .i64 old) (by simp); have d6 := HL.cell (i := 6) (x := .int .i64 nw) (by simp); have d7 := HL.cell (i := 7) (x := .int .i64 bk) (by simp)))
    all_goals
      have HB : Hid (Below (w.heap.size + 1) (w.alloc (.cells #[.int .i64 k, .int .i64 t, .int .i64 key, .bool false, .int .i64 old, .bool false, .int .i64 nw, .int .i64 bk] 105)) wx) := HL.below
      have HO : Hid (wx.ownsRow (w.heap.size + 1) 5 1 (.slice (some ⟨gx, 0, none⟩) 11 capx) 11 (bl (rbb k t key false old false nw bk))) := by
        have h := HL.own
        simp only [List.append_assoc] at h
        show World.ownsRow _ _ _ _ _ _ (bl (rbb k t key false old false nw bk))
        rw [rbb]
        simp only [List.append_assoc]
        exact h
      clear HL d4 d6 d7
      have HSM : Hid (0 ≤ sm (rbb k t key false old false nw bk) ∧ sm (rbb k t key false old false nw bk) ≤ 65520) := sumB_bd _ _
      have HSE : Hid (sumB (fun i => (rbb k t key false old false nw bk).getD i 0) 11 = sm (rbb k t key false old false nw bk)) := by show _ = sm (rbb k t key false old false nw bk); rw [sm, rbb_len]
      go_wp2_with fail
      have HH := specSum_any (rbb k t key false old false nw bk).length (fun i => (rbb k t key false old false nw bk).getD i 0) (some ⟨gx, 0, none⟩) capx wx (by rw [rbb_len]; omega) (byt_of (rbb_byt k t key false old false nw bk)) (bytes_of_own (by rw [rbb_len]; exact HO.out))
      rw [rbb_len, HSE.out] at HH
      refine HH.mono ?_
      clear HH
      rintro e wz ⟨rfl, rfl⟩
      go_wp2_with fail
      refine (l1Bytes_any (sm (rbb k t key false old false nw bk)) 2 _ (by omega) HSM.out.1 (by have := HSM.out.2; omega)).mono ?_
      rintro e wq ⟨vq, rfl, hbq, hoq, hneq⟩
      obtain ⟨gq, cq, rfl, hgq⟩ := formB hoq hneq
      have HOA : Hid (wq.ownsRow (w.heap.size + 1) 5 1 (.slice (some ⟨gx, 0, none⟩) 11 capx) 11 (bl (rbb k t key false old false nw bk))) := rowB_below HO.out hbq
      have HOQ : Hid (∀ j u, (bl (nb (sm (rbb k t key false old false nw bk)) 2))[j]? = some u → wq.cell? ((⟨gq, 0, none⟩ : Addr).add j) = some u) := newsB hoq
      have HBQ : Hid (Below (w.heap.size + 1) (w.alloc (.cells #[.int .i64 k, .int .i64 t, .int .i64 key, .bool false, .int .i64 old, .bool false, .int .i64 nw, .int .i64 bk] 105)) wq) := belB HB.out hbq
      have HLQ : Hid ((nb (sm (rbb k t key false old false nw bk)) 2).length = 2) := nb_len _ _
      rw [HLQ.out]
      clear hoq hneq hgq hbq
      go_wp2_with (at_builtin; refine wpList_append_own _ rfl (.tmp 39) (.tmp 42) 27 rfl (w.heap.size + 1) 5 i0 (.int .u8 0) 1 1 Tryz.underlying27 HI.out.1 HI.out.2.1 HI.out.2.2.1 HI.out.2.2.2 rfl (by decide) _ 11 _ rfl HOA.out ⟨gq, 0, none⟩ 2 cq (bl (nb (sm (rbb k t key false old false nw bk)) 2)) rfl ?c1 ?c2 (bl_one _) ?c3 ?c4 ?c5 ?_)
      case c1 => rw [bl_len, HLQ.out]
      case c2 => exact HOQ.out
      case c3 => unfold maxLen; omega
      case c4 => omega
      case c5 => exact hszB HBQ.out
      intro v43 w43 ho43 hg43 hne43
      have HF : Hid (w43.ownsRow w.heap.size 5 1 v43 (rb k t key false old false nw bk).length (bl (rb k t key false old false nw bk))) := by
        show World.ownsRow _ _ _ _ _ _ (bl (rb k t key false old false nw bk))
        rw [rb_len, rb, bl_app]
        exact rowB_down ho43 (by omega)
      have HBF : Hid (Below w.heap.size w w43) := (below_new _ _).trans ((grB HBQ.out HOA.out hg43).mono (by omega))
      have HNE : Hid (v43 ≠ .slice none 0 0) := hne43
      clear ho43 hg43 hne43
      go_wp2
      go_ret
      exact ⟨v43, rfl, HBF.out, HF.out, HNE.out⟩
set_option maxHeartbeats 8000000 in
theorem specL3_1 (k t key old nw bk : Int) (w : World) (g : GoodR k t key true old false nw bk) :
    Calls Tryz.prog 119 #[.agg #[.int .i64 k, .int .i64 t, .int .i64 key, .bool true, .int .i64 old, .bool false, .int .i64 nw, .int .i64 bk]] w fun e w' => ∃ v, e = .returned v ∧ Below w.heap.size w w' ∧ w'.ownsRow w.heap.size 5 1 v (rb k t key true old false nw bk).length (bl (rb k t key true old false nw bk)) ∧ v ≠ .slice none 0 0 := by
  have HG : Hid (GoodR k t key true old false nw bk) := g
  obtain ⟨hk1, hk2⟩ := g.k
  obtain ⟨ht1, ht2⟩ := g.t
  have ht2 : t ≤ 1000000 := by omega
  obtain ⟨hy1, hy2⟩ := g.key
  have Hold : Hid (0 ≤ old ∧ old ≤ 1000000) := ⟨g.old.1, by have := g.old; omega⟩
  have Hnw : Hid (0 ≤ nw ∧ nw ≤ 1000000) := ⟨g.nw.1, by have := g.nw; omega⟩
  have Hbk : Hid (0 ≤ bk ∧ bk ≤ 1000000) := ⟨g.bk.1, by have := g.bk; omega⟩
  have hw8 : IntKind.u8.wrap k = k := by rw [IntKind.wrap_u8]; omega
  have hw9 : IntKind.u8.wrap key = key := by rw [IntKind.wrap_u8]; omega
  obtain ⟨i0, hi, hz0, hz1, hz2⟩ := info_parts info5
  have HI : Hid (Tryz.prog.info? 5 = some i0 ∧ i0.zero = some (.int .u8 0) ∧ i0.size = 1 ∧ i0.bytes = 1) := ⟨hi, hz0, hz1, hz2⟩
  have hb0 : Below (w.heap.size + 1) (w.alloc (.cells #[.int .i64 k, .int .i64 t, .int .i64 key, .bool true, .int .i64 old, .bool false, .int .i64 nw, .int .i64 bk] 105)) (w.alloc (.cells #[.int .i64 k, .int .i64 t, .int .i64 key, .bool true, .int .i64 old, .bool false, .int .i64 nw, .int .i64 bk] 105)).drew := (Below.refl _ _).drew
  clear hi hz0 hz1 hz2 g
  go_enter Tryz.func119, Tryz.ntmps119
  go_wp2
  have hold0 : Below (w.heap.size + 1) (w.alloc (.cells #[.int .i64 k, .int .i64 t, .int .i64 key, .bool true, .int .i64 old, .bool false, .int .i64 nw, .int .i64 bk] 105)) (w.alloc (.cells #[.int .i64 k, .int .i64 t, .int .i64 key, .bool true, .int .i64 old, .bool false, .int .i64 nw, .int .i64 bk] 105)).drew ∧ (w.alloc (.cells #[.int .i64 k, .int .i64 t, .int .i64 key, .bool true, .int .i64 old, .bool false, .int .i64 nw, .int .i64 bk] 105)).drew.cell? ⟨w.heap.size, 0, none⟩ = some (.int .i64 k) ∧ (w.alloc (.cells #[.int .i64 k, .int .i64 t, .int .i64 key, .bool true, .int .i64 old, .bool false, .int .i64 nw, .int .i64 bk] 105)).drew.cell? ⟨w.heap.size, 1, none⟩ = some (.int .i64 t) := ⟨hb0, by simp, by simp⟩
  go_region_held3 (fun w' => Below (w.heap.size + 1) (w.alloc (.cells #[.int .i64 k, .int .i64 t, .int .i64 key, .bool true, .int .i64 old, .bool false, .int .i64 nw, .int .i64 bk] 105)) w' ∧ w'.cell? ⟨w.heap.size, 0, none⟩ = some (.int .i64 k) ∧ w'.cell? ⟨w.heap.size, 1, none⟩ = some (.int .i64 t)) (first | assumption | (obtain ⟨hKa, hKb, hKc⟩ := ‹Below (w.heap.size + 1) _ _ ∧ _ ∧ _›; exact ⟨by first | exact keepB hKa | exact keepB' hKa, by go_keep, by go_keep⟩))
    (first | (go_at_call 88; refine (l1Bytes_any t 2 _ (by decide) ht1 ht2).mono ?_; rintro e wq ⟨vq, rfl, hbq, hoq, hneq⟩; obtain ⟨gq, cq, rfl, hgq⟩ := formB hoq hneq; have HX := (‹Below (w.heap.size + 1) _ _ ∧ _ ∧ _›); have hC := cellsq2 HX hbq; clear HX) | (have HX := (‹Below (w.heap.size + 1) _ _ ∧ _ ∧ _›); refine step_appB _ rfl (.tmp 14) (.tmp 17) rfl (w.heap.size + 1) _ 1 [(.int .u8 k)] rfl (rowB_below (own8a w _ _) hbq) ⟨gq, 0, none⟩ 2 cq (bl (nb t 2)) rfl (nb_bl2 _) (newsB hoq) (bl_one _) (by decide) (hszB HX.1) ?_; intro v18 w18 ho18 hg18; have hD18 := cellsg HX (rowB_below (own8a w _ _) hbq) hg18) | (have HX := (‹Below (w.heap.size + 1) _ _ ∧ _ ∧ _›); refine step_appB _ rfl (.tmp 14) (.tmp 17) rfl (w.heap.size + 1) _ 1 [(.int .u8 k)] rfl (own8b (hszB hC.1)) ⟨gq, 0, none⟩ 2 cq (bl (nb t 2)) rfl (nb_bl2 _) (newsB_alloc hoq) (bl_one _) (by decide) (hszB HX.1) ?_; intro v18 w18 ho18 hg18; have hD18 := cellsg HX (own8b (hszB hC.1)) hg18))
  all_goals
    have PS : Hid (Below (w.heap.size + 1) (w.alloc (.cells #[.int .i64 k, .int .i64 t, .int .i64 key, .bool true, .int .i64 old, .bool false, .int .i64 nw, .int .i64 bk] 105)) w18 ∧ w18.ownsRow (w.heap.size + 1) 5 1 v18 3 (bl (nb k 1 ++ nb t 2))) := by
      refine ⟨hD18.1, ?_⟩
      rw [byt_small hk1 (by omega), bl_app]
      exact ho18
    have k2 : w18.cell? ⟨w.heap.size, 2, none⟩ = some (.int .i64 key) := by rw [PS.out.1.cell (p := ⟨w.heap.size, 2, none⟩) (by simp)]; simp
    have m2 := fun o : Obj => cell_alloc k2 o
    have HSZ : Hid (w.heap.size + 1 ≤ w18.heap.size) := hszB PS.out.1
    clear ho18 hg18 hD18
    go_wp2_with (at_builtin; refine wpList_append_own _ rfl (.tmp 19) (.tmp 24) 27 rfl (w.heap.size + 1) 5 i0 (.int .u8 0) 1 1 Tryz.underlying27 HI.out.1 HI.out.2.1 HI.out.2.2.1 HI.out.2.2.2 rfl (by decide) _ 3 _ rfl (PS.out.2.alloc _) ⟨w18.heap.size, 0, none⟩ 2 2 [.int .u8 key, .int .u8 1] rfl rfl (cell_two_newB _ _ _ _) (two_u8 _ _) ?c3 ?c4 ?c5 ?_)
    case c3 => unfold maxLen; omega
    case c4 => omega
    case c5 => have := HSZ.out; simp; omega
    intro v25 w25 ho25 hg25 _
    have HL0 : Hid (L3 w (w.alloc (.cells #[.int .i64 k, .int .i64 t, .int .i64 key, .bool true, .int .i64 old, .bool false, .int .i64 nw, .int .i64 bk] 105)) w25 v25 (nb k 1 ++ nb t 2 ++ (nb key 1 ++ nb (fl true false) 1)) 5 []) := by
      have hb := keepB' (o2 := .cells #[.int .u8 key, .int .u8 1] 5) PS.out.1
      have ho := PS.out.2.alloc (.cells #[.int .u8 key, .int .u8 1] 5)
      refine ⟨grB hb ho hg25, Nat.le_trans (hszB hb) hg25.size, ?_, fun p hp => by cases hp⟩
      rw [bl_app, byt_small hy1 (by omega), show nb (fl true false) 1 = [1] by rw [byt_small (by decide) (by decide)]; rfl]
      exact ho25
    clear ho25 hg25 PS k2 m2 HSZ
    have HL := HL0.out.drew
    have d4 := HL.cell (i := 4) (x := .int .i64 old) (by simp)
    have d6 := HL.cell (i := 6) (x := .int .i64 nw) (by simp)
    have d7 := HL.cell (i := 7) (x := .int .i64 bk) (by simp)
    go_wp2
    go_region_held3 (fun w' => w'.cell? ⟨w.heap.size, 4, none⟩ = some (.int .i64 old) ∧ w'.cell? ⟨w.heap.size, 6, none⟩ = some (.int .i64 nw) ∧ w'.cell? ⟨w.heap.size, 7, none⟩ = some (.int .i64 bk)) (go_keep)
      (first | (go_at_call 88; refine (l1Bytes_any _ 2 _ (by decide) ?ha ?hb).mono ?_; (case ha => first | exact Hold.out.1 | exact Hnw.out.1 | exact Hbk.out.1); (case hb => first | exact Hold.out.2 | exact Hnw.out.2 | exact Hbk.out.2); rintro e wq ⟨vq, rfl, hbq, hoq, hneq⟩; obtain ⟨gq, cq, rfl, hgq⟩ := formB hoq hneq; have HL := L3.call HL hbq hoq hgq; have d4 := HL.cell (i := 4) (x := .int .i64 old) (by simp); have d6 := HL.cell (i := 6) (x := .int .i64 nw) (by simp); have d7 := HL.cell (i := 7) (x := .int .i64 bk) (by simp); clear hoq hbq hneq hgq) | (refine HL.stepApp rfl (.tmp 26) (.tmp 29) rfl rfl _ _ (nb old 2) rfl (nb_len _ _) (by simp) (by decide) ?_; intro gx capx wx HL; have d4 := HL.cell (i := 4) (x := .int .i64 old) (by simp); have d6 := HL.cell (i := 6) (x := .int .i64 nw) (by simp); have d7 := HL.cell (i := 7) (x := .int .i64 bk) (by simp)) | (refine HL.stepApp rfl (.tmp 30) (.tmp 33) rfl rfl _ _ (nb nw 2) rfl (nb_len _ _) (by simp) (by decide) ?_; intro gx capx wx HL; have d4 := HL.cell (i := 4) (x := .int .i64 old) (by simp); have d6 := HL.cell (i := 6) (x := .int .i64 nw) (by simp); have d7 := HL.cell (i := 7) (x := .int .i64 bk) (by simp)) | (refine HL.stepApp rfl (.tmp 34) (.tmp 37) rfl rfl _ _ (nb bk 2) rfl (nb_len _ _) (by simp) (by decide) ?_; intro gx capx wx HL; have d4 := HL.cell (i := 4) (x := .int .i64 old) (by simp); have d6 := HL.cell (i := 6) (x := .int .i64 nw) (by simp); have d7 := HL.cell (i := 7) (x := .int .i64 bk) (by simp)))
    all_goals
      have HB : Hid (Below (w.heap.size + 1) (w.alloc (.cells #[.int .i64 k, .int .i64 t, .int .i64 key, .bool true, .int .i64 old, .bool false, .int .i64 nw, .int .i64 bk] 105)) wx) := HL.below
      have HO : Hid (wx.ownsRow (w.heap.size + 1) 5 1 (.slice (some ⟨gx, 0, none⟩) 11 capx) 11 (bl (rbb k t key true old false nw bk))) := by
        have h := HL.own
        simp only [List.append_assoc] at h
        show World.ownsRow _ _ _ _ _ _ (bl (rbb k t key true old false nw bk))
        rw [rbb]
        simp only [List.append_assoc]
        exact h
      clear HL d4 d6 d7
      have HSM : Hid (0 ≤ sm (rbb k t key true old false nw bk) ∧ sm (rbb k t key true old false nw bk) ≤ 65520) := sumB_bd _ _
      have HSE : Hid (sumB (fun i => (rbb k t key true old false nw bk).getD i 0) 11 = sm (rbb k t key true old false nw bk)) := by show _ = sm (rbb k t key true old false nw bk); rw [sm, rbb_len]
      go_wp2_with fail
      have HH := specSum_any (rbb k t key true old false nw bk).length (fun i => (rbb k t key true old false nw bk).getD i 0) (some ⟨gx, 0, none⟩) capx wx (by rw [rbb_len]; omega) (byt_of (rbb_byt k t key true old false nw bk)) (bytes_of_own (by rw [rbb_len]; exact HO.out))
      rw [rbb_len, HSE.out] at HH
      refine HH.mono ?_
      clear HH
      rintro e wz ⟨rfl, rfl⟩
      go_wp2_with fail
      refine (l1Bytes_any (sm (rbb k t key true old false nw bk)) 2 _ (by omega) HSM.out.1 (by have := HSM.out.2; omega)).mono ?_
      rintro e wq ⟨vq, rfl, hbq, hoq, hneq⟩
      obtain ⟨gq, cq, rfl, hgq⟩ := formB hoq hneq
      have HOA : Hid (wq.ownsRow (w.heap.size + 1) 5 1 (.slice (some ⟨gx, 0, none⟩) 11 capx) 11 (bl (rbb k t key true old false nw bk))) := rowB_below HO.out hbq
      have HOQ : Hid (∀ j u, (bl (nb (sm (rbb k t key true old false nw bk)) 2))[j]? = some u → wq.cell? ((⟨gq, 0, none⟩ : Addr).add j) = some u) := newsB hoq
      have HBQ : Hid (Below (w.heap.size + 1) (w.alloc (.cells #[.int .i64 k, .int .i64 t, .int .i64 key, .bool true, .int .i64 old, .bool false, .int .i64 nw, .int .i64 bk] 105)) wq) := belB HB.out hbq
      have HLQ : Hid ((nb (sm (rbb k t key true old false nw bk)) 2).length = 2) := nb_len _ _
      rw [HLQ.out]
      clear hoq hneq hgq hbq
      go_wp2_with (at_builtin; refine wpList_append_own _ rfl (.tmp 39) (.tmp 42) 27 rfl (w.heap.size + 1) 5 i0 (.int .u8 0) 1 1 Tryz.underlying27 HI.out.1 HI.out.2.1 HI.out.2.2.1 HI.out.2.2.2 rfl (by decide) _ 11 _ rfl HOA.out ⟨gq, 0, none⟩ 2 cq (bl (nb (sm (rbb k t key true old false nw bk)) 2)) rfl ?c1 ?c2 (bl_one _) ?c3 ?c4 ?c5 ?_)
      case c1 => rw [bl_len, HLQ.out]
      case c2 => exact HOQ.out
      case c3 => unfold maxLen; omega
      case c4 => omega
      case c5 => exact hszB HBQ.out
      intro v43 w43 ho43 hg43 hne43
      have HF : Hid (w43.ownsRow w.heap.size 5 1 v43 (rb k t key true old false nw bk).length (bl (rb k t key true old false nw bk))) := by
        show World.ownsRow _ _ _ _ _ _ (bl (rb k t key true old false nw bk))
        rw [rb_len, rb, bl_app]
        exact rowB_down ho43 (by omega)
      have HBF : Hid (Below w.heap.size w w43) := (below_new _ _).trans ((grB HBQ.out HOA.out hg43).mono (by omega))
      have HNE : Hid (v43 ≠ .slice none 0 0) := hne43
      clear ho43 hg43 hne43
      go_wp2
      go_ret
      exact ⟨v43, rfl, HBF.out, HF.out, HNE.out⟩
end Go.Proofs.YtaokclhcmgbgnaaGreat
