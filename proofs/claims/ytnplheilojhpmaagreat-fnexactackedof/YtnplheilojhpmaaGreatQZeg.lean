/- spec.l3Pack, Had false, Has false. -/
import Derived.Test.YtnplheilojhpmaaGreatQZef
import Derived.Test.YtnplheilojhpmaaGreatQPr
namespace Go.Proofs.YtnplheilojhpmaaGreat
open Go.RowKit Go.Deep
set_option linter.unusedVariables false
set_option maxRecDepth 20000

set_option maxHeartbeats 4000000 in
theorem l1Rise_nil (z : Nat → Int) (v : Int) (w : World) :
    Calls Tryz.prog 53 #[.slice none 0 0, .int .i64 v] w fun e w' => ∃ u, e = .returned u ∧ Below w.heap.size w w' ∧ w'.ownsRow w.heap.size 2 1 u (ri [] v).length (il (ri [] v)) := by
  have HR : Hid (ri [] v = zLn z 0 ++ [v] ++ zLn z 0) := by show ri [] v = _; simp [ri, zLn]
  go_enter Tryz.func53, Tryz.ntmps53
  go_wp2_with fail
  go_loop [5] (fun i => i = .int .i64 0) (fun i => 0)
  case atStart => rfl
  case round =>
    subst hrel
    go_upto_region 6 with fail
    have HX1 : Hid (IntsAt w none 0 z) := .inl rfl
    have RA := rise_at w v
    have HL1 : Hid (([] : List Int).length + 0 ≤ 100000) := by show ([] : List Int).length + 0 ≤ 100000; simp
    have HL2 : Hid ((zLn z 0).length ≤ 100000) := by show (zLn z 0).length ≤ 100000; rw [zLn_len]; omega
    have HL3 : Hid ((zLn z 0 ++ [v]).length + 0 ≤ 100000) := by show (zLn z 0 ++ [v]).length + 0 ≤ 100000; simp [zLn_len]
    go_region_law (first
      | (refine step_appN (w.alloc (.cells #[] 2)).drew rfl (.tmp 33) (.tmp 36) rfl w.heap.size (.slice (some ⟨w.heap.size, 0, none⟩) 0 0) [] rfl RA.1.1 none 0 0 z rfl (HX1.out.below RA.1.2) HL1.out RA.1.2.size ?_; intro v6 w6 ho6 hg6; have FA := rise_one RA.1.2 (Nat.le_refl _) hg6; have O6 := row_nil ho6; clear hg6 ho6)
      | (refine step_appN ((w.alloc (.cells #[] 2)).alloc (.cells #[.int .i64 v] 2)).drew rfl (.tmp 33) (.tmp 36) rfl w.heap.size (.slice (some ⟨w.heap.size, 0, none⟩) 0 0) [] rfl RA.2.1.1 none 0 0 z rfl (HX1.out.below RA.2.1.2.1) HL1.out RA.2.1.2.1.size ?_; intro v6 w6 ho6 hg6; have FB := rise_one RA.2.1.2.1 (Nat.le_refl _) hg6; have O6 := row_nil ho6; clear hg6 ho6)
      | (refine step_appN ((w.alloc (.cells #[.int .i64 v] 2)).alloc (.cells #[] 2)).drew rfl (.tmp 33) (.tmp 36) rfl w.heap.size (.slice (some ⟨w.heap.size + 1, 0, none⟩) 0 0) [] rfl RA.2.2.1 none 0 0 z rfl (HX1.out.below RA.2.2.2.1) HL1.out RA.2.2.2.1.size ?_; intro v6 w6 ho6 hg6; have FC := rise_one (p := w.heap.size + 1) RA.2.2.2.1 (Nat.le_succ _) hg6; have O6 := row_nil ho6; clear hg6 ho6)
      | (refine step_appI (w6.alloc (.cells #[.int .i64 v] 2)) rfl (.tmp 37) (.tmp 39) rfl w.heap.size v6 (zLn z 0) rfl (own_belowI O6 (below_new _ _)) w6.heap.size 0 1 v rfl (by simp [go_sem]) (by have := FA.1.size; simp; omega) HL2.out ?_; intro v9 w9 ho9 hg9; have B9 := rise_two (below_then FA.1 (below_new _ _)) (own_belowI O6 (below_new _ _)) hg9; clear hg9)
      | (refine step_appI w6 rfl (.tmp 37) (.tmp 39) rfl w.heap.size v6 (zLn z 0) rfl O6 (w.heap.size + 1) 0 1 v rfl (FB.2 _ _ (by omega) RA.2.1.2.2) FB.1.size HL2.out ?_; intro v9 w9 ho9 hg9; have B9 := rise_two FB.1 O6 hg9; clear hg9)
      | (refine step_appI w6 rfl (.tmp 37) (.tmp 39) rfl w.heap.size v6 (zLn z 0) rfl O6 w.heap.size 0 1 v rfl (FC.2 _ _ (by omega) RA.2.2.2.2) FC.1.size HL2.out ?_; intro v9 w9 ho9 hg9; have B9 := rise_two FC.1 O6 hg9; clear hg9)
      | (refine step_appN w9 rfl (.tmp 40) (.tmp 43) rfl w.heap.size v9 (zLn z 0 ++ [v]) rfl ho9 none 0 0 z rfl (HX1.out.below B9) HL3.out B9.size ?_; intro v12 w12 ho12 hg12; have B12 := rise_two B9 ho9 hg12; clear hg12)
      | fail)
    all_goals go_wp2_with fail
    all_goals go_ret
    all_goals exact ⟨_, rfl, B12, by rw [HR.out]; exact ho12⟩

theorem l1Rise_own (zs : List Int) (v : Int) (x : Value) (base : Nat) (w : World) (hb : base ≤ w.heap.size) (hl : zs.length ≤ 90000) (ho : w.ownsRow base 2 1 x zs.length (il zs)) :
    Calls Tryz.prog 53 #[x, .int .i64 v] w fun e w' => ∃ u, e = .returned u ∧ Below w.heap.size w w' ∧ w'.ownsRow base 2 1 u (ri zs v).length (il (ri zs v)) := by
  have hx := ho
  rcases ho.2 with ⟨rfl, h0⟩ | ⟨g, cap, cur, rfl, k1, k2, k3⟩
  · have hz : zs = [] := List.length_eq_zero_iff.1 h0
    subst hz
    refine (l1Rise_nil (fun _ => 0) v w).mono ?_
    rintro e w' ⟨u, rfl, hb2, ho2⟩
    exact ⟨_, rfl, hb2, own_downI ho2 hb⟩
  · obtain ⟨a, c, e1, hown⟩ := ownI_of_row ho
    have hc := own_capN ho
    simp only [Value.slice.injEq] at e1
    obtain ⟨rfl, -, rfl⟩ := e1
    have hg : g < w.heap.size := (Array.getElem?_eq_some_iff.1 k2).1
    have hcell : ∀ i, i < zs.length → w.cell? ⟨g, 0 + i, none⟩ = some (.int .i64 (zI zs i)) := by
      rcases hown.2 with h0 | ⟨b, off, e2, h1, h2, h3, -⟩
      · intro i hi; omega
      · simp only [Option.some.injEq, Addr.mk.injEq, and_true] at e2
        obtain ⟨rfl, rfl⟩ := e2
        exact h3
    refine (l1Rise_some zs.length g 0 cap (zI zs) v w hl hc hg hcell).mono ?_
    rintro e w' (⟨rfl, rfl, he⟩ | ⟨u, rfl, hb2, ho2⟩)
    · rw [zLn_zI] at he ⊢
      exact ⟨_, rfl, Below.refl _ _, by rw [he]; exact hx⟩
    · rw [zLn_zI] at ho2
      exact ⟨_, rfl, hb2, own_downI ho2 hb⟩
/-- A row that grows, over a box, and fresh rows of bytes that wait to be appended. -/
structure L3 (w wB W : World) (v : Value) (xs : List Int) (n : Nat) (P : List (Nat × List Int)) : Prop where
  below : Below (w.heap.size + 1) wB W
  hsz : w.heap.size + 1 ≤ W.heap.size
  own : W.ownsRow (w.heap.size + 1) 5 1 v n (bl xs)
  pend : ∀ p ∈ P, p.1 < W.heap.size ∧ v.ownBlock ≠ some p.1 ∧ ∀ j u, (bl p.2)[j]? = some u → W.cell? ((⟨p.1, 0, none⟩ : Addr).add j) = some u
theorem L3.drew {w wB W : World} {v : Value} {xs : List Int} {n : Nat} {P : List (Nat × List Int)} (h : L3 w wB W v xs n P) : L3 w wB W.drew v xs n P := ⟨h.below.drew, h.hsz, h.own, h.pend⟩
theorem L3.call {w wB W W' : World} {v : Value} {xs ys : List Int} {n g cq : Nat} {P : List (Nat × List Int)} (h : L3 w wB W v xs n P) (hb : Below W.heap.size W W') (hq : W'.ownsRow W.heap.size 5 1 (.slice (some ⟨g, 0, none⟩) ys.length cq) ys.length (bl ys)) (hg : W.heap.size ≤ g ∧ g < W'.heap.size) : L3 w wB W' v xs n ((g, ys) :: P) := by
  refine ⟨h.below.trans (hb.mono h.hsz), Nat.le_trans h.hsz hb.size, rowB_below h.own hb, fun p hp => ?_⟩
  rcases List.mem_cons.1 hp with rfl | hp
  · exact ⟨hg.2, fun e => by have := (h.own.lt _ e).2; omega, newsB hq⟩
  · obtain ⟨h1, h2, h3⟩ := h.pend p hp
    refine ⟨Nat.lt_of_lt_of_le h1 hb.size, h2, fun j u hj => ?_⟩
    have h4 := h3 j u hj
    rw [WideShapes.add_plain] at h4 ⊢
    exact cell_below h4 hb
theorem L3.app {w wB W W' : World} {v : Value} {xs ys : List Int} {n g' cap' m : Nat} {P : List (Nat × List Int)} (h : L3 w wB W v xs n P) (ho : W'.ownsRow (w.heap.size + 1) 5 1 (.slice (some ⟨g', 0, none⟩) (n + m) cap') (n + m) (bl xs ++ bl ys)) (hg : W.grownBy W' v.ownBlock) (hat : v.ownBlock = some g' ∨ g' = W.heap.size) :
    L3 w wB W' (.slice (some ⟨g', 0, none⟩) (n + m) cap') (xs ++ ys) (n + m) P := by
  refine ⟨h.below.grown hg h.hsz fun q hq => (h.own.lt q hq).1, Nat.le_trans h.hsz hg.size, by rw [bl_app]; exact ho, fun p hp => ?_⟩
  obtain ⟨h1, h2, h3⟩ := h.pend p hp
  have hblk := hg.block p.1 h1 (fun e => h2 e.symm)
  refine ⟨Nat.lt_of_lt_of_le h1 hg.size, ?_, fun j u hj => ?_⟩
  · rcases hat with e | e
    · intro e2
      exact h2 (e.trans e2)
    · intro e2
      simp only [Value.ownBlock, Option.some.injEq] at e2
      omega
  · have h4 := h3 j u hj
    rw [WideShapes.add_plain] at h4 ⊢
    exact (World.cell?_of_block (w := W) (a := ⟨p.1, _, none⟩) hblk).trans h4
theorem L3.stepApp {ops : Array Oper} {o : Oper} {a : Act} {K : Act → World → Prop} {Q : Exit → Act → World → Prop} {E : Prop} {w wB W : World} {v : Value} {xs : List Int} {n : Nat} {P : List (Nat × List Int)} (h : L3 w wB W v xs n P) (hgd : o.guard = none) (s x : Operand)
    (ho : o.op = .call { callee := .builtin .append, args := #[s, x], argTypes := #[27, 27] }) (hs : a.eval s = v) (g c : Nat) (ys : List Int) (hx : a.eval x = .slice (some ⟨g, 0, none⟩) 2 c) (hl : ys.length = 2) (hp : (g, ys) ∈ P) (hn : n ≤ 20)
    (hk : ∀ g' cap' W', L3 w wB W' (.slice (some ⟨g', 0, none⟩) (n + 2) cap') (xs ++ ys) (n + 2) P → K (a.put o.dst (.slice (some ⟨g', 0, none⟩) (n + 2) cap')) W') :
    if Region.wanted o (yielded ops a.tmps) = true then Oper.wp Tryz.prog o a W K Q else E := by
  obtain ⟨i0, hi, hz0, hz1, hz2⟩ := info_parts info5
  refine step_append_lies (P := Tryz.prog) W hgd s x 27 ho (w.heap.size + 1) 5 i0 (.int .u8 0) 1 1 Tryz.underlying27 hi hz0 hz1 hz2 rfl (by decide) v n (bl xs) hs h.own ⟨g, 0, none⟩ 2 c (bl ys) hx (by rw [bl_len, hl]) (h.pend _ hp).2.2 (bl_one _) (by decide) (by unfold maxLen; omega) (by omega) h.hsz _ rfl ?_
  intro g' cap' W' h1 h2 h3 h4
  exact hk g' cap' W' (h.app h1 h2 h3)
theorem L3.cell {w wB W : World} {v x : Value} {xs : List Int} {n i : Nat} {P : List (Nat × List Int)} (h : L3 w wB W v xs n P) (hx : wB.cell? ⟨w.heap.size, i, none⟩ = some x) : W.cell? ⟨w.heap.size, i, none⟩ = some x :=
  (h.below.cell (p := ⟨w.heap.size, i, none⟩) (by show w.heap.size < w.heap.size + 1; omega)).trans hx
theorem two_u8 (x y : Int) : ∀ u ∈ [Value.int .u8 x, Value.int .u8 y], u.oneCell' = true := by intro u hu; simp at hu; rcases hu with rfl | rfl <;> rfl
theorem cell_two_newB (w : World) (a b : Value) (t : TypeId) : ∀ j u, [a, b][j]? = some u → (w.alloc (.cells #[a, b] t)).cell? ((⟨w.heap.size, 0, none⟩ : Addr).add j) = some u := by
  intro j u hj
  rw [WideShapes.add_plain]
  rcases j with _ | _ | j
  · simp at hj; subst hj; simp
  · simp at hj; subst hj; simp
  · simp at hj
set_option maxHeartbeats 8000000 in
theorem specL3_0 (k t key old nw bk : Int) (w : World) (g : GoodR k t key false old false nw bk) :
    Calls Tryz.prog 52 #[.agg #[.int .i64 k, .int .i64 t, .int .i64 key, .bool false, .int .i64 old, .bool false, .int .i64 nw, .int .i64 bk]] w fun e w' => ∃ v, e = .returned v ∧ Below w.heap.size w w' ∧ w'.ownsRow w.heap.size 5 1 v (rb k t key false old false nw bk).length (bl (rb k t key false old false nw bk)) ∧ v ≠ .slice none 0 0 := by
  have HG : Hid (GoodR k t key false old false nw bk) := g
  obtain ⟨hk1, hk2⟩ := g.k
  obtain ⟨ht1, ht2⟩ := g.t
  have ht2 : t ≤ 1000000 := by omega
  obtain ⟨hy1, hy2⟩ := g.key
  have Hold : Hid (0 ≤ old ∧ old ≤ 1000000) := ⟨g.old.1, by have := g.old; omega⟩
  have Hnw : Hid (0 ≤ nw ∧ nw ≤ 1000000) := ⟨g.nw.1, by have := g.nw; omega⟩
  have Hbk : Hid (0 ≤ bk ∧ bk ≤ 1000000) := ⟨g.bk.1, by have := g.bk; omega⟩
  have hw8 : IntKind.u8.wrap k = k := by rw [IntKind.wrap_u8]; omega
  have hw9 : IntKind.u8.wrap key = key := by rw [IntKind.wrap_u8]; omega
  obtain ⟨i0, hi, hz0, hz1, hz2⟩ := info_parts info5
  have HI : Hid (Tryz.prog.info? 5 = some i0 ∧ i0.zero = some (.int .u8 0) ∧ i0.size = 1 ∧ i0.bytes = 1) := ⟨hi, hz0, hz1, hz2⟩
  have hb0 : Below (w.heap.size + 1) (w.alloc (.cells #[.int .i64 k, .int .i64 t, .int .i64 key, .bool false, .int .i64 old, .bool false, .int .i64 nw, .int .i64 bk] 71)) (w.alloc (.cells #[.int .i64 k, .int .i64 t, .int .i64 key, .bool false, .int .i64 old, .bool false, .int .i64 nw, .int .i64 bk] 71)).drew := (Below.refl _ _).drew
  clear hi hz0 hz1 hz2 g
  go_enter Tryz.func52, Tryz.ntmps52
  go_wp2
  have hold0 : Below (w.heap.size + 1) (w.alloc (.cells #[.int .i64 k, .int .i64 t, .int .i64 key, .bool false, .int .i64 old, .bool false, .int .i64 nw, .int .i64 bk] 71)) (w.alloc (.cells #[.int .i64 k, .int .i64 t, .int .i64 key, .bool false, .int .i64 old, .bool false, .int .i64 nw, .int .i64 bk] 71)).drew ∧ (w.alloc (.cells #[.int .i64 k, .int .i64 t, .int .i64 key, .bool false, .int .i64 old, .bool false, .int .i64 nw, .int .i64 bk] 71)).drew.cell? ⟨w.heap.size, 0, none⟩ = some (.int .i64 k) ∧ (w.alloc (.cells #[.int .i64 k, .int .i64 t, .int .i64 key, .bool false, .int .i64 old, .bool false, .int .i64 nw, .int .i64 bk] 71)).drew.cell? ⟨w.heap.size, 1, none⟩ = some (.int .i64 t) := ⟨hb0, by simp, by simp⟩
  go_region_held3 (fun w' => Below (w.heap.size + 1) (w.alloc (.cells #[.int .i64 k, .int .i64 t, .int .i64 key, .bool false, .int .i64 old, .bool false, .int .i64 nw, .int .i64 bk] 71)) w' ∧ w'.cell? ⟨w.heap.size, 0, none⟩ = some (.int .i64 k) ∧ w'.cell? ⟨w.heap.size, 1, none⟩ = some (.int .i64 t)) (first | assumption | (obtain ⟨hKa, hKb, hKc⟩ := ‹Below (w.heap.size + 1) _ _ ∧ _ ∧ _›; exact ⟨by first | exact keepB hKa | exact keepB' hKa, by go_keep, by go_keep⟩))
    (first | (go_at_call 85; refine (l1Bytes_any t 2 _ (by decide) ht1 ht2).mono ?_; rintro e wq ⟨vq, rfl, hbq, hoq, hneq⟩; obtain ⟨gq, cq, rfl, hgq⟩ := formB hoq hneq; have HX := (‹Below (w.heap.size + 1) _ _ ∧ _ ∧ _›); have hC := cellsq2 HX hbq; clear HX) | (have HX := (‹Below (w.heap.size + 1) _ _ ∧ _ ∧ _›); refine step_appB _ rfl (.tmp 14) (.tmp 17) rfl (w.heap.size + 1) _ 1 [(.int .u8 k)] rfl (rowB_below (own8a w _ _) hbq) ⟨gq, 0, none⟩ 2 cq (bl (nb t 2)) rfl (nb_bl2 _) (newsB hoq) (bl_one _) (by decide) (hszB HX.1) ?_; intro v18 w18 ho18 hg18; have hD18 := cellsg HX (rowB_below (own8a w _ _) hbq) hg18) | (have HX := (‹Below (w.heap.size + 1) _ _ ∧ _ ∧ _›); refine step_appB _ rfl (.tmp 14) (.tmp 17) rfl (w.heap.size + 1) _ 1 [(.int .u8 k)] rfl (own8b (hszB hC.1)) ⟨gq, 0, none⟩ 2 cq (bl (nb t 2)) rfl (nb_bl2 _) (newsB_alloc hoq) (bl_one _) (by decide) (hszB HX.1) ?_; intro v18 w18 ho18 hg18; have hD18 := cellsg HX (own8b (hszB hC.1)) hg18))
  all_goals
    have PS : Hid (Below (w.heap.size + 1) (w.alloc (.cells #[.int .i64 k, .int .i64 t, .int .i64 key, .bool false, .int .i64 old, .bool false, .int .i64 nw, .int .i64 bk] 71)) w18 ∧ w18.ownsRow (w.heap.size + 1) 5 1 v18 3 (bl (nb k 1 ++ nb t 2))) := by
      refine ⟨hD18.1, ?_⟩
      rw [byt_small hk1 (by omega), bl_app]
      exact ho18
    have k2 : w18.cell? ⟨w.heap.size, 2, none⟩ = some (.int .i64 key) := by rw [PS.out.1.cell (p := ⟨w.heap.size, 2, none⟩) (by simp)]; simp
    have m2 := fun o : Obj => cell_alloc k2 o
    have HSZ : Hid (w.heap.size + 1 ≤ w18.heap.size) := hszB PS.out.1
    clear ho18 hg18 hD18
    go_wp2_with (at_builtin; refine wpList_append_own _ rfl (.tmp 19) (.tmp 24) 27 rfl (w.heap.size + 1) 5 i0 (.int .u8 0) 1 1 Tryz.underlying27 HI.out.1 HI.out.2.1 HI.out.2.2.1 HI.out.2.2.2 rfl (by decide) _ 3 _ rfl (PS.out.2.alloc _) ⟨w18.heap.size, 0, none⟩ 2 2 [.int .u8 key, .int .u8 0] rfl rfl (cell_two_newB _ _ _ _) (two_u8 _ _) ?c3 ?c4 ?c5 ?_)
    case c3 => unfold maxLen; omega
    case c4 => omega
    case c5 => have := HSZ.out; simp; omega
    intro v25 w25 ho25 hg25 _
    have HL0 : Hid (L3 w (w.alloc (.cells #[.int .i64 k, .int .i64 t, .int .i64 key, .bool false, .int .i64 old, .bool false, .int .i64 nw, .int .i64 bk] 71)) w25 v25 (nb k 1 ++ nb t 2 ++ (nb key 1 ++ nb (fl false false) 1)) 5 []) := by
      have hb := keepB' (o2 := .cells #[.int .u8 key, .int .u8 0] 5) PS.out.1
      have ho := PS.out.2.alloc (.cells #[.int .u8 key, .int .u8 0] 5)
      refine ⟨grB hb ho hg25, Nat.le_trans (hszB hb) hg25.size, ?_, fun p hp => by cases hp⟩
      rw [bl_app, byt_small hy1 (by omega), show nb (fl false false) 1 = [0] by rw [byt_small (by decide) (by decide)]; rfl]
      exact ho25
    clear ho25 hg25 PS k2 m2 HSZ
    have HL := HL0.out.drew
    have d4 := HL.cell (i := 4) (x := .int .i64 old) (by simp)
    have d6 := HL.cell (i := 6) (x := .int .i64 nw) (by simp)
    have d7 := HL.cell (i := 7) (x := .int .i64 bk) (by simp)
    go_wp2
    go_region_held3 (fun w' => w'.cell? ⟨w.heap.size, 4, none⟩ = some (.int .i64 old) ∧ w'.cell? ⟨w.heap.size, 6, none⟩ = some (.int .i64 nw) ∧ w'.cell? ⟨w.heap.size, 7, none⟩ = some (.int .i64 bk)) (go_keep)
      (first | (go_at_call 85; refine (l1Bytes_any _ 2 _ (by decide) ?ha ?hb).mono ?_; (case ha => first | exact Hold.out.1 | exact Hnw.out.1 | exact Hbk.out.1); (case hb => first | exact Hold.out.2 | exact Hnw.out.2 | exact Hbk.out.2); rintro e wq ⟨vq, rfl, hbq, hoq, hneq⟩; obtain ⟨gq, cq, rfl, hgq⟩ := formB hoq hneq; have HL := L3.call HL hbq hoq hgq; have d4 := HL.cell (i := 4) (x := .int .i64 old) (by simp); have d6 := HL.cell (i := 6) (x := .int .i64 nw) (by simp); have d7 := HL.cell (i := 7) (x := .int .i64 bk) (by simp); clear hoq hbq hneq hgq) | (refine HL.stepApp rfl (.tmp 26) (.tmp 29) rfl rfl _ _ (nb old 2) rfl (nb_len _ _) (by simp) (by decide) ?_; intro gx capx wx HL; have d4 := HL.cell (i := 4) (x := .int .i64 old) (by simp); have d6 := HL.cell (i := 6) (x := .int .i64 nw) (by simp); have d7 := HL.cell (i := 7) (x := .int .i64 bk) (by simp)) | (refine HL.stepApp rfl (.tmp 30) (.tmp 33) rfl rfl _ _ (nb nw 2) rfl (nb_len _ _) (by simp) (by decide) ?_; intro gx capx wx HL; have d4 := HL.cell (i := 4) (x := .int .i64 old) (by simp); have d6 := HL.cell (i := 6) (x := .int .i64 nw) (by simp); have d7 := HL.cell (i := 7) (x := .int .i64 bk) (by simp)) | (refine HL.stepApp rfl (.tmp 34) (.tmp 37) rfl rfl _ _ (nb bk 2) rfl (nb_len _ _) (by simp) (by decide) ?_; intro gx capx wx HL; have d4 := HL.cell (i := 4) (x := .int .i64 old) (by simp); have d6 := HL.cell (i := 6) (x := .int .i64 nw) (by simp); have d7 := HL.cell (i := 7) (x := .int .i64 bk) (by simp)))
    all_goals
      have HB : Hid (Below (w.heap.size + 1) (w.alloc (.cells #[.int .i64 k, .int .i64 t, .int .i64 key, .bool false, .int .i64 old, .bool false, .int .i64 nw, .int .i64 bk] 71)) wx) := HL.below
      have HO : Hid (wx.ownsRow (w.heap.size + 1) 5 1 (.slice (some ⟨gx, 0, none⟩) 11 capx) 11 (bl (rbb k t key false old false nw bk))) := by
        have h := HL.own
        simp only [List.append_assoc] at h
        show World.ownsRow _ _ _ _ _ _ (bl (rbb k t key false old false nw bk))
        rw [rbb]
        simp only [List.append_assoc]
        exact h
      clear HL d4 d6 d7
      have HSM : Hid (0 ≤ sm (rbb k t key false old false nw bk) ∧ sm (rbb k t key false old false nw bk) ≤ 65520) := sumB_bd _ _
      have HSE : Hid (sumB (fun i => (rbb k t key false old false nw bk).getD i 0) 11 = sm (rbb k t key false old false nw bk)) := by show _ = sm (rbb k t key false old false nw bk); rw [sm, rbb_len]
      go_wp2_with fail
      have HH := specSum_any (rbb k t key false old false nw bk).length (fun i => (rbb k t key false old false nw bk).getD i 0) (some ⟨gx, 0, none⟩) capx wx (by rw [rbb_len]; omega) (byt_of (rbb_byt k t key false old false nw bk)) (bytes_of_own (by rw [rbb_len]; exact HO.out))
      rw [rbb_len, HSE.out] at HH
      refine HH.mono ?_
      clear HH
      rintro e wz ⟨rfl, rfl⟩
      go_wp2_with fail
      refine (l1Bytes_any (sm (rbb k t key false old false nw bk)) 2 _ (by omega) HSM.out.1 (by have := HSM.out.2; omega)).mono ?_
      rintro e wq ⟨vq, rfl, hbq, hoq, hneq⟩
      obtain ⟨gq, cq, rfl, hgq⟩ := formB hoq hneq
      have HOA : Hid (wq.ownsRow (w.heap.size + 1) 5 1 (.slice (some ⟨gx, 0, none⟩) 11 capx) 11 (bl (rbb k t key false old false nw bk))) := rowB_below HO.out hbq
      have HOQ : Hid (∀ j u, (bl (nb (sm (rbb k t key false old false nw bk)) 2))[j]? = some u → wq.cell? ((⟨gq, 0, none⟩ : Addr).add j) = some u) := newsB hoq
      have HBQ : Hid (Below (w.heap.size + 1) (w.alloc (.cells #[.int .i64 k, .int .i64 t, .int .i64 key, .bool false, .int .i64 old, .bool false, .int .i64 nw, .int .i64 bk] 71)) wq) := belB HB.out hbq
      have HLQ : Hid ((nb (sm (rbb k t key false old false nw bk)) 2).length = 2) := nb_len _ _
      rw [HLQ.out]
      clear hoq hneq hgq hbq
      go_wp2_with (at_builtin; refine wpList_append_own _ rfl (.tmp 39) (.tmp 42) 27 rfl (w.heap.size + 1) 5 i0 (.int .u8 0) 1 1 Tryz.underlying27 HI.out.1 HI.out.2.1 HI.out.2.2.1 HI.out.2.2.2 rfl (by decide) _ 11 _ rfl HOA.out ⟨gq, 0, none⟩ 2 cq (bl (nb (sm (rbb k t key false old false nw bk)) 2)) rfl ?c1 ?c2 (bl_one _) ?c3 ?c4 ?c5 ?_)
      case c1 => rw [bl_len, HLQ.out]
      case c2 => exact HOQ.out
      case c3 => unfold maxLen; omega
      case c4 => omega
      case c5 => exact hszB HBQ.out
      intro v43 w43 ho43 hg43 hne43
      have HF : Hid (w43.ownsRow w.heap.size 5 1 v43 (rb k t key false old false nw bk).length (bl (rb k t key false old false nw bk))) := by
        show World.ownsRow _ _ _ _ _ _ (bl (rb k t key false old false nw bk))
        rw [rb_len, rb, bl_app]
        exact rowB_down ho43 (by omega)
      have HBF : Hid (Below w.heap.size w w43) := (below_new _ _).trans ((grB HBQ.out HOA.out hg43).mono (by omega))
      have HNE : Hid (v43 ≠ .slice none 0 0) := hne43
      clear ho43 hg43 hne43
      go_wp2
      go_ret
      exact ⟨v43, rfl, HBF.out, HF.out, HNE.out⟩
end Go.Proofs.YtnplheilojhpmaaGreat
