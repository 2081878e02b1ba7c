/- The program's ReplyText. -/
import Derived.Test.YtfipdkhbehfohaaDoorYwa
namespace Go.Proofs.YtfipdkhbehfohaaDoor
open Go.RowKit Go.Deep
set_option linter.unusedVariables false
set_option maxRecDepth 20000

/-- What is kept: the answer's box. -/
def KY (w u : World) (M : Nat) : Prop := Below w.heap.size w u ∧ M ≤ u.heap.size ∧ w.heap.size + 2 ≤ M ∧ Box2 u (w.heap.size + 1) (.int .i64 0) (.string ⟨#[]⟩) ∧ ∀ i, u.frozen? ⟨w.heap.size + 1, i, none⟩ = false
theorem KY.below {w u u1 : World} {M : Nat} (h : KY w u M) (hb : Below u.heap.size u u1) : KY w u1 M :=
  ⟨h.1.trans (hb.mono h.1.size), Nat.le_trans h.2.1 hb.size, h.2.2.1, h.2.2.2.1.below hb, fun i => ((bcell hb).2 _ _ h.2.2.2.1.lt).trans (h.2.2.2.2 i)⟩
theorem KY.grow {w u u1 : World} {M : Nat} {b : Option Nat} (h : KY w u M) (hg : u.grownBy u1 b) (hb : ∀ q, b = some q → M ≤ q) : KY w u1 M := by
  obtain ⟨h1, h2, h3, h4, h5⟩ := h
  have e : u1.heap[w.heap.size + 1]? = u.heap[w.heap.size + 1]? := hg.block _ (by omega) fun e => by have := hb _ e.symm; omega
  refine ⟨h1.grown hg h1.size (fun q hq => by have := hb q hq; omega), Nat.le_trans h2 hg.size, h3, ⟨?_, ?_⟩, fun i => ?_⟩
  · exact (World.cell?_of_block (w := u) (a := ⟨w.heap.size + 1, 0, none⟩) e).trans h4.1
  · exact (World.cell?_of_block (w := u) (a := ⟨w.heap.size + 1, 1, none⟩) e).trans h4.2
  · exact (World.frozen?_of_block (w := u) (a := ⟨w.heap.size + 1, i, none⟩) e).trans (h5 i)
theorem KY.up {w u : World} {M M' : Nat} (h : KY w u M) (h1 : M ≤ M') (h2 : M' ≤ u.heap.size) : KY w u M' := ⟨h.1, h2, by have := h.2.2.1; omega, h.2.2.2⟩
theorem Box2.grow {u u1 : World} {B : Nat} {c0 c1 : Value} {b : Option Nat} (h : Box2 u B c0 c1) (hg : u.grownBy u1 b) (hb : ∀ q, b = some q → q ≠ B) : Box2 u1 B c0 c1 := by
  have e : u1.heap[B]? = u.heap[B]? := hg.block _ h.lt fun e => hb _ e.symm rfl
  exact ⟨(World.cell?_of_block (w := u) (a := ⟨B, 0, none⟩) e).trans h.1, (World.cell?_of_block (w := u) (a := ⟨B, 1, none⟩) e).trans h.2⟩
theorem step_appS {ops : Array Oper} {o : Oper} {a : Act} {Kc : Act → World → Prop} {Q : Exit → Act → World → Prop} {Ee : Prop} (w : World) (d : Option Tmp) (hd : o.dst = d) (hgd : o.guard = none) (s x : Operand)
    (ho : o.op = .call { callee := .builtin .append, args := #[s, x], argTypes := #[42, 42] })
    (base : Nat) (v : Value) (L : List ByteArray) (hs : a.eval s = v) (hown : w.ownsRow base 9 1 v L.length (svl L)) (b : Nat) (y : ByteArray) (hx : a.eval x = .slice (some ⟨b, 0, none⟩) 1 1)
    (hc : w.cell? ⟨b, 0, none⟩ = some (.string y)) (hl : L.length ≤ 2000000) (hbase : base ≤ w.heap.size)
    (h : ∀ v' w', w'.ownsRow base 9 1 v' (L ++ [y]).length (svl (L ++ [y])) → w.grownBy w' v.ownBlock → (∀ q, v'.ownBlock = some q → v.ownBlock = some q ∨ q = w.heap.size) → Kc (a.put d v') w') :
    if Region.wanted o (yielded ops a.tmps) = true then Oper.wp Tryd.prog o a w Kc Q else Ee := by
  have hw : Region.wanted o (yielded ops a.tmps) = true := by simp [Region.wanted, hgd]
  rw [if_pos hw]
  subst hd
  obtain ⟨i0, hi, hz0, hz1, hz2⟩ := info_partsY info9
  refine wp_append_lies w s x 42 ho base 9 i0 _ 1 16 Tryd.underlying42 hi hz0 hz1 hz2 rfl (by decide) v L.length (svl L) hs hown ⟨b, 0, none⟩ 1 1 [.string y] hx rfl ?_ (one_str _) (by omega) (by unfold maxLen; omega) (by omega) hbase _ rfl fun g cap w' h2 h3 h4 h5 => h _ w' ?_ h3 fun q hq => ?_
  · intro j u hj
    cases j with
    | zero => simp at hj; subst hj; rw [WideShapes.add_plain]; exact hc
    | succ j => simp at hj
  · rw [svl_app, List.length_append]
    exact h2
  · simp only [Value.ownBlock, Option.some.injEq] at hq
    subst hq
    exact h4
theorem min3 (L x y : Int) (u : World) : (Builtin.min_ #[2, 2, 2] 2 #[.int .i64 L, .int .i64 x, .int .i64 y]).run Tryd.prog u = .ok (.int .i64 (if y < if x < L then x else L then y else if x < L then x else L)) u := by rfl
set_option maxHeartbeats 1000000 in
theorem anyBelow_any (t : Rp) (a0 : Option Addr) (c0 : Nat) (w : World) (hn : t.cn ≤ 1048576) (h : InRp w a0 t) :
    Calls Tryd.prog 13 #[.agg #[.int .i64 t.cd, .int .i64 t.vl, .slice a0 t.cn c0]] w fun e w' => e = .returned (.bool (bdF t t.cn)) ∧ Below w.heap.size w w' := by
  have HA : Hid (CellsAt w a0 t.cn t.cK t.cV) := h.1
  clear h
  have H00 : Hid (∀ L : Int, (L < 0 ↔ (t.cd < 0 ∨ t.vl < 0)) → (L < 0 ↔ bdF t 0 = true)) := fun L h => by rw [h]; simp [bdF]
  go_enter Tryd.func13, Tryd.ntmps13
  go_upto_region 2 with fail
  have HB0 : Hid (Below w.heap.size w (w.alloc (.cells #[.int .i64 t.cd, .int .i64 t.vl, .slice a0 t.cn c0] 31))) := below_new _ _
  go_wp2_with fail
  go_loopw [3, 5, 14] (fun l _ i wr => ∃ (k : Nat) (L : Int), k ≤ t.cn ∧ i = .int .i64 k ∧ l = .int .i64 L ∧ Hid (Below w.heap.size w wr) ∧ Hid (L < 0 ↔ bdF t k = true)) (fun _ _ i _ => t.cn - (intOf i).toNat)
  case atStart => exact ⟨0, _, Nat.zero_le _, rfl, rfl, HB0, H00.out _ (by (repeat' split) <;> omega)⟩
  case round =>
    clear HB0 H00
    obtain ⟨k, L, hk, rfl, rfl, HB, HL⟩ := hrel
    by_cases hlt : k < t.cn
    · have hlt' : (k : Int) < (t.cn : Int) := by omega
      have hk0 : (0 : Int) ≤ (k : Int) := by omega
      rcases HA.out.below HB.out with h | ⟨b, off, rfl, hl, hc, hv⟩
      · omega
      have q0 := hc k hlt
      have q1 := hv k hlt
      have HN : Hid (∀ L' : Int, (L' < 0 ↔ (L < 0 ∨ t.cK k < 0 ∨ t.cV k < 0)) → (L' < 0 ↔ bdF t (k + 1) = true)) := fun L' h => by
        have e := HL.out
        rw [h, e]
        simp [bdF, or_assoc]
      clear hc hv HL
      generalize t.cK k = x at *
      generalize t.cV k = y at *
      obtain ⟨L2, HM, HL2⟩ : ∃ L2 : Int, (∀ u : World, (Builtin.min_ #[2, 2, 2] 2 #[.int .i64 L, .int .i64 x, .int .i64 y]).run Tryd.prog u = .ok (.int .i64 L2) u) ∧ Hid (L2 < 0 ↔ bdF t (k + 1) = true) := ⟨_, min3 L x y, HN.out _ (by (repeat' split) <;> omega)⟩
      clear HN
      go_wp2_with fail
      go_roundw
      case rel => exact ⟨k + 1, L2, hlt, by go_num, rfl, HB.out.alloc HB.out.size _, HL2⟩
      case measure => simp [intOf]; omega
    · have hkn : k = t.cn := by omega
      have hnl : ¬ ((k : Int) < (t.cn : Int)) := by omega
      rw [hkn] at HL
      clear hkn
      cases hb : bdF t t.cn with
      | true =>
        have hL : L < 0 := HL.out.2 hb
        go_wp2_with fail
        go_ret
        exact ⟨rfl, HB.out⟩
      | false =>
        have hL : ¬ L < 0 := fun h => by rw [HL.out.1 h] at hb; cases hb
        go_wp2_with fail
        go_ret
        exact ⟨rfl, HB.out⟩
set_option maxHeartbeats 8000000 in
theorem implReply_any (t : Rp) (a0 : Option Addr) (c0 : Nat) (w : World) (hn : t.cn ≤ 1048576) (hw : RpW t) (h : InRp w a0 t) (hP : PowAt w) :
    Calls Tryd.prog 7 #[.agg #[.int .i64 t.cd, .int .i64 t.vl, .slice a0 t.cn c0]] w (RyR w t) := by
  have HP : Hid (PowAt w) := hP
  have HA : Hid (InRp w a0 t) := h
  have HW : Hid (RpW t) := hw
  have hmo : Tryd.prog.follows .mixedOrders = true := by kernel_rfl
  clear hP h hw
  go_enter Tryd.func7, Tryd.ntmps7
  go_upto_region 1 with fail
  have X0 : Box3 ((w.alloc (.cells #[.int .i64 t.cd, .int .i64 t.vl, .slice a0 t.cn c0] 31)).alloc (.cells #[.int .i64 0, .string ⟨#[]⟩] 27)) w.heap.size (.int .i64 t.cd) (.int .i64 t.vl) (.slice a0 t.cn c0) := (Box3.new w _ _ _ _).alloc _
  have K0 : Hid (KY w ((w.alloc (.cells #[.int .i64 t.cd, .int .i64 t.vl, .slice a0 t.cn c0] 31)).alloc (.cells #[.int .i64 0, .string ⟨#[]⟩] 27)) (w.heap.size + 2)) := by
    refine ⟨(below_new _ _).alloc (by simp) _, by simp, Nat.le_refl _, ?_, fun i => by simp [go_sem]⟩
    have h := Box2.new (w.alloc (.cells #[.int .i64 t.cd, .int .i64 t.vl, .slice a0 t.cn c0] 31)) (.int .i64 0) (.string ⟨#[]⟩) 27
    simp only [World.size_alloc] at h
    exact h
  generalize ((w.alloc (.cells #[.int .i64 t.cd, .int .i64 t.vl, .slice a0 t.cn c0] 31)).alloc (.cells #[.int .i64 0, .string ⟨#[]⟩] 27)) = w0 at *
  obtain ⟨x0, x1, x2⟩ := X0
  go_wp2_with fail
  refine (anyBelow_any t a0 c0 w0 hn (HA.out.below K0.out.1)).mono ?_
  rintro e w1 ⟨rfl, hb1⟩
  have K1 : Hid (KY w w1 (w.heap.size + 2)) := K0.out.below hb1
  replace x0 := cell_below x0 hb1
  replace x1 := cell_below x1 hb1
  replace x2 := cell_below x2 hb1
  clear hb1 K0
  cases hbd : bdF t t.cn with
  | true =>
    have HE : Hid (ryC t = 3 ∧ ryT t = ⟨#[]⟩) := ry_bad hbd
    clear hbd
    obtain ⟨-, -, -, ⟨z0, z1⟩, f0⟩ := K1.out
    have HX9 : Hid (Below w.heap.size w w1) := K1.out.1
    go_wp2_with fail
    refine bodyPost_ret (v := .agg #[.int .i64 3, .string ⟨#[]⟩]) (by simp [results, Tryd.results7, go_sem, z0, z1]) rfl ?_
    refine ⟨by rw [HE.out.1, HE.out.2], ?_⟩
    repeat (first | with_reducible exact HX9.out | with_reducible refine Below.setCell ?_ (by first | omega | (simp <;> omega)) _)
  | false =>
    have HG : Hid (0 ≤ t.cd ∧ 0 ≤ t.vl ∧ ∀ i, i < t.cn → 0 ≤ t.cK i ∧ 0 ≤ t.cV i) := bd_no _ hbd
    obtain ⟨hcd0, hvl0, -⟩ := HG.out
    obtain ⟨hcdW, hvlW, -⟩ := HW.out
    unfold NmW at hcdW hvlW
    by_cases hz : t.cd = 0
    · have HE : Hid (ryC t = 0 ∧ ryT t = rtx t.vl t.cK t.cV t.cn) := ry_ok hbd hz
      have hne : (t.cd != 0) = false := by simp [hz]
      clear hbd hz
      go_wp2_with fail
      refine (decW_any t.vl hvl0 hvlW _ (HP.out.below K1.out.1)).mono ?_
      rintro e w2 ⟨rfl, hb2⟩
      have K2 : Hid (KY w w2 w2.heap.size) := (K1.out.below hb2).up (by have := K1.out.2.1; have := hb2.size; omega) (Nat.le_refl _)
      replace x2 := cell_below x2 hb2
      clear hb2 x0 x1 K1 hne
      have x3 : (w2.alloc (.cells #[.string ⟨#[111, 107]⟩, .string (dg t.vl.toNat)] 9)).cell? ⟨w.heap.size, 2, none⟩ = some (.slice a0 t.cn c0) := cell_alloc x2 _
      have K3 : Hid (KY w (w2.alloc (.cells #[.string ⟨#[111, 107]⟩, .string (dg t.vl.toNat)] 9)) w2.heap.size) := K2.out.below (below_new _ _)
      have HO0 : Hid ((w2.alloc (.cells #[.string ⟨#[111, 107]⟩, .string (dg t.vl.toNat)] 9)).ownsRow w2.heap.size 9 1 (.slice (some ⟨w2.heap.size, 0, none⟩) 2 2) (rwl t.vl t.cK t.cV 0).length (svl (rwl t.vl t.cK t.cV 0))) := by
        have h := World.ownsRow_lit w2 #[.string ⟨#[111, 107]⟩, .string (dg t.vl.toNat)] (e := 9) (size := 1) (base := w2.heap.size) 2 (Nat.le_refl _) (by unfold maxLen; omega) rfl
        exact h
      clear x2
      go_wp2_with fail
      clear x3
      go_loopw [3, 5, 24] (fun v _ i wr => ∃ q : Nat, q ≤ t.cn ∧ i = .int .i64 q ∧ Hid (KY w wr w2.heap.size) ∧ Hid (wr.ownsRow w2.heap.size 9 1 v (rwl t.vl t.cK t.cV q).length (svl (rwl t.vl t.cK t.cV q)))) (fun _ _ i _ => t.cn - (intOf i).toNat)
      case atStart => exact ⟨0, Nat.zero_le _, rfl, K3, HO0⟩
      case round =>
        clear HO0 K3 K2
        obtain ⟨q, hq, rfl, K3, HO⟩ := hrel
        obtain ⟨M, hM⟩ : ∃ M, M = w2.heap.size := ⟨_, rfl⟩
        rw [← hM] at K3 HO ⊢
        clear hM
        by_cases hlt : q < t.cn
        · have hlt' : (q : Int) < (t.cn : Int) := by omega
          have hq0 : (0 : Int) ≤ (q : Int) := by omega
          rcases (HA.out.below K3.out.1).1 with h | ⟨b, off, rfl, hl, hc, hv⟩
          · omega
          have c0 := hc q hlt
          have c1 := hv q hlt
          obtain ⟨k0, v0⟩ := HG.out.2.2 q hlt
          obtain ⟨kW, vW⟩ := HW.out.2.2 q hlt
          have HWS : Hid (rwl t.vl t.cK t.cV (q + 1) = rwl t.vl t.cK t.cV q ++ [dg (t.cK q).toNat ++ eqB ++ dg (t.cV q).toNat]) := rwl_succ _ _ _ _
          have hwl : (rwl t.vl t.cK t.cV q).length ≤ 2000000 := by rw [rwl_len]; omega
          have hks := dw_size _ kW
          have hvs := dw_size _ vW
          unfold NmW at kW vW
          clear hc hv
          generalize t.cK q = k at *
          generalize t.cV q = y at *
          have ha1 : ∀ u : World, (Op.stringOp .add (dg k.toNat) ⟨#[61]⟩).run Tryd.prog u = .ok (.string (dg k.toNat ++ eqB)) u := fun u => run_string_add_sum u _ eqB (by have : eqB.size = 1 := rfl; omega)
          have ha2 : ∀ u : World, (Op.stringOp .add (dg k.toNat ++ eqB) (dg y.toNat)).run Tryd.prog u = .ok (.string (dg k.toNat ++ eqB ++ dg y.toNat)) u := fun u => run_string_add_sum u _ _ (by have : eqB.size = 1 := rfl; rw [ByteArray.size_append]; omega)
          go_upto_region 9 with fail
          have hBx : ∀ q, u3.ownBlock = some q → q ≠ wr.heap.size := fun q hq => by have := (HO.out.lt q hq).2; omega
          have X5 := Box2.new wr (.int .i64 k) (.int .i64 y) 38
          have K5 : Hid (KY w (wr.alloc (.cells #[.int .i64 k, .int .i64 y] 38)) M) := K3.out.below (below_new _ _)
          have HO5 : Hid ((wr.alloc (.cells #[.int .i64 k, .int .i64 y] 38)).ownsRow M 9 1 u3 (rwl t.vl t.cK t.cV q).length (svl (rwl t.vl t.cK t.cV q))) := own_belowS HO.out (below_new _ _)
          obtain ⟨B, hB⟩ : ∃ B, B = wr.heap.size := ⟨_, rfl⟩
          rw [← hB] at X5 hBx ⊢
          generalize (wr.alloc (.cells #[.int .i64 k, .int .i64 y] 38)) = w5 at *
          clear hB HO K3 c0 c1
          refine wp_region_E 999 (S := fun u => KY w u M ∧ Box2 u B (.int .i64 k) (.int .i64 y)) hmo ⟨K5.out.below (Below.refl _ _).drew, X5.below (Below.refl _ _).drew⟩ (fun hS => ?_)
          refine wpAnyE_takeD (L := 999) (i := 0) (v := u3) (some 28) rfl rfl (by kernel_rfl) (by kernel_rfl) (by kernel_rfl) (by kernel_rfl) (fun _ _ _ h => h) (Or.inl ⟨by kernel_rfl, by intro u hSu; obtain ⟨-, p0, p1⟩ := hSu; go_simp⟩) hS ?_
          try simp only [Act.put, List.setIfInBounds_toArray, List.set_cons_zero, List.set_cons_succ]
          refine wpAnyE_takeD (L := 999) (i := 1) (v := .pointer (some ⟨B, 0, none⟩)) (some 29) rfl rfl (by kernel_rfl) (by kernel_rfl) (by kernel_rfl) (by kernel_rfl) (fun _ _ _ h => h) (Or.inl ⟨by kernel_rfl, by intro u hSu; obtain ⟨-, p0, p1⟩ := hSu; go_simp⟩) hS ?_
          try simp only [Act.put, List.setIfInBounds_toArray, List.set_cons_zero, List.set_cons_succ]
          refine wpAnyE_takeD (L := 999) (i := 2) (v := .int .i64 k) (some 30) rfl rfl (by kernel_rfl) (by kernel_rfl) (by kernel_rfl) (by kernel_rfl) (fun _ _ _ h => h) (Or.inl ⟨by kernel_rfl, by intro u hSu; obtain ⟨-, p0, p1⟩ := hSu; go_simp⟩) hS ?_
          try simp only [Act.put, List.setIfInBounds_toArray, List.set_cons_zero, List.set_cons_succ]
          refine wpAnyE_takeD (L := 999) (i := 5) (v := .pointer (some ⟨B, 1, none⟩)) (some 33) rfl rfl (by kernel_rfl) (by kernel_rfl) (by kernel_rfl) (by kernel_rfl) (fun _ _ _ h => h) (Or.inl ⟨by kernel_rfl, by intro u hSu; obtain ⟨-, p0, p1⟩ := hSu; go_simp⟩) hS ?_
          try simp only [Act.put, List.setIfInBounds_toArray, List.set_cons_zero, List.set_cons_succ]
          refine wpAnyE_takeD (L := 999) (i := 6) (v := .int .i64 y) (some 34) rfl rfl (by kernel_rfl) (by kernel_rfl) (by kernel_rfl) (by kernel_rfl) (fun _ _ _ h => h) (Or.inl ⟨by kernel_rfl, by intro u hSu; obtain ⟨-, p0, p1⟩ := hSu; go_simp⟩) hS ?_
          try simp only [Act.put, List.setIfInBounds_toArray, List.set_cons_zero, List.set_cons_succ]
          refine wpAnyE_ready (rs := [3]) (by kernel_rfl) (by simp) ?_
          refine AllReadyE.cons rfl (fun K9 hK => ?_) AllReadyE.nil
          go_simp
          refine (decW_any k k0 kW _ (HP.out.below hS.1.1)).mono ?_
          rintro e w6 ⟨rfl, hb6⟩
          have HO6 : Hid (w6.ownsRow M 9 1 u3 (rwl t.vl t.cK t.cV q).length (svl (rwl t.vl t.cK t.cV q))) := own_belowS (own_belowS HO5.out (Below.refl _ _).drew) hb6
          refine hK.out _ _ (⟨hS.1.below hb6, hS.2.below hb6⟩) (fun hS9 => ?_)
          try simp only [Act.put, List.setIfInBounds_toArray, List.set_cons_zero, List.set_cons_succ]
          clear hK K9 hS
          have hS := hS9
          clear hS9
          clear hb6 HO5
          refine wpAnyE_takeD (L := 999) (i := 4) (v := .string (dg k.toNat ++ eqB)) (some 32) rfl rfl (by kernel_rfl) (by kernel_rfl) (by kernel_rfl) (by kernel_rfl) (fun _ _ _ h => h) (Or.inl ⟨by kernel_rfl, by intro u hSu; go_simp⟩) hS ?_
          try simp only [Act.put, List.setIfInBounds_toArray, List.set_cons_zero, List.set_cons_succ]
          refine wpAnyE_ready (rs := [7]) (by kernel_rfl) (by simp) ?_
          refine AllReadyE.cons rfl (fun K9 hK => ?_) AllReadyE.nil
          go_simp
          refine (decW_any y v0 vW _ (HP.out.below hS.1.1)).mono ?_
          rintro e w7 ⟨rfl, hb7⟩
          have HO7 : Hid (w7.ownsRow M 9 1 u3 (rwl t.vl t.cK t.cV q).length (svl (rwl t.vl t.cK t.cV q))) := own_belowS HO6.out hb7
          refine hK.out _ _ (⟨hS.1.below hb7, hS.2.below hb7⟩) (fun hS9 => ?_)
          try simp only [Act.put, List.setIfInBounds_toArray, List.set_cons_zero, List.set_cons_succ]
          clear hK K9 hS
          have hS := hS9
          clear hS9
          clear hb7 HO6
          refine wpAnyE_takeD (L := 999) (i := 8) (v := .string (dg k.toNat ++ eqB ++ dg y.toNat)) (some 36) rfl rfl (by kernel_rfl) (by kernel_rfl) (by kernel_rfl) (by kernel_rfl) (fun _ _ _ h => h) (Or.inl ⟨by kernel_rfl, by intro u hSu; go_simp⟩) hS ?_
          try simp only [Act.put, List.setIfInBounds_toArray, List.set_cons_zero, List.set_cons_succ]
          generalize dg k.toNat ++ eqB ++ dg y.toNat = D at *
          refine wpAnyE_ready (rs := [9]) (by kernel_rfl) (by simp) ?_
          refine AllReadyE.cons rfl (fun K9 hK => ?_) AllReadyE.nil
          go_simp
          refine hK.out _ _ (⟨hS.1.below (below_new _ _), hS.2.below (below_new _ _)⟩) (fun hS9 => ?_)
          try simp only [Act.put, List.setIfInBounds_toArray, List.set_cons_zero, List.set_cons_succ]
          clear hK K9 hS
          have hS := hS9
          clear hS9
          refine wpAnyE_ready (rs := [10]) (by kernel_rfl) (by simp) ?_
          refine AllReadyE.cons rfl (fun K9 hK => ?_) AllReadyE.nil
          refine step_appS _ (some 38) rfl rfl (.tmp 28) (.tmp 37) rfl M _ (rwl t.vl t.cK t.cV q) rfl (own_belowS HO7.out (below_new _ _)) w7.heap.size D rfl (cell_lit _ _ _) hwl (by have := hS.1.2.1; omega) (fun v1 w8 ho8 hg8 hx8 => ?_)
          have HO8 : Hid (w8.ownsRow M 9 1 v1 (rwl t.vl t.cK t.cV (q + 1)).length (svl (rwl t.vl t.cK t.cV (q + 1)))) := by rw [HWS.out]; exact ho8
          refine hK.out _ _ (⟨hS.1.grow hg8 (fun q hq => (HO7.out.lt q hq).1), hS.2.grow hg8 hBx⟩) (fun hS9 => ?_)
          try simp only [Act.put, List.setIfInBounds_toArray, List.set_cons_zero, List.set_cons_succ]
          clear hK K9 hS
          have hS := hS9
          clear hS9
          refine wpAnyE_takeD (L := 999) (i := 11) (v := v1) (some 3) rfl rfl (by kernel_rfl) (by kernel_rfl) (by kernel_rfl) (by kernel_rfl) (fun _ _ _ h => h) (Or.inl ⟨by kernel_rfl, by intro u hSu; go_simp⟩) hS ?_
          try simp only [Act.put, List.setIfInBounds_toArray, List.set_cons_zero, List.set_cons_succ]
          have K8 : Hid (KY w w8 M) := hS.1
          refine wpAnyE_done (by kernel_rfl) ?_ _
          go_simp
          go_wp2_with fail
          go_roundw
          case rel => exact ⟨q + 1, hlt, by go_num, K8, HO8⟩
          case measure => simp [intOf]; omega
        · have hqm : q = t.cn := by omega
          have hge : ¬ (q : Int) < (t.cn : Int) := by omega
          subst hqm
          have hts := rtx_size (x := t.vl) (K := t.cK) (V := t.cV) HW.out.2.1 t.cn HW.out.2.2
          obtain ⟨va, vc, rfl, hvc, hat⟩ := strs_of_own HO.out
          rcases hat with h | ⟨pb, po, rfl, hpb, hcell⟩
          · rw [rwl_len] at h; omega
          have HJ : Hid (Calls Tryd.prog 15 #[.slice (some ⟨pb, po, none⟩) (rwl t.vl t.cK t.cV t.cn).length vc, .string ⟨#[32]⟩] wr fun e w' => e = .returned (.string (txt (rwl t.vl t.cK t.cV t.cn))) ∧ Below wr.heap.size wr w') :=
            Tryd.strings_Join pb po vc (rwl t.vl t.cK t.cV t.cn) blk wr (fun j s hj => by
              have hjl : j < (rwl t.vl t.cK t.cV t.cn).length := (List.getElem?_eq_some_iff.1 hj).1
              rw [hcell j hjl]
              simp only [sg, List.getD, hj, Option.getD_some]) hpb (by rw [rwl_len]; omega) hvc (by
                have e : (txt (rwl t.vl t.cK t.cV t.cn)).size = (Lib.join ((rwl t.vl t.cK t.cV t.cn).map (·.data.toList)) blk.data.toList).length := by
                  show (Lib.join ((rwl t.vl t.cK t.cV t.cn).map (·.data.toList)) blk.data.toList).toArray.size = _
                  rw [List.size_toArray]
                rw [← e, txt_rwl]
                omega)
          have HE2 : Hid (ryC t = 0 ∧ ryT t = txt (rwl t.vl t.cK t.cV t.cn)) := ⟨HE.out.1, by rw [HE.out.2, txt_rwl]⟩
          generalize rwl t.vl t.cK t.cV t.cn = L at *
          clear hcell HE
          go_wp2_with fail
          refine HJ.out.mono ?_
          rintro e w4 ⟨rfl, hb4⟩
          have K4 : Hid (KY w w4 M) := K3.out.below hb4
          obtain ⟨-, -, -, ⟨z0, z1⟩, f0⟩ := K4.out
          have HX9 : Hid (Below w.heap.size w w4) := K4.out.1
          clear hb4 K3
          go_wp2_with fail
          refine bodyPost_ret (v := .agg #[.int .i64 0, .string (txt L)]) (by simp [results, Tryd.results7, go_sem, z0, z1]) rfl ?_
          refine ⟨by rw [HE2.out.1, HE2.out.2], ?_⟩
          repeat (first | with_reducible exact HX9.out | with_reducible refine Below.setCell ?_ (by first | omega | (simp <;> omega)) _)
    · have HE : Hid (ryC t = 0 ∧ ryT t = noB ++ dg t.cd.toNat) := ry_no hbd hz
      have hne : (t.cd != 0) = true := by simp [hz]
      have hds := dw_size t.cd hcdW
      have ha1 : ∀ u : World, (Op.stringOp .add ⟨#[33, 32]⟩ (dg t.cd.toNat)).run Tryd.prog u = .ok (.string (noB ++ dg t.cd.toNat)) u := fun u => run_string_add_sum u noB _ (by have : noB.size = 2 := rfl; omega)
      clear hbd hz
      go_wp2_with fail
      refine (decW_any t.cd hcd0 hcdW _ (HP.out.below K1.out.1)).mono ?_
      rintro e w2 ⟨rfl, hb2⟩
      have K2 : Hid (KY w w2 (w.heap.size + 2)) := K1.out.below hb2
      obtain ⟨-, -, -, ⟨z0, z1⟩, f0⟩ := K2.out
      have HX9 : Hid (Below w.heap.size w w2) := K2.out.1
      clear hb2 x0 x1 x2 K1
      go_wp2_with fail
      refine bodyPost_ret (v := .agg #[.int .i64 0, .string (noB ++ dg t.cd.toNat)]) (by simp [results, Tryd.results7, go_sem, z0, z1]) rfl ?_
      refine ⟨by rw [HE.out.1, HE.out.2], ?_⟩
      repeat (first | with_reducible exact HX9.out | with_reducible refine Below.setCell ?_ (by first | omega | (simp <;> omega)) _)
end Go.Proofs.YtfipdkhbehfohaaDoor
