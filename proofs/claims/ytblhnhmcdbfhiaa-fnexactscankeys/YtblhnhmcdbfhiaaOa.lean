/- Both OpenTxns. -/
import Derived.Test.YtblhnhmcdbfhiaaIn
import Derived.Test.YtblhnhmcdbfhiaaGi
import Derived.Test.YtblhnhmcdbfhiaaFf
import Derived.Deep.RegionLaw
namespace Go.Proofs.Ytblhnhmcdbfhiaa
open Go.RowKit Go.Deep
set_option linter.unusedVariables false
set_option maxRecDepth 20000

theorem wp_appI {o : Oper} {a : Act} {Kc : Act → World → Prop} {Q : Exit → Act → World → Prop} (w : World) (s x : Operand)
    (ho : o.op = .call { callee := .builtin .append, args := #[s, x], argTypes := #[65, 65] })
    (base : Nat) (v : Value) (zs : List Int) (hs : a.eval s = v) (hown : w.ownsRow base 2 1 v zs.length (il zs)) (X O cx : Nat) (z : Int) (hx : a.eval x = .slice (some ⟨X, O, none⟩) 1 cx) (hc : w.cell? ⟨X, O, none⟩ = some (.int .i64 z)) (hb : base ≤ w.heap.size) (hl : zs.length ≤ 100000)
    (hK : ∀ v' w', w'.ownsRow base 2 1 v' (zs ++ [z]).length (il (zs ++ [z])) → w.grownBy w' v.ownBlock → Kc (a.put o.dst v') w') : o.wp Try.prog a w Kc Q := by
  obtain ⟨i0, hi, hzz⟩ := Option.map_eq_some_iff.1 info2
  simp only [Prod.mk.injEq] at hzz
  obtain ⟨hz0, hz1, hz2⟩ := hzz
  refine wp_append_own w s x 65 ho base 2 i0 _ 1 8 Try.underlying65 hi hz0 hz1 hz2 rfl (by decide) v zs.length (il zs) hs hown ⟨X, O, none⟩ 1 cx [.int .i64 z] hx rfl (fun j u hj => ?_) (one_i64 _) (by unfold maxLen; omega) (by omega) hb fun v' w' h2 h3 _ => hK v' w' ?_ h3
  · have : j = 0 := by have := (List.getElem?_eq_some_iff.1 hj).1; simpa using this
    subst this
    rw [WideShapes.add_plain, Nat.add_zero, hc, ← hj]; rfl
  · rw [List.length_append, il_app]; exact h2
theorem wpList_appI {ops : Array Oper} {rest : List Oper} {o : Oper} {a : Act} {Q : Exit → Act → World → Prop} (w : World) (hgd : o.guard = none) (s x : Operand)
    (ho : o.op = .call { callee := .builtin .append, args := #[s, x], argTypes := #[65, 65] })
    (base : Nat) (v : Value) (zs : List Int) (hs : a.eval s = v) (hown : w.ownsRow base 2 1 v zs.length (il zs)) (X O cx : Nat) (z : Int) (hx : a.eval x = .slice (some ⟨X, O, none⟩) 1 cx) (hc : w.cell? ⟨X, O, none⟩ = some (.int .i64 z)) (hb : base ≤ w.heap.size) (hl : zs.length ≤ 100000)
    (hK : ∀ v' w', w'.ownsRow base 2 1 v' (zs ++ [z]).length (il (zs ++ [z])) → w.grownBy w' v.ownBlock → wpList Try.prog ops Q rest (a.put o.dst v') w') : wpList Try.prog ops Q (o :: rest) a w :=
  wpList_plain hgd fun _ hKK => wp_appI w s x ho base v zs hs hown X O cx z hx hc hb hl fun v' w' h2 h3 => hKK _ _ (hK v' w' h2 h3)
theorem step_appI {ops : Array Oper} {o : Oper} {a : Act} {Kc : Act → World → Prop} {Q : Exit → Act → World → Prop} {Ee : Prop} (w : World) (hgd : o.guard = none) (s x : Operand)
    (ho : o.op = .call { callee := .builtin .append, args := #[s, x], argTypes := #[65, 65] })
    (base : Nat) (v : Value) (zs : List Int) (hs : a.eval s = v) (hown : w.ownsRow base 2 1 v zs.length (il zs)) (X O cx : Nat) (z : Int) (hx : a.eval x = .slice (some ⟨X, O, none⟩) 1 cx) (hc : w.cell? ⟨X, O, none⟩ = some (.int .i64 z)) (hb : base ≤ w.heap.size) (hl : zs.length ≤ 100000)
    (hK : ∀ v' w', w'.ownsRow base 2 1 v' (zs ++ [z]).length (il (zs ++ [z])) → w.grownBy w' v.ownBlock → Kc (a.put o.dst v') w') :
    if Region.wanted o (yielded ops a.tmps) = true then Oper.wp Try.prog o a w Kc Q else Ee := by
  have hw : Region.wanted o (yielded ops a.tmps) = true := by simp [Region.wanted, hgd]
  rw [if_pos hw]
  exact wp_appI w s x ho base v zs hs hown X O cx z hx hc hb hl hK
theorem own_belowI {W wq : World} {B n s : Nat} {e : TypeId} {v : Value} {xs : List Value} (h : W.ownsRow B e s v n xs) (hb : Below W.heap.size W wq) : wq.ownsRow B e s v n xs := by
  obtain ⟨h1, h2 | ⟨g, cap, cur, rfl, k1, k2, k3⟩⟩ := h
  · exact ⟨h1, .inl h2⟩
  · refine ⟨h1, .inr ⟨g, cap, cur, rfl, k1, ?_, k3⟩⟩
    have hlt : g < W.heap.size := (Array.getElem?_eq_some_iff.1 k2).1
    exact (hb.block _ hlt).trans k2
/-- The numbers of the open transactions, of the first k. -/
def otL (T : Nat → Tx) : Nat → List Int
  | 0 => []
  | k + 1 => if (T k).st = 1 then otL T k ++ [(T k).id] else otL T k
theorem otL_len (T : Nat → Tx) : ∀ k, (otL T k).length ≤ k
  | 0 => Nat.le_refl _
  | k + 1 => by
    have := otL_len T k
    simp only [otL]
    split
    · simp; omega
    · omega
theorem eF_p {E : En} (h : eF E = 0) : E.p ≤ 20 ∧ E.q ≤ 32 := by
  unfold eF at h
  split at h
  · omega
  · split at h
    · omega
    · omega
set_option maxHeartbeats 8000000 in
theorem implOt_any (E : En) (a : Option Addr) (cap : Nat) (a' : Option Addr) (cap' : Nat) (w : World) (hs : SmallE E) (h : EngAt w a a' E) :
    Calls Try.prog 39 #[.agg #[.int .i64 E.nx, .int .i64 E.ck, .slice a E.p cap, .slice a' E.q cap']] w (IRes (eF E) (otL E.T E.p) w) := by
  have HX : Hid (EngAt w a a' E) := h
  have HS : Hid (SmallE E) := hs
  clear h hs
  have HBX : Hid (∀ o1 o2 : Obj, o1 = .cells #[.int .i64 E.nx, .int .i64 E.ck, .slice a E.p cap, .slice a' E.q cap'] 47 → o2 = .cells #[.int .i64 0, .slice none 0 0] 67 →
      Box4 ((w.alloc o1).alloc o2) w.heap.size (.int .i64 E.nx) (.int .i64 E.ck) (.slice a E.p cap) (.slice a' E.q cap') ∧ Box2 ((w.alloc o1).alloc o2) (w.heap.size + 1) (.int .i64 0) (.slice none 0 0) ∧ (∀ i, ((w.alloc o1).alloc o2).frozen? ⟨w.heap.size + 1, i, none⟩ = false) ∧ Below w.heap.size w ((w.alloc o1).alloc o2) ∧ ((w.alloc o1).alloc o2).heap.size = w.heap.size + 2) := by
    rintro o1 o2 rfl rfl
    exact ⟨(Box4.new w _ _ _ _ _).alloc _, by simp [Box2, go_sem], fun i => by simp [go_sem], ((Below.refl _ _).alloc (Nat.le_refl _) _).alloc (by simp) _, by simp⟩
  go_enter Try.func39, Try.ntmps39
  go_wp2_with fail
  refine (implEf_any E a cap a' cap' _ HS.out (HX.out.below ((((Below.refl _ _).alloc (Nat.le_refl _) _).alloc (by simp) _)))).mono ?_
  rintro e w1 ⟨rfl, hb1⟩
  obtain ⟨hb4, hb2, hbf, hbw, hbs⟩ := HBX.out _ _ rfl rfl
  have B4 := hb4.below hb1
  have B2 := hb2.below hb1
  have rf : ∀ i, w1.frozen? ⟨w.heap.size + 1, i, none⟩ = false := fun i => ((bcell2 hb1).2 _ _ (by rw [hbs]; omega)).trans (hbf i)
  have HBW : Hid (Below w.heap.size w w1) := below_then hbw hb1
  have hs1 : w.heap.size + 2 ≤ w1.heap.size := by have := hb1.size; rw [hbs] at this; exact this
  clear hb1 hb4 hb2 hbf hbw hbs HBX
  obtain ⟨b0, b1, b2, b3⟩ := B4
  obtain ⟨r0, r1⟩ := B2
  by_cases hc : eF E = 0
  case neg =>
    have hc2 : (eF E != 0) = true := by simp [hc]
    have HF : Hid (∀ w7, Below w.heap.size w w7 → IRes (eF E) (otL E.T E.p) w (.returned (.agg #[.int .i64 (eF E), .slice none 0 0])) w7) := fun w7 hb => ires_bad hb hc
    clear hc b0 b1 b2 b3
    generalize eF E = uu at *
    go_wp2_with fail
    refine bodyPost_ret (v := .agg #[.int .i64 uu, .slice none 0 0]) (by simp [results, Try.results39, go_sem, *]) rfl ?_
    refine HF.out _ ?_
    repeat (first | with_reducible exact HBW.out | with_reducible refine Below.setCell ?_ (by first | omega | (simp <;> omega)) _)
  have hp20 := (eF_p hc).1
  have HRB : Hid (Box2 w1 (w.heap.size + 1) (.int .i64 0) (.slice none 0 0) ∧ ∀ i, w1.frozen? ⟨w.heap.size + 1, i, none⟩ = false) := ⟨⟨r0, r1⟩, rf⟩
  have HC0 : Hid (eF E = 0) := hc
  rw [hc]
  clear hc
  go_wp2_with fail
  clear b0 b1 b2 b3 r0 r1 rf
  go_loopw [4, 6, 16] (fun v _ i wr => ∃ k : Nat, k ≤ E.p ∧ i = .int .i64 k ∧ Hid (Below w1.heap.size w1 wr) ∧ Hid (wr.ownsRow w1.heap.size 2 1 v (otL E.T k).length (il (otL E.T k)))) (fun _ _ i _ => E.p - (intOf i).toNat)
  case atStart => exact ⟨0, Nat.zero_le _, rfl, Below.refl _ _, World.ownsRow_nil _ _ _ _⟩
  case round =>
    obtain ⟨k, hk, rfl, HB, HO⟩ := hrel
    by_cases hlt : k < E.p
    · have hlt' : (k : Int) < (E.p : Int) := by omega
      have hk0 : (0 : Int) ≤ (k : Int) := by omega
      rcases HX.out.1.below (below_then HBW.out HB.out) with h | ⟨bb, off, rfl, hl, hcc⟩
      · omega
      obtain ⟨ti, tc, ⟨x0, x1, x2, x3, x4⟩, -, -⟩ := hcc k hlt
      have hszr := HB.out.size
      have HLK : Hid ((otL E.T k).length ≤ 100000) := by have := otL_len E.T k; show _ ≤ _; omega
      clear hcc
      by_cases hst : (E.T k).st = 1
      · have e1 : otL E.T (k + 1) = otL E.T k ++ [(E.T k).id] := if_pos hst
        have hst2 : ((E.T k).st == 1) = true := by simp [hst]
        have HOA : Hid (∀ o1 o2 : Obj, ((wr.alloc o1).alloc o2).ownsRow w1.heap.size 2 1 _ (otL E.T k).length (il (otL E.T k))) := fun o1 o2 => own_belowI (own_belowI HO.out (below_new _ _)) (below_new _ _)
        have HE1 : Hid (otL E.T (k + 1) = otL E.T k ++ [(E.T k).id]) := e1
        clear hst e1
        go_wp2_with (at_builtin; refine wpList_appI _ rfl (.tmp 23) (.tmp 26) rfl w1.heap.size _ (otL E.T k) rfl (HOA.out _ _) (wr.heap.size + 1) 0 1 (E.T k).id rfl (by simp [go_sem]) (by simp; omega) HLK.out ?_)
        intro v2 w3 ho3 hg3
        have HB3 : Hid (Below w1.heap.size w1 w3) := by
          refine (below_then HB.out (((Below.refl _ _).alloc (Nat.le_refl _) _).alloc (by simp) _)).grown hg3 (by simp; omega) fun q hq => ?_
          exact (HO.out.lt q hq).1
        have HO3 : Hid (w3.ownsRow w1.heap.size 2 1 v2 (otL E.T (k + 1)).length (il (otL E.T (k + 1)))) := by
          show w3.ownsRow _ _ _ _ _ _
          rw [HE1.out]
          first | exact ho3 | simpa using ho3
        clear ho3 hg3 x0 x1 x2 x3 x4 HOA
        go_wp2_with fail
        go_roundw
        case rel => exact ⟨k + 1, hlt, by go_num, HB3, HO3⟩
        case measure => simp [intOf]; omega
      · have e1 : otL E.T (k + 1) = otL E.T k := if_neg hst
        have hst2 : ((E.T k).st == 1) = false := by simp [hst]
        have HOA : Hid (∀ o1 : Obj, (wr.alloc o1).ownsRow w1.heap.size 2 1 _ (otL E.T (k + 1)).length (il (otL E.T (k + 1)))) := fun o1 => by rw [e1]; exact own_belowI HO.out (below_new _ _)
        have HBA : Hid (∀ o1 : Obj, Below w1.heap.size w1 (wr.alloc o1)) := fun o1 => below_then HB.out (below_new _ _)
        clear hst e1
        go_wp2_with fail
        go_roundw
        case rel => exact ⟨k + 1, hlt, by go_num, HBA.out _, HOA.out _⟩
        case measure => simp [intOf]; omega
    · have hkn : k = E.p := by omega
      have hnl : ¬ ((k : Int) < (E.p : Int)) := by omega
      obtain ⟨va, vc, rfl, -⟩ := ownI_of_row HO.out
      have HF : Hid (∀ w7, Writes (w.heap.size + 1) (w.heap.size + 2) wr w7 → w7.heap.size = wr.heap.size → IRes (eF E) (otL E.T E.p) w (.returned (.agg #[.int .i64 0, .slice va (otL E.T k).length vc])) w7) := fun w7 hw hs7 => by
        have hO := HO.out
        rw [hkn] at hO ⊢
        exact ires_ok HC0.out (below_then HBW.out HB.out) (by omega) (by omega) hs1 hO hw hs7
      obtain ⟨⟨r0, r1⟩, rf⟩ := HRB.out
      replace rf : ∀ i, wr.frozen? ⟨w.heap.size + 1, i, none⟩ = false := fun i => ((bcell2 HB.out).2 _ _ (by omega)).trans (rf i)
      replace r0 := cell_below r0 HB.out
      replace r1 := cell_below r1 HB.out
      clear HO HB hkn HRB
      generalize (otL E.T k).length = len at *
      go_wp2_with fail
      refine bodyPost_ret (v := .agg #[.int .i64 0, .slice va len vc]) (by simp [results, Try.results39, go_sem, *]) rfl ?_
      refine HF.out _ ?_ (by simp [World.setCell])
      repeat (first | with_reducible exact Writes.refl _ _ _ | with_reducible refine Writes.setCell ?_ (by first | omega | (simp <;> omega)) (by first | omega | (simp <;> omega)) _)
end Go.Proofs.Ytblhnhmcdbfhiaa
