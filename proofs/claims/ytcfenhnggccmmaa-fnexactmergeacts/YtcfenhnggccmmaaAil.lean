/- Numbers that are appended to a list of the call's own. -/
import Derived.Test.YtcfenhnggccmmaaTni
import Derived.Deep.RegionLaw
namespace Go.Proofs.Ytcfenhnggccmmaa
open Go.RowKit Go.Deep
set_option linter.unusedVariables false
set_option maxRecDepth 20000

theorem wp_appI {o : Oper} {a : Act} {Kc : Act → World → Prop} {Q : Exit → Act → World → Prop} (w : World) (s x : Operand)
    (ho : o.op = .call { callee := .builtin .append, args := #[s, x], argTypes := #[31, 31] })
    (base : Nat) (v : Value) (zs : List Int) (hs : a.eval s = v) (hown : w.ownsRow base 2 1 v zs.length (il zs)) (X O cx : Nat) (z : Int) (hx : a.eval x = .slice (some ⟨X, O, none⟩) 1 cx) (hc : w.cell? ⟨X, O, none⟩ = some (.int .i64 z)) (hb : base ≤ w.heap.size) (hl : zs.length ≤ 100000)
    (hK : ∀ v' w', w'.ownsRow base 2 1 v' (zs ++ [z]).length (il (zs ++ [z])) → w.grownBy w' v.ownBlock → Kc (a.put o.dst v') w') : o.wp Try.prog a w Kc Q := by
  obtain ⟨i0, hi, hzz⟩ := Option.map_eq_some_iff.1 info2
  simp only [Prod.mk.injEq] at hzz
  obtain ⟨hz0, hz1, hz2⟩ := hzz
  refine wp_append_own w s x 31 ho base 2 i0 _ 1 8 Try.underlying31 hi hz0 hz1 hz2 rfl (by decide) v zs.length (il zs) hs hown ⟨X, O, none⟩ 1 cx [.int .i64 z] hx rfl (fun j u hj => ?_) (one_i64 _) (by unfold maxLen; omega) (by omega) hb fun v' w' h2 h3 _ => hK v' w' ?_ h3
  · have : j = 0 := by have := (List.getElem?_eq_some_iff.1 hj).1; simpa using this
    subst this
    rw [WideShapes.add_plain, Nat.add_zero, hc, ← hj]; rfl
  · rw [List.length_append, il_app]; exact h2
theorem wpList_appI {ops : Array Oper} {rest : List Oper} {o : Oper} {a : Act} {Q : Exit → Act → World → Prop} (w : World) (hgd : o.guard = none) (s x : Operand)
    (ho : o.op = .call { callee := .builtin .append, args := #[s, x], argTypes := #[31, 31] })
    (base : Nat) (v : Value) (zs : List Int) (hs : a.eval s = v) (hown : w.ownsRow base 2 1 v zs.length (il zs)) (X O cx : Nat) (z : Int) (hx : a.eval x = .slice (some ⟨X, O, none⟩) 1 cx) (hc : w.cell? ⟨X, O, none⟩ = some (.int .i64 z)) (hb : base ≤ w.heap.size) (hl : zs.length ≤ 100000)
    (hK : ∀ v' w', w'.ownsRow base 2 1 v' (zs ++ [z]).length (il (zs ++ [z])) → w.grownBy w' v.ownBlock → wpList Try.prog ops Q rest (a.put o.dst v') w') : wpList Try.prog ops Q (o :: rest) a w :=
  wpList_plain hgd fun _ hKK => wp_appI w s x ho base v zs hs hown X O cx z hx hc hb hl fun v' w' h2 h3 => hKK _ _ (hK v' w' h2 h3)
theorem step_appI {ops : Array Oper} {o : Oper} {a : Act} {Kc : Act → World → Prop} {Q : Exit → Act → World → Prop} {Ee : Prop} (w : World) (hgd : o.guard = none) (s x : Operand)
    (ho : o.op = .call { callee := .builtin .append, args := #[s, x], argTypes := #[31, 31] })
    (base : Nat) (v : Value) (zs : List Int) (hs : a.eval s = v) (hown : w.ownsRow base 2 1 v zs.length (il zs)) (X O cx : Nat) (z : Int) (hx : a.eval x = .slice (some ⟨X, O, none⟩) 1 cx) (hc : w.cell? ⟨X, O, none⟩ = some (.int .i64 z)) (hb : base ≤ w.heap.size) (hl : zs.length ≤ 100000)
    (hK : ∀ v' w', w'.ownsRow base 2 1 v' (zs ++ [z]).length (il (zs ++ [z])) → w.grownBy w' v.ownBlock → Kc (a.put o.dst v') w') :
    if Region.wanted o (yielded ops a.tmps) = true then Oper.wp Try.prog o a w Kc Q else Ee := by
  have hw : Region.wanted o (yielded ops a.tmps) = true := by simp [Region.wanted, hgd]
  rw [if_pos hw]
  exact wp_appI w s x ho base v zs hs hown X O cx z hx hc hb hl hK
theorem own_belowI {W wq : World} {B n s : Nat} {e : TypeId} {v : Value} {xs : List Value} (h : W.ownsRow B e s v n xs) (hb : Below W.heap.size W wq) : wq.ownsRow B e s v n xs := by
  obtain ⟨h1, h2 | ⟨g, cap, cur, rfl, k1, k2, k3⟩⟩ := h
  · exact ⟨h1, .inl h2⟩
  · refine ⟨h1, .inr ⟨g, cap, cur, rfl, k1, ?_, k3⟩⟩
    have hlt : g < W.heap.size := (Array.getElem?_eq_some_iff.1 k2).1
    exact (hb.block _ hlt).trans k2
theorem wp_appIL {o : Oper} {a : Act} {Kc : Act → World → Prop} {Q : Exit → Act → World → Prop} (w : World) (s x : Operand)
    (ho : o.op = .call { callee := .builtin .append, args := #[s, x], argTypes := #[31, 31] })
    (base : Nat) (v : Value) (zs : List Int) (hs : a.eval s = v) (hown : w.ownsRow base 2 1 v zs.length (il zs)) (X O cx : Nat) (z : Int) (hx : a.eval x = .slice (some ⟨X, O, none⟩) 1 cx) (hc : w.cell? ⟨X, O, none⟩ = some (.int .i64 z)) (hb : base ≤ w.heap.size) (hl : zs.length ≤ 100000)
    (hK : ∀ g cap w', w'.ownsRow base 2 1 (.slice (some ⟨g, 0, none⟩) (zs ++ [z]).length cap) (zs ++ [z]).length (il (zs ++ [z])) → w.grownBy w' v.ownBlock → (v.ownBlock = some g ∨ g = w.heap.size) → g < w'.heap.size → Kc (a.put o.dst (.slice (some ⟨g, 0, none⟩) (zs ++ [z]).length cap)) w') : o.wp Try.prog a w Kc Q := by
  obtain ⟨i0, hi, hzz⟩ := Option.map_eq_some_iff.1 info2
  simp only [Prod.mk.injEq] at hzz
  obtain ⟨hz0, hz1, hz2⟩ := hzz
  refine wp_append_lies w s x 31 ho base 2 i0 _ 1 8 Try.underlying31 hi hz0 hz1 hz2 rfl (by decide) v zs.length (il zs) hs hown ⟨X, O, none⟩ 1 cx [.int .i64 z] hx rfl (fun j u hj => ?_) (one_i64 _) (by decide) (by unfold maxLen; omega) (by omega) hb _ rfl fun g cap w' h2 h3 h4 h5 => ?_
  · have : j = 0 := by have := (List.getElem?_eq_some_iff.1 hj).1; simpa using this
    subst this
    rw [WideShapes.add_plain, Nat.add_zero, hc, ← hj]; rfl
  · have e : (zs ++ [z]).length = zs.length + 1 := by simp
    have hk := hK g cap w'
    rw [e, il_app] at hk
    exact hk h2 h3 h4 h5
theorem wpList_appIL {ops : Array Oper} {rest : List Oper} {o : Oper} {a : Act} {Q : Exit → Act → World → Prop} (w : World) (hgd : o.guard = none) (s x : Operand)
    (ho : o.op = .call { callee := .builtin .append, args := #[s, x], argTypes := #[31, 31] })
    (base : Nat) (v : Value) (zs : List Int) (hs : a.eval s = v) (hown : w.ownsRow base 2 1 v zs.length (il zs)) (X O cx : Nat) (z : Int) (hx : a.eval x = .slice (some ⟨X, O, none⟩) 1 cx) (hc : w.cell? ⟨X, O, none⟩ = some (.int .i64 z)) (hb : base ≤ w.heap.size) (hl : zs.length ≤ 100000)
    (hK : ∀ g cap w', w'.ownsRow base 2 1 (.slice (some ⟨g, 0, none⟩) (zs ++ [z]).length cap) (zs ++ [z]).length (il (zs ++ [z])) → w.grownBy w' v.ownBlock → (v.ownBlock = some g ∨ g = w.heap.size) → g < w'.heap.size → wpList Try.prog ops Q rest (a.put o.dst (.slice (some ⟨g, 0, none⟩) (zs ++ [z]).length cap)) w') : wpList Try.prog ops Q (o :: rest) a w :=
  wpList_plain hgd fun _ hKK => wp_appIL w s x ho base v zs hs hown X O cx z hx hc hb hl fun g cap w' h2 h3 h4 h5 => hKK _ _ (hK g cap w' h2 h3 h4 h5)
/-- Two lists of numbers in blocks of their own, from m on. -/
def TwoI (m : Nat) (w : World) (v1 v2 : Value) (xs ys : List Int) : Prop :=
  w.ownsRow m 2 1 v1 xs.length (il xs) ∧ w.ownsRow m 2 1 v2 ys.length (il ys) ∧ ∀ q, v1.ownBlock = some q → v2.ownBlock ≠ some q
theorem ownI_keep {w w' : World} {base n s : Nat} {e : TypeId} {v : Value} {xs : List Value} (h : w.ownsRow base e s v n xs) (hb : ∀ q, v.ownBlock = some q → w'.heap[q]? = w.heap[q]?) : w'.ownsRow base e s v n xs := by
  obtain ⟨h1, h2 | ⟨g, cap, cur, rfl, k1, k2, k3⟩⟩ := h
  · exact ⟨h1, .inl h2⟩
  · exact ⟨h1, .inr ⟨g, cap, cur, rfl, k1, (hb g rfl).trans k2, k3⟩⟩
theorem ownI_lt {w : World} {base n s : Nat} {e : TypeId} {v : Value} {xs : List Value} (h : w.ownsRow base e s v n xs) : ∀ q, v.ownBlock = some q → base ≤ q ∧ q < w.heap.size := by
  intro q hq
  obtain ⟨h1, ⟨rfl, _⟩ | ⟨g, cap, cur, rfl, k1, k2, k3⟩⟩ := h
  · simp [Value.ownBlock] at hq
  · simp only [Value.ownBlock, Option.some.injEq] at hq
    subst hq
    exact ⟨k1, (Array.getElem?_eq_some_iff.1 k2).1⟩
theorem TwoI.below {m : Nat} {w w' : World} {v1 v2 : Value} {xs ys : List Int} (h : TwoI m w v1 v2 xs ys) (hb : Below w.heap.size w w') : TwoI m w' v1 v2 xs ys :=
  ⟨ownI_keep h.1 fun q hq => hb.block q (ownI_lt h.1 q hq).2, ownI_keep h.2.1 fun q hq => hb.block q (ownI_lt h.2.1 q hq).2, h.2.2⟩
/-- The first list has grown, or the second. -/
theorem TwoI.grow1 {m g c : Nat} {w w' : World} {v1 v2 : Value} {xs ys zs : List Int} (h : TwoI m w v1 v2 xs ys) (hg : w.grownBy w' v1.ownBlock) (ho : w'.ownsRow m 2 1 (.slice (some ⟨g, 0, none⟩) zs.length c) zs.length (il zs)) (hl : v1.ownBlock = some g ∨ g = w.heap.size) : TwoI m w' (.slice (some ⟨g, 0, none⟩) zs.length c) v2 zs ys := by
  refine ⟨ho, ownI_keep h.2.1 fun q hq => ?_, fun q hq hq2 => ?_⟩
  · exact hg.block q (ownI_lt h.2.1 q hq).2 fun e => h.2.2 q e.symm hq
  · simp only [Value.ownBlock, Option.some.injEq] at hq
    subst hq
    rcases hl with h1 | h1
    · exact h.2.2 g h1 hq2
    · have := (ownI_lt h.2.1 g hq2).2; omega
theorem TwoI.grow2 {m g c : Nat} {w w' : World} {v1 v2 : Value} {xs ys zs : List Int} (h : TwoI m w v1 v2 xs ys) (hg : w.grownBy w' v2.ownBlock) (ho : w'.ownsRow m 2 1 (.slice (some ⟨g, 0, none⟩) zs.length c) zs.length (il zs)) (hl : v2.ownBlock = some g ∨ g = w.heap.size) : TwoI m w' v1 (.slice (some ⟨g, 0, none⟩) zs.length c) xs zs := by
  refine ⟨ownI_keep h.1 fun q hq => ?_, ho, fun q hq hq2 => ?_⟩
  · exact hg.block q (ownI_lt h.1 q hq).2 fun e => h.2.2 q hq e.symm
  · simp only [Value.ownBlock, Option.some.injEq] at hq2
    subst hq2
    rcases hl with h1 | h1
    · exact h.2.2 g hq h1
    · have := (ownI_lt h.1 g hq).2; omega
theorem row1_slice {w : World} {base n : Nat} {v : Value} {xs : List Value} (h : w.ownsRow base 2 1 v n xs) : ∃ a cap, v = .slice a n cap := by
  rcases h.2 with ⟨rfl, h0⟩ | ⟨g, cap, cur, rfl, _⟩
  · exact ⟨none, 0, by rw [h0]⟩
  · exact ⟨_, cap, rfl⟩
end Go.Proofs.Ytcfenhnggccmmaa
