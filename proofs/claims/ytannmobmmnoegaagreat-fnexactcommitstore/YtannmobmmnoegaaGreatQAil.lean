/- Numbers that are appended to a list of the call's own. -/
import Derived.Test.YtannmobmmnoegaaGreatQFault
import Derived.Deep.RegionLaw
namespace Go.Proofs.YtannmobmmnoegaaGreat
open Go.RowKit Go.Deep
set_option linter.unusedVariables false
set_option maxRecDepth 20000

theorem wp_appI {o : Oper} {a : Act} {Kc : Act → World → Prop} {Q : Exit → Act → World → Prop} (w : World) (s x : Operand)
    (ho : o.op = .call { callee := .builtin .append, args := #[s, x], argTypes := #[31, 31] })
    (base : Nat) (v : Value) (zs : List Int) (hs : a.eval s = v) (hown : w.ownsRow base 2 1 v zs.length (il zs)) (X O cx : Nat) (z : Int) (hx : a.eval x = .slice (some ⟨X, O, none⟩) 1 cx) (hc : w.cell? ⟨X, O, none⟩ = some (.int .i64 z)) (hb : base ≤ w.heap.size) (hl : zs.length ≤ 100000)
    (hK : ∀ v' w', w'.ownsRow base 2 1 v' (zs ++ [z]).length (il (zs ++ [z])) → w.grownBy w' v.ownBlock → Kc (a.put o.dst v') w') : o.wp Tryz.prog a w Kc Q := by
  obtain ⟨i0, hi, hzz⟩ := Option.map_eq_some_iff.1 info2
  simp only [Prod.mk.injEq] at hzz
  obtain ⟨hz0, hz1, hz2⟩ := hzz
  refine wp_append_own w s x 31 ho base 2 i0 _ 1 8 Tryz.underlying31 hi hz0 hz1 hz2 rfl (by decide) v zs.length (il zs) hs hown ⟨X, O, none⟩ 1 cx [.int .i64 z] hx rfl (fun j u hj => ?_) (one_i64 _) (by unfold maxLen; omega) (by omega) hb fun v' w' h2 h3 _ => hK v' w' ?_ h3
  · have : j = 0 := by have := (List.getElem?_eq_some_iff.1 hj).1; simpa using this
    subst this
    rw [WideShapes.add_plain, Nat.add_zero, hc, ← hj]; rfl
  · rw [List.length_append, il_app]; exact h2
theorem step_appI {ops : Array Oper} {o : Oper} {a : Act} {Kc : Act → World → Prop} {Q : Exit → Act → World → Prop} {Ee : Prop} (w : World) (hgd : o.guard = none) (s x : Operand)
    (ho : o.op = .call { callee := .builtin .append, args := #[s, x], argTypes := #[31, 31] })
    (base : Nat) (v : Value) (zs : List Int) (hs : a.eval s = v) (hown : w.ownsRow base 2 1 v zs.length (il zs)) (X O cx : Nat) (z : Int) (hx : a.eval x = .slice (some ⟨X, O, none⟩) 1 cx) (hc : w.cell? ⟨X, O, none⟩ = some (.int .i64 z)) (hb : base ≤ w.heap.size) (hl : zs.length ≤ 100000)
    (hK : ∀ v' w', w'.ownsRow base 2 1 v' (zs ++ [z]).length (il (zs ++ [z])) → w.grownBy w' v.ownBlock → Kc (a.put o.dst v') w') :
    if Region.wanted o (yielded ops a.tmps) = true then Oper.wp Tryz.prog o a w Kc Q else Ee := by
  have hw : Region.wanted o (yielded ops a.tmps) = true := by simp [Region.wanted, hgd]
  rw [if_pos hw]
  exact wp_appI w s x ho base v zs hs hown X O cx z hx hc hb hl hK
theorem own_belowI {W wq : World} {B n s : Nat} {e : TypeId} {v : Value} {xs : List Value} (h : W.ownsRow B e s v n xs) (hb : Below W.heap.size W wq) : wq.ownsRow B e s v n xs := by
  obtain ⟨h1, h2 | ⟨g, cap, cur, rfl, k1, k2, k3⟩⟩ := h
  · exact ⟨h1, .inl h2⟩
  · refine ⟨h1, .inr ⟨g, cap, cur, rfl, k1, ?_, k3⟩⟩
    have hlt : g < W.heap.size := (Array.getElem?_eq_some_iff.1 k2).1
    exact (hb.block _ hlt).trans k2
theorem ownI_keep {w w' : World} {base n s : Nat} {e : TypeId} {v : Value} {xs : List Value} (h : w.ownsRow base e s v n xs) (hb : ∀ q, v.ownBlock = some q → w'.heap[q]? = w.heap[q]?) : w'.ownsRow base e s v n xs := by
  obtain ⟨h1, h2 | ⟨g, cap, cur, rfl, k1, k2, k3⟩⟩ := h
  · exact ⟨h1, .inl h2⟩
  · exact ⟨h1, .inr ⟨g, cap, cur, rfl, k1, (hb g rfl).trans k2, k3⟩⟩
theorem ownI_lt {w : World} {base n s : Nat} {e : TypeId} {v : Value} {xs : List Value} (h : w.ownsRow base e s v n xs) : ∀ q, v.ownBlock = some q → base ≤ q ∧ q < w.heap.size := by
  intro q hq
  obtain ⟨h1, ⟨rfl, _⟩ | ⟨g, cap, cur, rfl, k1, k2, k3⟩⟩ := h
  · simp [Value.ownBlock] at hq
  · simp only [Value.ownBlock, Option.some.injEq] at hq
    subst hq
    exact ⟨k1, (Array.getElem?_eq_some_iff.1 k2).1⟩
end Go.Proofs.YtannmobmmnoegaaGreat
