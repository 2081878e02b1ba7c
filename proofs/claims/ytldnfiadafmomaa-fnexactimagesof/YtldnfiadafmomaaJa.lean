/- Bytes appended to a row of the call's own, whatever slice they lie in; impl.joined. -/
import Derived.Test.YtldnfiadafmomaaUt
import Derived.Test.YtldnfiadafmomaaCp
import Derived.Deep.RegionLaw
namespace Go.Proofs.Ytldnfiadafmomaa
open Go.RowKit Go.Deep
set_option linter.unusedVariables false
set_option maxRecDepth 20000

theorem run_app_zero (w : World) (ty : TypeId) (ba : Option Addr) (n c : Nat) (xa : Option Addr) (xc : Nat) (h : n ≤ c) :
    (Builtin.append_ #[55, 55] ty #[.slice ba n c, .slice xa 0 xc]).run Try.prog w = .ok (.slice ba n c) w := by
  cases ba <;> cases xa <;> simp [Builtin.append_, go_sem, h, Builtin.firstCells, storeCells]
theorem grown_refl (w : World) (r : Option Nat) : w.grownBy w r := ⟨rfl, rfl, rfl, Nat.le_refl _, fun _ _ _ => rfl⟩
theorem zL_bl (z : Nat → Int) (n : Nat) : ∀ j u, (bl (zL z n))[j]? = some u → j < n ∧ u = .int .u8 (z j) := by
  intro j u h
  have hj : j < n := by
    have := (List.getElem?_eq_some_iff.1 h).1
    simpa [bl, zL] using this
  simp [bl, zL, hj] at h
  exact ⟨hj, h.symm⟩
theorem wp_appB {o : Oper} {a : Act} {K : Act → World → Prop} {Q : Exit → Act → World → Prop} (w : World) (s x : Operand)
    (ho : o.op = .call { callee := .builtin .append, args := #[s, x], argTypes := #[55, 55] })
    (base : Nat) (v : Value) (zs : List Int) (hs : a.eval s = v) (hown : w.ownsRow base 5 1 v zs.length (bl zs))
    (xa : Option Addr) (m c : Nat) (z : Nat → Int) (hx : a.eval x = .slice xa m c) (hb : BytesAt w xa m z) (h63 : zs.length + m ≤ 100000) (hbase : base ≤ w.heap.size)
    (h : ∀ v' w', w'.ownsRow base 5 1 v' (zs ++ zL z m).length (bl (zs ++ zL z m)) → w.grownBy w' v.ownBlock → K (a.put o.dst v') w') : o.wp Try.prog a w K Q := by
  by_cases hm : m = 0
  · subst hm
    obtain ⟨ba, cap, rfl⟩ : ∃ ba cap, v = .slice ba zs.length cap := by
      rcases hown.2 with ⟨rfl, h0⟩ | ⟨g, cap, cur, rfl, _⟩
      · exact ⟨none, 0, by rw [h0]⟩
      · exact ⟨_, cap, rfl⟩
    have hr := run_app_zero w o.type ba zs.length cap xa c (own_cap hown)
    unfold Oper.wp execOp
    simp only [ho, resolve, invoke, builtin, Sem.run_bind, Sem.run_pure, Result.andThen_ok, List.map_toArray, List.map_cons, List.map_nil, hs, hx, hr]
    refine h _ w ?_ (grown_refl _ _)
    have e : zs ++ zL z 0 = zs := by simp [zL]
    rw [e]
    exact hown
  · rcases hb with hb | ⟨b, off, rfl, hbl, hc⟩
    · exact absurd hb hm
    · obtain ⟨i0, hi, hz0, hz1, hz2⟩ := info_parts info5
      refine wp_append_own w s x 55 ho base 5 i0 _ 1 1 Try.underlying55 hi hz0 hz1 hz2 rfl (by decide) v zs.length (bl zs) hs hown ⟨b, off, none⟩ m c (bl (zL z m)) hx (by rw [bl_len, zL_len]; omega) (fun j u hj => ?_) (bl_one _) (by unfold maxLen; omega) (by omega) hbase fun v' w' h2 h3 _ => h v' w' ?_ h3
      · obtain ⟨h1, rfl⟩ := zL_bl z m j u hj
        rw [WideShapes.add_plain]
        exact hc j h1
      · rw [List.length_append, zL_len, bl_app]
        exact h2
theorem wpList_appB {ops : Array Oper} {rest : List Oper} {o : Oper} {a : Act} {Q : Exit → Act → World → Prop} (w : World) (hgd : o.guard = none) (s x : Operand)
    (ho : o.op = .call { callee := .builtin .append, args := #[s, x], argTypes := #[55, 55] })
    (base : Nat) (v : Value) (zs : List Int) (hs : a.eval s = v) (hown : w.ownsRow base 5 1 v zs.length (bl zs))
    (xa : Option Addr) (m c : Nat) (z : Nat → Int) (hx : a.eval x = .slice xa m c) (hb : BytesAt w xa m z) (h63 : zs.length + m ≤ 100000) (hbase : base ≤ w.heap.size)
    (h : ∀ v' w', w'.ownsRow base 5 1 v' (zs ++ zL z m).length (bl (zs ++ zL z m)) → w.grownBy w' v.ownBlock → wpList Try.prog ops Q rest (a.put o.dst v') w') : wpList Try.prog ops Q (o :: rest) a w :=
  wpList_plain hgd fun _ hK => wp_appB w s x ho base v zs hs hown xa m c z hx hb h63 hbase fun v' w' h2 h3 => hK _ _ (h v' w' h2 h3)
theorem step_appZ {ops : Array Oper} {o : Oper} {a : Act} {K : Act → World → Prop} {Q : Exit → Act → World → Prop} {E : Prop} (w : World) (hgd : o.guard = none) (s x : Operand)
    (ho : o.op = .call { callee := .builtin .append, args := #[s, x], argTypes := #[55, 55] })
    (base : Nat) (v : Value) (zs : List Int) (hs : a.eval s = v) (hown : w.ownsRow base 5 1 v zs.length (bl zs))
    (xa : Option Addr) (m c : Nat) (z : Nat → Int) (hx : a.eval x = .slice xa m c) (hb : BytesAt w xa m z) (h63 : zs.length + m ≤ 100000) (hbase : base ≤ w.heap.size)
    (h : ∀ v' w', w'.ownsRow base 5 1 v' (zs ++ zL z m).length (bl (zs ++ zL z m)) → w.grownBy w' v.ownBlock → K (a.put o.dst v') w') :
    if Region.wanted o (yielded ops a.tmps) = true then Oper.wp Try.prog o a w K Q else E := by
  have hw : Region.wanted o (yielded ops a.tmps) = true := by simp [Region.wanted, hgd]
  rw [if_pos hw]
  exact wp_appB w s x ho base v zs hs hown xa m c z hx hb h63 hbase h
/-- Pieces joined, the first k of them. -/
def jn (N : Nat → Nat) (Z : Nat → Nat → Int) : Nat → List Int
  | 0 => []
  | k + 1 => jn N Z k ++ zL (Z k) (N k)
theorem jn_len (N : Nat → Nat) (Z : Nat → Nat → Int) : ∀ k, (jn N Z k).length = sumL N k
  | 0 => rfl
  | k + 1 => by simp only [jn, List.length_append, jn_len N Z k, zL_len, sumL]
theorem sumL_mono (N : Nat → Nat) {k m : Nat} (h : k ≤ m) : sumL N k ≤ sumL N m := by
  induction m with
  | zero => have : k = 0 := by omega
            subst this; exact Nat.le_refl _
  | succ m ih =>
    by_cases e : k = m + 1
    · subst e; exact Nat.le_refl _
    · have := ih (by omega); simp only [sumL]; omega
theorem BytesAt.grown {w w' : World} {a : Option Addr} {n base : Nat} {z : Nat → Int} {v : Value} {k : Nat} {xs : List Value} (h : BytesAt w a n z) (hg : w.grownBy w' v.ownBlock) (ho : w.ownsRow base 5 1 v k xs) (hl : ∀ b off, a = some ⟨b, off, none⟩ → n = 0 ∨ b < base) : BytesAt w' a n z := by
  rcases h with h | ⟨b, off, rfl, hbl, hc⟩
  · exact .inl h
  · rcases hl b off rfl with h | h
    · exact .inl h
    · have hb := hg.block b hbl (fun e => by have := (ho.lt b e.symm).1; omega)
      exact .inr ⟨b, off, rfl, by have := hg.size; omega, fun i hi => (World.cell?_of_block (w := w) (a := ⟨b, _, none⟩) hb).trans (hc i hi)⟩
end Go.Proofs.Ytldnfiadafmomaa
