/- Versions appended to a row of the call's own, whatever slice they lie in; impl.joined, spec.l5Copy. -/
import Derived.Test.YtjdodbiphijjgaaVh
import Derived.Laws.AppendOwn
import Derived.OwnWalk
namespace Go.Proofs.Ytjdodbiphijjgaa
open Go.RowKit Go.Deep
set_option linter.unusedVariables false
set_option maxRecDepth 20000

/-- Versions as cells. -/
def v4 (r : Vr) : List Value := [.int .i64 r.t, .int .i64 r.a, .bool r.g, .int .i64 r.v]
def vb : List Vr → List Value
  | [] => []
  | r :: rs => v4 r ++ vb rs
theorem vb_len : ∀ xs, (vb xs).length = xs.length * 4
  | [] => rfl
  | r :: rs => by simp only [vb, List.length_append, vb_len rs, v4, List.length_cons, List.length_nil]; omega
theorem vb_app : ∀ xs ys, vb (xs ++ ys) = vb xs ++ vb ys
  | [], ys => rfl
  | r :: rs, ys => by simp only [vb, List.cons_append, vb_app rs ys, List.append_assoc]
theorem vb_get : ∀ (xs : List Vr) (i j : Nat) (r : Vr), xs[i]? = some r → j < 4 → (vb xs)[i * 4 + j]? = (v4 r)[j]?
  | [], i, j, r, h, _ => by simp at h
  | x :: xs, 0, j, r, h, hj => by
    simp only [List.getElem?_cons_zero, Option.some.injEq] at h
    subst h
    simp only [vb]
    rw [List.getElem?_append_left (by simp [v4]; omega)]
    congr 1; omega
  | x :: xs, i + 1, j, r, h, hj => by
    simp only [List.getElem?_cons_succ] at h
    simp only [vb]
    rw [List.getElem?_append_right (by simp [v4]; omega)]
    have := vb_get xs i j r h hj
    rw [← this]
    congr 1
    simp [v4]; omega
theorem vb_one : ∀ xs, ∀ u ∈ vb xs, u.oneCell' = true
  | [], u, h => by simp [vb] at h
  | r :: rs, u, h => by
    simp only [vb, List.mem_append] at h
    rcases h with h | h
    · simp [v4] at h
      rcases h with rfl | rfl | rfl | rfl <;> rfl
    · exact vb_one rs u h
/-- The first n of R, as a list. -/
def vL (R : Nat → Vr) (n : Nat) : List Vr := (List.range n).map R
theorem vL_len (R : Nat → Vr) (n : Nat) : (vL R n).length = n := by simp [vL]
theorem vL_get {R : Nat → Vr} {n i : Nat} (h : i < n) : (vL R n)[i]? = some (R i) := by simp [vL, h]
theorem own4_of_row {w : World} {base n : Nat} {a : Option Addr} {cap : Nat} {xs : List Vr} (hl : xs.length = n) (h : w.ownsRow base 43 4 (.slice a n cap) n (vb xs)) : Own4 w base w.heap.size a n (fun i => xs.getD i zV) := by
  rcases h.2 with ⟨e, h0⟩ | ⟨g, cap', cur, e, hbg, hg, _⟩
  · exact ⟨Nat.le_refl _, .inl h0⟩
  · simp only [Value.slice.injEq, true_and] at e
    obtain ⟨rfl, rfl⟩ := e
    have hlt : g < w.heap.size := by
      obtain ⟨hlt, _⟩ := Array.getElem?_eq_some_iff.1 hg
      exact hlt
    refine ⟨Nat.le_refl _, .inr ⟨g, 0, rfl, hbg, hlt, fun i hi => ?_, fun i => h.frozenAt _⟩⟩
    obtain ⟨r, hr⟩ : ∃ r, xs[i]? = some r := ⟨xs[i]'(by omega), by simp [hl, hi]⟩
    have er : xs.getD i zV = r := by rw [List.getD_eq_getElem?_getD, hr]; rfl
    show C4 w g (0 + i * 4) (xs.getD i zV)
    rw [er]
    have c : ∀ j v, j < 4 → (v4 r)[j]? = some v → w.cell? ⟨g, 0 + i * 4 + j, none⟩ = some v := fun j v hj hv => by
      rw [h.cellAt (0 + i * 4 + j) (by omega), show 0 + i * 4 + j = i * 4 + j by omega, vb_get xs i j r hr hj, hv]
    exact ⟨c 0 _ (by omega) rfl, c 1 _ (by omega) rfl, c 2 _ (by omega) rfl, c 3 _ (by omega) rfl⟩
theorem row_slice {w : World} {base n : Nat} {v : Value} {xs : List Value} (h : w.ownsRow base 43 4 v n xs) : ∃ a cap, v = .slice a n cap ∧ n ≤ cap := by
  rcases h.2 with ⟨rfl, h0⟩ | ⟨g, cap, cur, rfl, _, _, h9, _⟩
  · exact ⟨none, 0, by rw [h0], by omega⟩
  · exact ⟨_, cap, rfl, by omega⟩
theorem run_app_zeroV (w : World) (ty : TypeId) (ba : Option Addr) (n c : Nat) (xa : Option Addr) (xc : Nat) (h : n ≤ c) :
    (Builtin.append_ #[44, 44] ty #[.slice ba n c, .slice xa 0 xc]).run Try.prog w = .ok (.slice ba n c) w := by
  cases ba <;> cases xa <;> simp [Builtin.append_, go_sem, h, Builtin.firstCells, storeCells]
theorem grown_refl (w : World) (r : Option Nat) : w.grownBy w r := ⟨rfl, rfl, rfl, Nat.le_refl _, fun _ _ _ => rfl⟩
theorem wp_appV {o : Oper} {a : Act} {K : Act → World → Prop} {Q : Exit → Act → World → Prop} (w : World) (s x : Operand)
    (ho : o.op = .call { callee := .builtin .append, args := #[s, x], argTypes := #[44, 44] })
    (base : Nat) (v : Value) (xs : List Vr) (hs : a.eval s = v) (hown : w.ownsRow base 43 4 v xs.length (vb xs))
    (xa : Option Addr) (m c : Nat) (R : Nat → Vr) (hx : a.eval x = .slice xa m c) (hb : VersAt w xa m R) (h63 : xs.length + m ≤ 100000) (hbase : base ≤ w.heap.size)
    (h : ∀ v' w', w'.ownsRow base 43 4 v' (xs ++ vL R m).length (vb (xs ++ vL R m)) → w.grownBy w' v.ownBlock → K (a.put o.dst v') w') : o.wp Try.prog a w K Q := by
  by_cases hm : m = 0
  · subst hm
    obtain ⟨ba, cap, rfl, hcap⟩ := row_slice hown
    have hr := run_app_zeroV w o.type ba xs.length cap xa c hcap
    unfold Oper.wp execOp
    simp only [ho, resolve, invoke, builtin, Sem.run_bind, Sem.run_pure, Result.andThen_ok, List.map_toArray, List.map_cons, List.map_nil, hs, hx, hr]
    refine h _ w ?_ (grown_refl _ _)
    have e : xs ++ vL R 0 = xs := by simp [vL]
    rw [e]
    exact hown
  · rcases hb with hb | ⟨b, off, rfl, hbl, hc⟩
    · exact absurd hb hm
    · obtain ⟨i0, hi, hz0, hz1, hz2⟩ := info_parts infoV
      refine wp_append_own w s x 44 ho base 43 i0 _ 4 32 Try.underlying44 hi hz0 hz1 hz2 rfl (by decide) v xs.length (vb xs) hs hown ⟨b, off, none⟩ m c (vb (vL R m)) hx (by rw [vb_len, vL_len]) (fun j u hj => ?_) (vb_one _) (by unfold maxLen; omega) (by omega) hbase fun v' w' h2 h3 _ => h v' w' ?_ h3
      · have hjl : j < m * 4 := by
          have := (List.getElem?_eq_some_iff.1 hj).1
          rwa [vb_len, vL_len] at this
        have hg := vb_get (vL R m) (j / 4) (j % 4) (R (j / 4)) (vL_get (by omega)) (by omega)
        rw [show j / 4 * 4 + j % 4 = j by omega, hj] at hg
        rw [WideShapes.add_plain]
        obtain ⟨c0, c1, c2, c3⟩ := hc (j / 4) (by omega)
        have hd : j % 4 = 0 ∨ j % 4 = 1 ∨ j % 4 = 2 ∨ j % 4 = 3 := by omega
        rcases hd with e | e | e | e
        · rw [e] at hg; rw [show off + j = off + j / 4 * 4 by omega, c0, hg]; rfl
        · rw [e] at hg; rw [show off + j = off + j / 4 * 4 + 1 by omega, c1, hg]; rfl
        · rw [e] at hg; rw [show off + j = off + j / 4 * 4 + 2 by omega, c2, hg]; rfl
        · rw [e] at hg; rw [show off + j = off + j / 4 * 4 + 3 by omega, c3, hg]; rfl
      · rw [List.length_append, vL_len, vb_app]
        exact h2
theorem wpList_appV {ops : Array Oper} {rest : List Oper} {o : Oper} {a : Act} {Q : Exit → Act → World → Prop} (w : World) (hgd : o.guard = none) (s x : Operand)
    (ho : o.op = .call { callee := .builtin .append, args := #[s, x], argTypes := #[44, 44] })
    (base : Nat) (v : Value) (xs : List Vr) (hs : a.eval s = v) (hown : w.ownsRow base 43 4 v xs.length (vb xs))
    (xa : Option Addr) (m c : Nat) (R : Nat → Vr) (hx : a.eval x = .slice xa m c) (hb : VersAt w xa m R) (h63 : xs.length + m ≤ 100000) (hbase : base ≤ w.heap.size)
    (h : ∀ v' w', w'.ownsRow base 43 4 v' (xs ++ vL R m).length (vb (xs ++ vL R m)) → w.grownBy w' v.ownBlock → wpList Try.prog ops Q rest (a.put o.dst v') w') : wpList Try.prog ops Q (o :: rest) a w :=
  wpList_plain hgd fun _ hK => wp_appV w s x ho base v xs hs hown xa m c R hx hb h63 hbase fun v' w' h2 h3 => hK _ _ (h v' w' h2 h3)
theorem step_appV {ops : Array Oper} {o : Oper} {a : Act} {K : Act → World → Prop} {Q : Exit → Act → World → Prop} {E : Prop} (w : World) (hgd : o.guard = none) (s x : Operand)
    (ho : o.op = .call { callee := .builtin .append, args := #[s, x], argTypes := #[44, 44] })
    (base : Nat) (v : Value) (xs : List Vr) (hs : a.eval s = v) (hown : w.ownsRow base 43 4 v xs.length (vb xs))
    (xa : Option Addr) (m c : Nat) (R : Nat → Vr) (hx : a.eval x = .slice xa m c) (hb : VersAt w xa m R) (h63 : xs.length + m ≤ 100000) (hbase : base ≤ w.heap.size)
    (h : ∀ v' w', w'.ownsRow base 43 4 v' (xs ++ vL R m).length (vb (xs ++ vL R m)) → w.grownBy w' v.ownBlock → K (a.put o.dst v') w') :
    if Region.wanted o (yielded ops a.tmps) = true then Oper.wp Try.prog o a w K Q else E := by
  have hw : Region.wanted o (yielded ops a.tmps) = true := by simp [Region.wanted, hgd]
  rw [if_pos hw]
  exact wp_appV w s x ho base v xs hs hown xa m c R hx hb h63 hbase h
/-- An answer that is versions, of the call's own. -/
def VAns (m : Nat) (S : Nat → Vr) (w : World) (e : Ending) (w' : World) : Prop := ∃ a cap, e = .returned (.slice a m cap) ∧ Below w.heap.size w w' ∧ Own4 w' w.heap.size w'.heap.size a m S
theorem VAns.of {w w' : World} {v : Value} {xs : List Vr} {base : Nat} (hb : Below w.heap.size w w') (hl : w.heap.size ≤ base) (h : w'.ownsRow base 43 4 v xs.length (vb xs)) : VAns xs.length (fun i => xs.getD i zV) w (.returned v) w' := by
  obtain ⟨a, cap, rfl, _⟩ := row_slice h
  exact ⟨a, cap, rfl, hb, (own4_of_row rfl h).wide hl (Nat.le_refl _) (Nat.le_refl _)⟩
theorem vL_getD {R : Nat → Vr} {n i : Nat} (h : i < n) : (vL R n).getD i zV = R i := by rw [List.getD_eq_getElem?_getD, vL_get h]; rfl
/-- Pieces joined, the first k of them. -/
def jv (N : Nat → Nat) (Z : Nat → Nat → Vr) : Nat → List Vr
  | 0 => []
  | k + 1 => jv N Z k ++ vL (Z k) (N k)
theorem jv_len (N : Nat → Nat) (Z : Nat → Nat → Vr) : ∀ k, (∀ i, i < k → N i ≤ 100) → (jv N Z k).length ≤ k * 100
  | 0, _ => by simp [jv]
  | k + 1, h => by
    have h1 := jv_len N Z k (fun i hi => h i (by omega))
    have h2 := h k (by omega)
    simp only [jv, List.length_append, vL_len]; omega
end Go.Proofs.Ytjdodbiphijjgaa
