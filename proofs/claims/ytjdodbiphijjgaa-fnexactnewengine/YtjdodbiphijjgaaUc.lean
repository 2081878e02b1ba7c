/- Undos appended and joined. -/
import Derived.Test.YtjdodbiphijjgaaVi
import Derived.Test.YtjdodbiphijjgaaUb
namespace Go.Proofs.Ytjdodbiphijjgaa
open Go.RowKit Go.Deep
set_option linter.unusedVariables false
set_option maxRecDepth 20000

/-- Undos as cells. -/
def u4 (r : Ud) : List Value := [.int .i64 r.k, .bool r.h, .bool r.g, .int .i64 r.v]
def ub : List Ud → List Value
  | [] => []
  | r :: rs => u4 r ++ ub rs
theorem ub_len : ∀ xs, (ub xs).length = xs.length * 4
  | [] => rfl
  | r :: rs => by simp only [ub, List.length_append, ub_len rs, u4, List.length_cons, List.length_nil]; omega
theorem ub_app : ∀ xs ys, ub (xs ++ ys) = ub xs ++ ub ys
  | [], ys => rfl
  | r :: rs, ys => by simp only [ub, List.cons_append, ub_app rs ys, List.append_assoc]
theorem ub_get : ∀ (xs : List Ud) (i j : Nat) (r : Ud), xs[i]? = some r → j < 4 → (ub xs)[i * 4 + j]? = (u4 r)[j]?
  | [], i, j, r, h, _ => by simp at h
  | x :: xs, 0, j, r, h, hj => by
    simp only [List.getElem?_cons_zero, Option.some.injEq] at h
    subst h
    simp only [ub]
    rw [List.getElem?_append_left (by simp [u4]; omega)]
    congr 1; omega
  | x :: xs, i + 1, j, r, h, hj => by
    simp only [List.getElem?_cons_succ] at h
    simp only [ub]
    rw [List.getElem?_append_right (by simp [u4]; omega)]
    have := ub_get xs i j r h hj
    rw [← this]
    congr 1
    simp [u4]; omega
theorem ub_one : ∀ xs, ∀ u ∈ ub xs, u.oneCell' = true
  | [], u, h => by simp [ub] at h
  | r :: rs, u, h => by
    simp only [ub, List.mem_append] at h
    rcases h with h | h
    · simp [u4] at h
      rcases h with rfl | rfl | rfl | rfl <;> rfl
    · exact ub_one rs u h
/-- The first n of R, as a list. -/
def uL (R : Nat → Ud) (n : Nat) : List Ud := (List.range n).map R
theorem uL_len (R : Nat → Ud) (n : Nat) : (uL R n).length = n := by simp [uL]
theorem uL_get {R : Nat → Ud} {n i : Nat} (h : i < n) : (uL R n)[i]? = some (R i) := by simp [uL, h]
theorem ownU_of_row {w : World} {base n : Nat} {a : Option Addr} {cap : Nat} {xs : List Ud} (hl : xs.length = n) (h : w.ownsRow base 68 4 (.slice a n cap) n (ub xs)) : OwnU w base w.heap.size a n (fun i => xs.getD i zU) := by
  rcases h.2 with ⟨e, h0⟩ | ⟨g, cap', cur, e, hbg, hg, _⟩
  · exact ⟨Nat.le_refl _, .inl h0⟩
  · simp only [Value.slice.injEq, true_and] at e
    obtain ⟨rfl, rfl⟩ := e
    have hlt : g < w.heap.size := by
      obtain ⟨hlt, _⟩ := Array.getElem?_eq_some_iff.1 hg
      exact hlt
    refine ⟨Nat.le_refl _, .inr ⟨g, 0, rfl, hbg, hlt, fun i hi => ?_, fun i => h.frozenAt _⟩⟩
    obtain ⟨r, hr⟩ : ∃ r, xs[i]? = some r := ⟨xs[i]'(by omega), by simp [hl, hi]⟩
    have er : xs.getD i zU = r := by rw [List.getD_eq_getElem?_getD, hr]; rfl
    show CU w g (0 + i * 4) (xs.getD i zU)
    rw [er]
    have c : ∀ j v, j < 4 → (u4 r)[j]? = some v → w.cell? ⟨g, 0 + i * 4 + j, none⟩ = some v := fun j v hj hv => by
      rw [h.cellAt (0 + i * 4 + j) (by omega), show 0 + i * 4 + j = i * 4 + j by omega, ub_get xs i j r hr hj, hv]
    exact ⟨c 0 _ (by omega) rfl, c 1 _ (by omega) rfl, c 2 _ (by omega) rfl, c 3 _ (by omega) rfl⟩
theorem row_sliceU {w : World} {base n : Nat} {v : Value} {xs : List Value} (h : w.ownsRow base 68 4 v n xs) : ∃ a cap, v = .slice a n cap ∧ n ≤ cap := by
  rcases h.2 with ⟨rfl, h0⟩ | ⟨g, cap, cur, rfl, _, _, h9, _⟩
  · exact ⟨none, 0, by rw [h0], by omega⟩
  · exact ⟨_, cap, rfl, by omega⟩
theorem run_app_zeroU (w : World) (ty : TypeId) (ba : Option Addr) (n c : Nat) (xa : Option Addr) (xc : Nat) (h : n ≤ c) :
    (Builtin.append_ #[59, 59] ty #[.slice ba n c, .slice xa 0 xc]).run Try.prog w = .ok (.slice ba n c) w := by
  cases ba <;> cases xa <;> simp [Builtin.append_, go_sem, h, Builtin.firstCells, storeCells]
theorem wp_appU {o : Oper} {a : Act} {K : Act → World → Prop} {Q : Exit → Act → World → Prop} (w : World) (s x : Operand)
    (ho : o.op = .call { callee := .builtin .append, args := #[s, x], argTypes := #[59, 59] })
    (base : Nat) (v : Value) (xs : List Ud) (hs : a.eval s = v) (hown : w.ownsRow base 68 4 v xs.length (ub xs))
    (xa : Option Addr) (m c : Nat) (R : Nat → Ud) (hx : a.eval x = .slice xa m c) (hb : UndsAt w xa m R) (h63 : xs.length + m ≤ 100000) (hbase : base ≤ w.heap.size)
    (h : ∀ v' w', w'.ownsRow base 68 4 v' (xs ++ uL R m).length (ub (xs ++ uL R m)) → w.grownBy w' v.ownBlock → K (a.put o.dst v') w') : o.wp Try.prog a w K Q := by
  by_cases hm : m = 0
  · subst hm
    obtain ⟨ba, cap, rfl, hcap⟩ := row_sliceU hown
    have hr := run_app_zeroU w o.type ba xs.length cap xa c hcap
    unfold Oper.wp execOp
    simp only [ho, resolve, invoke, builtin, Sem.run_bind, Sem.run_pure, Result.andThen_ok, List.map_toArray, List.map_cons, List.map_nil, hs, hx, hr]
    refine h _ w ?_ (grown_refl _ _)
    have e : xs ++ uL R 0 = xs := by simp [uL]
    rw [e]
    exact hown
  · rcases hb with hb | ⟨b, off, rfl, hbl, hc⟩
    · exact absurd hb hm
    · obtain ⟨i0, hi, hz0, hz1, hz2⟩ := info_parts infoU
      refine wp_append_own w s x 59 ho base 68 i0 _ 4 24 Try.underlying59 hi hz0 hz1 hz2 rfl (by decide) v xs.length (ub xs) hs hown ⟨b, off, none⟩ m c (ub (uL R m)) hx (by rw [ub_len, uL_len]) (fun j u hj => ?_) (ub_one _) (by unfold maxLen; omega) (by omega) hbase fun v' w' h2 h3 _ => h v' w' ?_ h3
      · have hjl : j < m * 4 := by
          have := (List.getElem?_eq_some_iff.1 hj).1
          rwa [ub_len, uL_len] at this
        have hg := ub_get (uL R m) (j / 4) (j % 4) (R (j / 4)) (uL_get (by omega)) (by omega)
        rw [show j / 4 * 4 + j % 4 = j by omega, hj] at hg
        rw [WideShapes.add_plain]
        obtain ⟨c0, c1, c2, c3⟩ := hc (j / 4) (by omega)
        have hd : j % 4 = 0 ∨ j % 4 = 1 ∨ j % 4 = 2 ∨ j % 4 = 3 := by omega
        rcases hd with e | e | e | e
        · rw [e] at hg; rw [show off + j = off + j / 4 * 4 by omega, c0, hg]; rfl
        · rw [e] at hg; rw [show off + j = off + j / 4 * 4 + 1 by omega, c1, hg]; rfl
        · rw [e] at hg; rw [show off + j = off + j / 4 * 4 + 2 by omega, c2, hg]; rfl
        · rw [e] at hg; rw [show off + j = off + j / 4 * 4 + 3 by omega, c3, hg]; rfl
      · rw [List.length_append, uL_len, ub_app]
        exact h2
theorem wpList_appU {ops : Array Oper} {rest : List Oper} {o : Oper} {a : Act} {Q : Exit → Act → World → Prop} (w : World) (hgd : o.guard = none) (s x : Operand)
    (ho : o.op = .call { callee := .builtin .append, args := #[s, x], argTypes := #[59, 59] })
    (base : Nat) (v : Value) (xs : List Ud) (hs : a.eval s = v) (hown : w.ownsRow base 68 4 v xs.length (ub xs))
    (xa : Option Addr) (m c : Nat) (R : Nat → Ud) (hx : a.eval x = .slice xa m c) (hb : UndsAt w xa m R) (h63 : xs.length + m ≤ 100000) (hbase : base ≤ w.heap.size)
    (h : ∀ v' w', w'.ownsRow base 68 4 v' (xs ++ uL R m).length (ub (xs ++ uL R m)) → w.grownBy w' v.ownBlock → wpList Try.prog ops Q rest (a.put o.dst v') w') : wpList Try.prog ops Q (o :: rest) a w :=
  wpList_plain hgd fun _ hK => wp_appU w s x ho base v xs hs hown xa m c R hx hb h63 hbase fun v' w' h2 h3 => hK _ _ (h v' w' h2 h3)
theorem step_appU {ops : Array Oper} {o : Oper} {a : Act} {K : Act → World → Prop} {Q : Exit → Act → World → Prop} {E : Prop} (w : World) (hgd : o.guard = none) (s x : Operand)
    (ho : o.op = .call { callee := .builtin .append, args := #[s, x], argTypes := #[59, 59] })
    (base : Nat) (v : Value) (xs : List Ud) (hs : a.eval s = v) (hown : w.ownsRow base 68 4 v xs.length (ub xs))
    (xa : Option Addr) (m c : Nat) (R : Nat → Ud) (hx : a.eval x = .slice xa m c) (hb : UndsAt w xa m R) (h63 : xs.length + m ≤ 100000) (hbase : base ≤ w.heap.size)
    (h : ∀ v' w', w'.ownsRow base 68 4 v' (xs ++ uL R m).length (ub (xs ++ uL R m)) → w.grownBy w' v.ownBlock → K (a.put o.dst v') w') :
    if Region.wanted o (yielded ops a.tmps) = true then Oper.wp Try.prog o a w K Q else E := by
  have hw : Region.wanted o (yielded ops a.tmps) = true := by simp [Region.wanted, hgd]
  rw [if_pos hw]
  exact wp_appU w s x ho base v xs hs hown xa m c R hx hb h63 hbase h
/-- Undos of one's own, with all the room that the slice has. -/
def OwnUC (w : World) (lo hi : Nat) (a : Option Addr) (c n : Nat) (U : Nat → Ud) : Prop :=
  hi ≤ w.heap.size ∧ w.ownsRow lo 68 4 (.slice a n c) n (ub (uL U n)) ∧ ∀ q, (Value.slice a n c).ownBlock = some q → q < hi
theorem uL_congr {R S : Nat → Ud} {n : Nat} (e : ∀ i, i < n → R i = S i) : uL R n = uL S n :=
  List.map_congr_left fun i hi => e i (List.mem_range.1 hi)
theorem uL_self {xs : List Ud} {n : Nat} (h : xs.length = n) : uL (fun i => xs.getD i zU) n = xs := by
  subst h
  refine List.ext_getElem (uL_len _ _) fun i h1 h2 => ?_
  simp [uL, List.getD_eq_getElem?_getD, List.getElem?_eq_getElem h2]
theorem OwnUC.toU {w : World} {lo hi c n : Nat} {a : Option Addr} {U : Nat → Ud} (h : OwnUC w lo hi a c n U) : OwnU w lo hi a n U := by
  obtain ⟨h0, h1, h2⟩ := h
  have hz : ∀ i, i < n → (uL U n).getD i zU = U i := fun i hi => by rw [List.getD_eq_getElem?_getD, uL_get hi]; rfl
  obtain ⟨-, h9 | ⟨b, off, e, k1, k2, k3⟩⟩ := (ownU_of_row (uL_len U n) h1).congr hz
  · exact ⟨h0, .inl h9⟩
  · exact ⟨h0, .inr ⟨b, off, e, k1, h2 b (by rw [e]; rfl), k3⟩⟩
theorem OwnUC.congr {w : World} {lo hi c n : Nat} {a : Option Addr} {R S : Nat → Ud} (h : OwnUC w lo hi a c n R) (e : ∀ i, i < n → R i = S i) : OwnUC w lo hi a c n S := by
  unfold OwnUC
  rw [← uL_congr e]
  exact h
theorem OwnUC.keep {w w' : World} {lo hi c n : Nat} {a : Option Addr} {U : Nat → Ud} (h : OwnUC w lo hi a c n U) (hs : w.heap.size ≤ w'.heap.size) (hb : ∀ q, (Value.slice a n c).ownBlock = some q → w'.heap[q]? = w.heap[q]?) : OwnUC w' lo hi a c n U := by
  obtain ⟨h0, ⟨h1, h3⟩, h2⟩ := h
  refine ⟨Nat.le_trans h0 hs, ⟨h1, ?_⟩, h2⟩
  rcases h3 with h3 | ⟨g, cap, cur, e, k1, k2, k3⟩
  · exact .inl h3
  · exact .inr ⟨g, cap, cur, e, k1, (hb g (by rw [e]; rfl)).trans k2, k3⟩
theorem OwnUC.writes {w w' : World} {lo hi lo' hi' c n : Nat} {a : Option Addr} {U : Nat → Ud} (h : OwnUC w lo hi a c n U) (hw : Writes lo' hi' w w') (hd : hi ≤ lo' ∨ hi' ≤ lo) : OwnUC w' lo hi a c n U :=
  h.keep hw.size fun q hq => hw.block q (by have := h.2.2 q hq; have := h.1; omega) (by have h1 := h.2.2 q hq; have h2 := (h.2.1.lt q hq).1; omega)
theorem OwnUC.below {w w' : World} {lo hi c n : Nat} {a : Option Addr} {U : Nat → Ud} (h : OwnUC w lo hi a c n U) (hb : Below w.heap.size w w') : OwnUC w' lo hi a c n U :=
  h.writes (Writes.of_below (lo := hi) (hi := hi) hb) (.inl (Nat.le_refl _))
theorem OwnUC.wide {w : World} {lo hi lo' hi' c n : Nat} {a : Option Addr} {U : Nat → Ud} (h : OwnUC w lo hi a c n U) (h1 : lo' ≤ lo) (h2 : hi ≤ hi') (h3 : hi' ≤ w.heap.size) : OwnUC w lo' hi' a c n U := by
  obtain ⟨k0, ⟨k1, k3⟩, k2⟩ := h
  refine ⟨h3, ⟨k1, ?_⟩, fun q hq => Nat.lt_of_lt_of_le (k2 q hq) h2⟩
  rcases k3 with k3 | ⟨g, cap, cur, e, m1, m2⟩
  · exact .inl k3
  · exact .inr ⟨g, cap, cur, e, Nat.le_trans h1 m1, m2⟩
theorem ownUC_of_row {w : World} {base n : Nat} {a : Option Addr} {cap : Nat} {xs : List Ud} (hl : xs.length = n) (h : w.ownsRow base 68 4 (.slice a n cap) n (ub xs)) : OwnUC w base w.heap.size a cap n (fun i => xs.getD i zU) :=
  ⟨Nat.le_refl _, by rw [uL_self hl]; exact h, fun q hq => (h.lt q hq).2⟩
/-- An answer that is versions, of the call's own. -/
def UAns (m : Nat) (S : Nat → Ud) (w : World) (e : Ending) (w' : World) : Prop := ∃ a cap, e = .returned (.slice a m cap) ∧ Below w.heap.size w w' ∧ OwnUC w' w.heap.size w'.heap.size a cap m S ∧ m ≤ cap
theorem UAns.of {w w' : World} {v : Value} {xs : List Ud} {base : Nat} (hb : Below w.heap.size w w') (hl : w.heap.size ≤ base) (h : w'.ownsRow base 68 4 v xs.length (ub xs)) : UAns xs.length (fun i => xs.getD i zU) w (.returned v) w' := by
  obtain ⟨a, cap, rfl, hcap⟩ := row_sliceU h
  exact ⟨a, cap, rfl, hb, (ownUC_of_row rfl h).wide hl (Nat.le_refl _) (Nat.le_refl _), hcap⟩
theorem uL_getD {R : Nat → Ud} {n i : Nat} (h : i < n) : (uL R n).getD i zU = R i := by rw [List.getD_eq_getElem?_getD, uL_get h]; rfl
/-- Pieces joined, the first k of them. -/
def ju (N : Nat → Nat) (Z : Nat → Nat → Ud) : Nat → List Ud
  | 0 => []
  | k + 1 => ju N Z k ++ uL (Z k) (N k)
theorem ju_len (N : Nat → Nat) (Z : Nat → Nat → Ud) : ∀ k, (∀ i, i < k → N i ≤ 100) → (ju N Z k).length ≤ k * 100
  | 0, _ => by simp [ju]
  | k + 1, h => by
    have h1 := ju_len N Z k (fun i hi => h i (by omega))
    have h2 := h k (by omega)
    simp only [ju, List.length_append, uL_len]; omega
end Go.Proofs.Ytjdodbiphijjgaa
