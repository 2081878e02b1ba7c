/- The model cuts a line: l15Cut, l15Words. -/
import Derived.Test.YtfipdkhbehfohaaDoorYsc
import Derived.Test.YtfipdkhbehfohaaDoorBox
namespace Go.Proofs.YtfipdkhbehfohaaDoor
open Go.RowKit Go.Deep
set_option linter.unusedVariables false
set_option maxRecDepth 20000

theorem wpList_appS {ops : Array Oper} {rest : List Oper} {o : Oper} {a : Act} {Q : Exit → Act → World → Prop} (w : World) (hgd : o.guard = none) (s x : Operand)
    (ho : o.op = .call { callee := .builtin .append, args := #[s, x], argTypes := #[42, 42] })
    (base : Nat) (v : Value) (L : List ByteArray) (hs : a.eval s = v) (hown : w.ownsRow base 9 1 v L.length (svl L)) (b : Nat) (y : ByteArray) (hx : a.eval x = .slice (some ⟨b, 0, none⟩) 1 1)
    (hc : w.cell? ⟨b, 0, none⟩ = some (.string y)) (hl : L.length ≤ 2000000) (hbase : base ≤ w.heap.size)
    (h : ∀ v' w', w'.ownsRow base 9 1 v' (L ++ [y]).length (svl (L ++ [y])) → w.grownBy w' v.ownBlock → (∀ q, v'.ownBlock = some q → v.ownBlock = some q ∨ q = w.heap.size) → wpList Tryd.prog ops Q rest (a.put o.dst v') w') : wpList Tryd.prog ops Q (o :: rest) a w := by
  obtain ⟨i0, hi, hz0, hz1, hz2⟩ := info_partsY info9
  refine wpList_plain hgd fun _ hK => wp_append_lies w s x 42 ho base 9 i0 _ 1 16 Tryd.underlying42 hi hz0 hz1 hz2 rfl (by decide) v L.length (svl L) hs hown ⟨b, 0, none⟩ 1 1 [.string y] hx rfl ?_ (one_str _) (by omega) (by unfold maxLen; omega) (by omega) hbase _ rfl fun g cap w' h2 h3 h4 h5 => hK _ _ (h _ w' ?_ h3 fun q hq => ?_)
  · intro j u hj
    cases j with
    | zero => simp at hj; subst hj; rw [WideShapes.add_plain]; exact hc
    | succ j => simp at hj
  · rw [svl_app, List.length_append]
    exact h2
  · simp only [Value.ownBlock, Option.some.injEq] at hq
    subst hq
    exact h4
theorem cell_lit (w : World) (y : Value) (t : TypeId) : (w.alloc (.cells #[y] t)).cell? ⟨w.heap.size, 0, none⟩ = some y := by simp
theorem own_litS (w : World) : (w.alloc (.cells #[] 9)).ownsRow w.heap.size 9 1 (.slice (some ⟨w.heap.size, 0, none⟩) 0 0) ([] : List ByteArray).length (svl []) :=
  World.ownsRow_made w #[] (e := 9) (size := 1) (base := w.heap.size) 0 (Nat.le_refl _) (by unfold maxLen; omega) rfl
theorem pc_pos (s : ByteArray) (c : Int) : ∀ k f i, 1 ≤ (pc s c k f i).length
  | 0, f, i => by simp [pc]
  | k + 1, f, i => by
    simp only [pc]
    split
    · simp
    · exact pc_pos s c k f (i + 1)
theorem take_snoc (P : List ByteArray) {k : Nat} (hk : k < P.length) : P.take (k + 1) = P.take k ++ [sg P k] := by
  have e : sg P k = P[k] := by simp only [sg, List.getD, List.getElem?_eq_getElem hk, Option.getD_some]
  rw [e, List.take_append_getElem hk]
theorem fe_snoc_yes {P : List ByteArray} {k : Nat} (hk : k < P.length) (h : (sg P k).size ≠ 0) : fe (P.take (k + 1)) = fe (P.take k) ++ [sg P k] := by
  have hd : decide ((sg P k).size ≠ 0) = true := decide_eq_true h
  rw [take_snoc P hk]
  simp only [fe, List.filter_append, List.filter_cons, hd, if_true, List.filter_nil]
theorem fe_snoc_no {P : List ByteArray} {k : Nat} (hk : k < P.length) (h : (sg P k).size = 0) : fe (P.take (k + 1)) = fe (P.take k) := by
  have hd : decide ((sg P k).size ≠ 0) = false := decide_eq_false (by omega)
  rw [take_snoc P hk]
  simp only [fe, List.filter_append, List.filter_cons, hd, Bool.false_eq_true, if_false, List.filter_nil, List.append_nil]
theorem empty_iff (x : ByteArray) : x = ByteArray.empty ↔ x.size = 0 := by
  constructor
  · intro h; rw [h]; rfl
  · intro h; exact ByteArray.size_eq_zero_iff.1 h
theorem own_belowS {W wq : World} {B n s : Nat} {e : TypeId} {v : Value} {xs : List Value} (h : W.ownsRow B e s v n xs) (hb : Below W.heap.size W wq) : wq.ownsRow B e s v n xs := by
  obtain ⟨h1, h2 | ⟨g, cap, cur, rfl, k1, k2, k3⟩⟩ := h
  · exact ⟨h1, .inl h2⟩
  · refine ⟨h1, .inr ⟨g, cap, cur, rfl, k1, ?_, k3⟩⟩
    have hlt : g < W.heap.size := (Array.getElem?_eq_some_iff.1 k2).1
    exact (hb.block _ hlt).trans k2
end Go.Proofs.YtfipdkhbehfohaaDoor
