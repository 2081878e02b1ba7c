/- ChainBack: what it answers; lists of numbers in blocks of their own, two of them; spec.l1Has, spec.l3Back. -/
import Derived.Test.YtppckjecidcflaaIj
namespace Go.Proofs.Ytppckjecidcflaa
open Go.RowKit Go.Deep
set_option linter.unusedVariables false
set_option maxRecDepth 20000

/-- What is undone, by the last j records. -/
def gnL (R : Nat → Rc) (txn : Int) (n : Nat) : Nat → List Int
  | 0 => []
  | j + 1 => if (R (n - 1 - j)).t = txn ∧ (R (n - 1 - j)).k = 5 then gnL R txn n j ++ [(R (n - 1 - j)).bk] else gnL R txn n j
/-- The puts that are left, by the last j records. -/
def bkL (R : Nat → Rc) (txn : Int) (n : Nat) : Nat → List Int
  | 0 => []
  | j + 1 => if (R (n - 1 - j)).t = txn ∧ (R (n - 1 - j)).k = 2 ∧ ((n - j : Nat) : Int) ∉ gnL R txn n j then bkL R txn n j ++ [((n - j : Nat) : Int)] else bkL R txn n j
theorem gnL_len (R : Nat → Rc) (txn : Int) (n : Nat) : ∀ j, (gnL R txn n j).length ≤ j
  | 0 => Nat.le_refl _
  | j + 1 => by
    have := gnL_len R txn n j
    simp only [gnL]
    split
    · simp; omega
    · omega
theorem bkL_len (R : Nat → Rc) (txn : Int) (n : Nat) : ∀ j, (bkL R txn n j).length ≤ j
  | 0 => Nat.le_refl _
  | j + 1 => by
    have := bkL_len R txn n j
    simp only [bkL]
    split
    · simp; omega
    · omega
theorem l1Has_any (zs : List Int) (a : Option Addr) (cap : Nat) (v : Int) (w : World) (hn : zs.length ≤ 100000) (h : IntsAt w a zs.length (zI zs)) :
    Calls Try.prog 65 #[.slice a zs.length cap, .int .i64 v] w fun e w' => e = .returned (.bool (decide (v ∈ zs))) ∧ w' = w := by
  have HA : Hid (IntsAt w a zs.length (zI zs)) := h
  clear h
  go_enter Try.func65, Try.ntmps65
  go_wp2_with fail
  go_loop [5] (fun i => ∃ k : Nat, k ≤ zs.length ∧ i = .int .i64 k ∧ Hid (∀ j, j < k → zI zs j ≠ v)) (fun i => zs.length - (intOf i).toNat)
  case atStart => exact ⟨0, Nat.zero_le _, rfl, fun j hj => by omega⟩
  case round =>
    obtain ⟨k, hk, rfl, HN⟩ := hrel
    by_cases hlt : k < zs.length
    · have hlt' : (k : Int) < (zs.length : Int) := by omega
      have hk0 : (0 : Int) ≤ (k : Int) := by omega
      rcases HA.out with h | ⟨b, off, rfl, hl, hc⟩
      · omega
      have hx := hc k hlt
      clear hc
      by_cases he : zI zs k = v
      · have HM : Hid (decide (v ∈ zs) = true) := by
          refine decide_eq_true ?_
          rw [← he]
          unfold zI
          rw [List.getD_eq_getElem?_getD, List.getElem?_eq_getElem hlt]
          exact List.getElem_mem hlt
        have he2 : (zI zs k == v) = true := by simp [he]
        generalize zI zs k = zk at *
        clear he
        go_wp2_with fail
        go_ret
        exact ⟨ret_bool HM.out.symm, rfl⟩
      · have HN2 : Hid (∀ j, j < k + 1 → zI zs j ≠ v) := fun j hj => by
          by_cases e : j = k
          · subst e; exact he
          · exact HN.out j (by omega)
        have he2 : (zI zs k == v) = false := by simp [he]
        generalize zI zs k = zk at *
        clear he
        go_wp2_with fail
        go_round
        case rel => exact ⟨k + 1, hlt, by go_num, HN2⟩
        case measure => simp [intOf]; omega
    · have hkn : k = zs.length := by omega
      have hnl : ¬ ((k : Int) < (zs.length : Int)) := by omega
      have HM : Hid (decide (v ∈ zs) = false) := by
        refine decide_eq_false fun hm => ?_
        obtain ⟨i, hi, e⟩ := List.mem_iff_getElem.1 hm
        refine HN.out i (by omega) ?_
        unfold zI
        rw [List.getD_eq_getElem?_getD, List.getElem?_eq_getElem hi]
        exact e
      go_wp2_with fail
      go_ret
      exact ⟨ret_bool HM.out.symm, rfl⟩
theorem wp_appIL {o : Oper} {a : Act} {Kc : Act → World → Prop} {Q : Exit → Act → World → Prop} (w : World) (s x : Operand)
    (ho : o.op = .call { callee := .builtin .append, args := #[s, x], argTypes := #[42, 42] })
    (base : Nat) (v : Value) (zs : List Int) (hs : a.eval s = v) (hown : w.ownsRow base 2 1 v zs.length (il zs)) (X O cx : Nat) (z : Int) (hx : a.eval x = .slice (some ⟨X, O, none⟩) 1 cx) (hc : w.cell? ⟨X, O, none⟩ = some (.int .i64 z)) (hb : base ≤ w.heap.size) (hl : zs.length ≤ 100000)
    (hK : ∀ g cap w', w'.ownsRow base 2 1 (.slice (some ⟨g, 0, none⟩) (zs ++ [z]).length cap) (zs ++ [z]).length (il (zs ++ [z])) → w.grownBy w' v.ownBlock → (v.ownBlock = some g ∨ g = w.heap.size) → g < w'.heap.size → Kc (a.put o.dst (.slice (some ⟨g, 0, none⟩) (zs ++ [z]).length cap)) w') : o.wp Try.prog a w Kc Q := by
  obtain ⟨i0, hi, hzz⟩ := Option.map_eq_some_iff.1 info2
  simp only [Prod.mk.injEq] at hzz
  obtain ⟨hz0, hz1, hz2⟩ := hzz
  refine wp_append_lies w s x 42 ho base 2 i0 _ 1 8 Try.underlying42 hi hz0 hz1 hz2 rfl (by decide) v zs.length (il zs) hs hown ⟨X, O, none⟩ 1 cx [.int .i64 z] hx rfl (fun j u hj => ?_) (one_i64 _) (by decide) (by unfold maxLen; omega) (by omega) hb _ rfl fun g cap w' h2 h3 h4 h5 => ?_
  · have : j = 0 := by have := (List.getElem?_eq_some_iff.1 hj).1; simpa using this
    subst this
    rw [WideShapes.add_plain, Nat.add_zero, hc, ← hj]; rfl
  · have e : (zs ++ [z]).length = zs.length + 1 := by simp
    have hk := hK g cap w'
    rw [e, il_app] at hk
    exact hk h2 h3 h4 h5
theorem wpList_appIL {ops : Array Oper} {rest : List Oper} {o : Oper} {a : Act} {Q : Exit → Act → World → Prop} (w : World) (hgd : o.guard = none) (s x : Operand)
    (ho : o.op = .call { callee := .builtin .append, args := #[s, x], argTypes := #[42, 42] })
    (base : Nat) (v : Value) (zs : List Int) (hs : a.eval s = v) (hown : w.ownsRow base 2 1 v zs.length (il zs)) (X O cx : Nat) (z : Int) (hx : a.eval x = .slice (some ⟨X, O, none⟩) 1 cx) (hc : w.cell? ⟨X, O, none⟩ = some (.int .i64 z)) (hb : base ≤ w.heap.size) (hl : zs.length ≤ 100000)
    (hK : ∀ g cap w', w'.ownsRow base 2 1 (.slice (some ⟨g, 0, none⟩) (zs ++ [z]).length cap) (zs ++ [z]).length (il (zs ++ [z])) → w.grownBy w' v.ownBlock → (v.ownBlock = some g ∨ g = w.heap.size) → g < w'.heap.size → wpList Try.prog ops Q rest (a.put o.dst (.slice (some ⟨g, 0, none⟩) (zs ++ [z]).length cap)) w') : wpList Try.prog ops Q (o :: rest) a w :=
  wpList_plain hgd fun _ hKK => wp_appIL w s x ho base v zs hs hown X O cx z hx hc hb hl fun g cap w' h2 h3 h4 h5 => hKK _ _ (hK g cap w' h2 h3 h4 h5)
/-- Two lists of numbers in blocks of their own, from m on. -/
def TwoI (m : Nat) (w : World) (v1 v2 : Value) (xs ys : List Int) : Prop :=
  w.ownsRow m 2 1 v1 xs.length (il xs) ∧ w.ownsRow m 2 1 v2 ys.length (il ys) ∧ ∀ q, v1.ownBlock = some q → v2.ownBlock ≠ some q
theorem ownI_keep {w w' : World} {base n s : Nat} {e : TypeId} {v : Value} {xs : List Value} (h : w.ownsRow base e s v n xs) (hb : ∀ q, v.ownBlock = some q → w'.heap[q]? = w.heap[q]?) : w'.ownsRow base e s v n xs := by
  obtain ⟨h1, h2 | ⟨g, cap, cur, rfl, k1, k2, k3⟩⟩ := h
  · exact ⟨h1, .inl h2⟩
  · exact ⟨h1, .inr ⟨g, cap, cur, rfl, k1, (hb g rfl).trans k2, k3⟩⟩
theorem ownI_lt {w : World} {base n s : Nat} {e : TypeId} {v : Value} {xs : List Value} (h : w.ownsRow base e s v n xs) : ∀ q, v.ownBlock = some q → base ≤ q ∧ q < w.heap.size := by
  intro q hq
  obtain ⟨h1, ⟨rfl, _⟩ | ⟨g, cap, cur, rfl, k1, k2, k3⟩⟩ := h
  · simp [Value.ownBlock] at hq
  · simp only [Value.ownBlock, Option.some.injEq] at hq
    subst hq
    exact ⟨k1, (Array.getElem?_eq_some_iff.1 k2).1⟩
theorem TwoI.below {m : Nat} {w w' : World} {v1 v2 : Value} {xs ys : List Int} (h : TwoI m w v1 v2 xs ys) (hb : Below w.heap.size w w') : TwoI m w' v1 v2 xs ys :=
  ⟨ownI_keep h.1 fun q hq => hb.block q (ownI_lt h.1 q hq).2, ownI_keep h.2.1 fun q hq => hb.block q (ownI_lt h.2.1 q hq).2, h.2.2⟩
/-- The first list has grown, or the second. -/
theorem TwoI.grow1 {m g c : Nat} {w w' : World} {v1 v2 : Value} {xs ys zs : List Int} (h : TwoI m w v1 v2 xs ys) (hg : w.grownBy w' v1.ownBlock) (ho : w'.ownsRow m 2 1 (.slice (some ⟨g, 0, none⟩) zs.length c) zs.length (il zs)) (hl : v1.ownBlock = some g ∨ g = w.heap.size) : TwoI m w' (.slice (some ⟨g, 0, none⟩) zs.length c) v2 zs ys := by
  refine ⟨ho, ownI_keep h.2.1 fun q hq => ?_, fun q hq hq2 => ?_⟩
  · exact hg.block q (ownI_lt h.2.1 q hq).2 fun e => h.2.2 q e.symm hq
  · simp only [Value.ownBlock, Option.some.injEq] at hq
    subst hq
    rcases hl with h1 | h1
    · exact h.2.2 g h1 hq2
    · have := (ownI_lt h.2.1 g hq2).2; omega
theorem TwoI.grow2 {m g c : Nat} {w w' : World} {v1 v2 : Value} {xs ys zs : List Int} (h : TwoI m w v1 v2 xs ys) (hg : w.grownBy w' v2.ownBlock) (ho : w'.ownsRow m 2 1 (.slice (some ⟨g, 0, none⟩) zs.length c) zs.length (il zs)) (hl : v2.ownBlock = some g ∨ g = w.heap.size) : TwoI m w' v1 (.slice (some ⟨g, 0, none⟩) zs.length c) xs zs := by
  refine ⟨ownI_keep h.1 fun q hq => ?_, ho, fun q hq hq2 => ?_⟩
  · exact hg.block q (ownI_lt h.1 q hq).2 fun e => h.2.2 q hq e.symm
  · simp only [Value.ownBlock, Option.some.injEq] at hq2
    subst hq2
    rcases hl with h1 | h1
    · exact h.2.2 g hq h1
    · have := (ownI_lt h.1 g hq).2; omega
end Go.Proofs.Ytppckjecidcflaa
