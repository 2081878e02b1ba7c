/- The keys of a map of rows or of transactions, sorted. -/
import Derived.Test.YtnhlcadipkmhhaaGreatQBase
import Derived.Maps.Own
import Derived.Maps.OwnOps
import Derived.Maps.OwnSet
import Derived.Maps.Views
import Derived.Maps.RangeWalk
import Derived.Lib.SlKeysI
import Derived.Test.YtnhlcadipkmhhaaGreatQEgr
import Derived.Test.YtnhlcadipkmhhaaGreatSho
import Derived.Shelf.SlIterI.Sorted
namespace Go.Proofs.YtnhlcadipkmhhaaGreat
open Go.RowKit Go.Deep Go.Maps
set_option linter.unusedVariables false
set_option maxRecDepth 20000
open Go.ChangeShapes Go.WideShapes Go.ChangeAt Go.RowKit Go.Deep Go.Joins
open Go.RowKit Go.Maps Go.Sort Go.Shelf

/-- An element is told by itself. -/
def heldR : Value → Option (DataW Value × List MemPlace) := fun v => some (.held v, [])
theorem keysI6 : Keyed Tryz.prog 2 := int_keyed Tryz.underlying2
theorem ownsMap_block6 {H : Type} {P : Program} {k : TypeId} {R : Value → Option (DataW H × List MemPlace)} {b n : Nat} {D : DataW H} {w w' : World} (h : w.ownsMap P k R b n D) (e : w'.heap[b]? = w.heap[b]?) : w'.ownsMap P k R b n D := by
  obtain ⟨es, clock, hb, F, hs, hD⟩ := h
  exact ⟨es, clock, e.trans hb, F, hs, hD⟩
section
variable {α : Type} {key : α → Int} {val : α → Value} {need : α → Bool}
/-- The map that holds just the elements of a list. -/
def MapOf (key : α → Int) (val : α → Value) (D : DataW Value) (xs : List α) : Prop :=
  IsMap D ∧ (∀ x ∈ xs, has D (.int .i64 (key x)) = true ∧ ∀ z, D.atKey (.int .i64 (key x)) z = .held (val x)) ∧ ∀ kl, has D kl = true → ∃ x ∈ xs, kl = .int .i64 (key x)
theorem MapOf.nil : MapOf key val (.map []) [] := by
  refine ⟨isMap_empty, fun x h => absurd h (by simp), fun kl h => ?_⟩
  have h2 : has (.map [] : DataW Value) kl = false := rfl
  rw [h2] at h
  cases h
theorem lit_ne {a b : Int} (h : a ≠ b) : Lit.int .i64 a ≠ Lit.int .i64 b := fun e => h (by injection e)
theorem MapOf.snoc {D : DataW Value} {xs : List α} (h : MapOf key val D xs) (x : α) (hf : ∀ y ∈ xs, key y ≠ key x) : MapOf key val (D.put (.int .i64 (key x)) (.held (val x))) (xs ++ [x]) := by
  obtain ⟨h1, h2, h3⟩ := h
  refine ⟨h1.put _ _, fun y hy => ?_, fun kl hk => ?_⟩
  · rcases List.mem_append.1 hy with hy | hy
    · have hne := lit_ne (hf y hy)
      rw [has_put_other hne]
      exact ⟨(h2 y hy).1, fun z => by rw [atKey_put_other hne]; exact (h2 y hy).2 z⟩
    · simp only [List.mem_singleton] at hy
      subst hy
      exact ⟨has_put_same h1 (by exact trivial) _, fun z => atKey_put_same h1 (by exact trivial) _ _⟩
  · by_cases e : kl = .int .i64 (key x)
    · exact ⟨x, by simp, e⟩
    · rw [has_put_other e] at hk
      obtain ⟨y, hy, e2⟩ := h3 kl hk
      exact ⟨y, by simp [hy], e2⟩
/-- .. while it is swept: what is needed, and what is still to come. -/
def MapLf (key : α → Int) (val : α → Value) (need : α → Bool) (D : DataW Value) (left : Lit → Bool) (xs : List α) : Prop :=
  IsMap D ∧ (∀ x ∈ xs, need x = true ∨ left (.int .i64 (key x)) = true → has D (.int .i64 (key x)) = true ∧ ∀ z, D.atKey (.int .i64 (key x)) z = .held (val x)) ∧ ∀ kl, has D kl = true → ∃ x ∈ xs, kl = .int .i64 (key x) ∧ (need x = true ∨ left kl = true)
theorem MapLf.start {D : DataW Value} {xs : List α} (h : MapOf key val D xs) : MapLf key val need D (has D) xs :=
  ⟨h.1, fun x hx _ => h.2.1 x hx, fun kl hk => by obtain ⟨x, hx, e⟩ := h.2.2 kl hk; exact ⟨x, hx, e, .inr hk⟩⟩
theorem MapLf.who {D : DataW Value} {left : Lit → Bool} {xs : List α} (h : MapLf key val need D left xs) {kl : Lit} {v : Value} (hl : left kl = true) (hat : ∀ z, D.atKey kl z = .held v) : ∃ x ∈ xs, kl = .int .i64 (key x) ∧ v = val x := by
  obtain ⟨x, hx, e, _⟩ := h.2.2 kl (has_true_of_atKey hat)
  refine ⟨x, hx, e, ?_⟩
  subst e
  have h2 := (h.2.1 x hx (.inr hl)).2 .nil
  rw [hat] at h2
  injection h2
theorem left_same {left : Lit → Bool} {a b : Int} (h : a ≠ b) : (fun z : Lit => left z && !z.sameKey (.int .i64 b)) (.int .i64 a) = left (.int .i64 a) := by
  show (left (.int .i64 a) && !(Lit.int .i64 a).sameKey (.int .i64 b)) = left (.int .i64 a)
  rw [sameKey_ne (lit_ne h)]
  simp
theorem MapLf.keep {D : DataW Value} {left : Lit → Bool} {xs : List α} (h : MapLf key val need D left xs) {x : α} (hx : x ∈ xs) (hn : need x = true) : MapLf key val need D (fun z => left z && !z.sameKey (.int .i64 (key x))) xs := by
  obtain ⟨h1, h2, h3⟩ := h
  refine ⟨h1, fun y hy hor => h2 y hy ?_, fun kl hk => ?_⟩
  · rcases hor with h | h
    · exact .inl h
    · simp only [Bool.and_eq_true] at h
      exact .inr h.1
  · obtain ⟨y, hy, e, hor⟩ := h3 kl hk
    by_cases e2 : key y = key x
    · exact ⟨x, hx, by rw [e, e2], .inl hn⟩
    · refine ⟨y, hy, e, ?_⟩
      subst e
      rcases hor with h | h
      · exact .inl h
      · exact .inr ((left_same e2).trans h)
theorem MapLf.drop {D : DataW Value} {left : Lit → Bool} {xs : List α} (h : MapLf key val need D left xs) {x : α} (hx : x ∈ xs) (hn : need x = false) (hu : ∀ y ∈ xs, key y = key x → y = x) : MapLf key val need (D.del (.int .i64 (key x))) (fun z => left z && !z.sameKey (.int .i64 (key x))) xs := by
  obtain ⟨h1, h2, h3⟩ := h
  refine ⟨h1.del _, fun y hy hor => ?_, fun kl hk => ?_⟩
  · have e2 : key y ≠ key x := fun e => by
      have hyx := hu y hy e
      subst hyx
      rcases hor with h | h
      · rw [hn] at h; cases h
      · simp [Lit.sameKey] at h
    have h4 := h2 y hy (by
      rcases hor with h | h
      · exact .inl h
      · exact .inr ((left_same e2).symm.trans h))
    rw [has_del_other (lit_ne e2)]
    exact ⟨h4.1, fun z => by rw [atKey_del_other (lit_ne e2)]; exact h4.2 z⟩
  · by_cases e : kl = .int .i64 (key x)
    · subst e
      rw [has_del_same] at hk
      cases hk
    · rw [has_del_other e] at hk
      obtain ⟨y, hy, ey, hor⟩ := h3 kl hk
      subst ey
      have e2 : key y ≠ key x := fun q => e (by rw [q])
      refine ⟨y, hy, rfl, ?_⟩
      rcases hor with h | h
      · exact .inl h
      · exact .inr ((left_same e2).trans h)
theorem MapLf.last {D : DataW Value} {left : Lit → Bool} {xs : List α} (h : MapLf key val need D left xs) (hl : ∀ kl, left kl = false) : MapOf key val D (xs.filter need) := by
  obtain ⟨h1, h2, h3⟩ := h
  refine ⟨h1, fun x hx => ?_, fun kl hk => ?_⟩
  · obtain ⟨ha, hb⟩ := List.mem_filter.1 hx
    exact h2 x ha (.inl hb)
  · obtain ⟨x, hx, e, hor⟩ := h3 kl hk
    refine ⟨x, List.mem_filter.2 ⟨hx, ?_⟩, e⟩
    rcases hor with h | h
    · exact h
    · rw [hl] at h; cases h
/-- Its keys, sorted. -/
theorem MapOf.sorted {D : DataW Value} {ys : List α} (h : MapOf key val D ys) (hs : ys.Pairwise (fun x y => key x < key y)) {P : Program} {k : TypeId} {R : Value → Option (DataW Value × List MemPlace)} {w : World} {b n : Nat} (hown : w.ownsMap P k R b n D) (K : Keyed P k) (hk : P.underlying k = some (.int .i64)) {ss : List Int} (hp : ss.Perm (intKeys D)) : ss.mergeSort (fun x y => decide (x ≤ y)) = ys.map key := by
  have hC : CollectedI D (fun _ => false) (ys.map key) := by
    refine ⟨?_, fun x => ?_⟩
    · exact List.pairwise_map.2 (hs.imp fun hlt e => by omega)
    · constructor
      · intro hx
        obtain ⟨y, hy, rfl⟩ := List.mem_map.1 hx
        exact ⟨(h.2.1 y hy).1, rfl⟩
      · rintro ⟨hx, _⟩
        obtain ⟨y, hy, e⟩ := h.2.2 _ hx
        injection e with _ e
        exact List.mem_map.2 ⟨y, hy, e.symm⟩
  have hp2 : ss.Perm (ys.map key) := hp.trans (hC.perm hown K hk (fun _ => rfl)).symm
  have e1 := mergeSort_of_perm_i hp2
  refine e1.trans ?_
  refine List.mergeSort_of_pairwise ?_
  refine List.pairwise_map.2 (hs.imp fun hlt => ?_)
  simp only [leI, decide_eq_true_eq]
  omega
theorem MapOf.size {D : DataW Value} {ys : List α} (h : MapOf key val D ys) (hs : ys.Pairwise (fun x y => key x < key y)) {P : Program} {k : TypeId} {R : Value → Option (DataW Value × List MemPlace)} {w : World} {b n : Nat} (hown : w.ownsMap P k R b n D) : Maps.size D ≤ n := hown.size_le
end
theorem take_next {α : Type} {xs : List α} {k : Nat} {x : α} (h : xs[k]? = some x) : xs.take (k + 1) = xs.take k ++ [x] := by rw [List.take_add_one, h]; rfl
theorem grown_none {w w' : World} (h : Below w.heap.size w w') : w.grownBy w' none := ⟨h.os, h.tape, h.output, h.size, fun i hi _ => h.block i hi⟩
/-- A block that is no row of that type is not written by an append to one. -/
theorem row_ne {w : World} {base n s : Nat} {e : TypeId} {v : Value} {xs : List Value} (h : w.ownsRow base e s v n xs) {j : Nat} {o : Obj} (hj : w.heap[j]? = some o) (ho : ∀ cur, o ≠ .cells cur e (0, 0)) : some j ≠ v.ownBlock := by
  intro q
  rcases h.2 with ⟨rfl, _⟩ | ⟨g, cap, cur, rfl, _, hg, _⟩
  · simp [Value.ownBlock] at q
  · simp only [Value.ownBlock, Option.some.injEq] at q
    subst q
    rw [hj] at hg
    exact ho cur (by injection hg)
theorem row_base {w : World} {base base' n s : Nat} {e : TypeId} {v : Value} {xs : List Value} (h : w.ownsRow base e s v n xs) (hb : base' ≤ base) : w.ownsRow base' e s v n xs := by
  refine ⟨h.1, ?_⟩
  rcases h.2 with h | ⟨g, c, cu, e1, e2, e3⟩
  · exact .inl h
  · exact .inr ⟨g, c, cu, e1, Nat.le_trans hb e2, e3⟩
theorem step_mapUp {ops : Array Oper} {o : Oper} {a : Act} {Kc : Act → World → Prop} {Q : Exit → Act → World → Prop} {Ee : Prop} (w : World) (hgd : o.guard = none) (m x v : Operand) (t : TypeId) (hop : o.op = Op.mapUpdate t m x v) (hd : o.dst = none)
    (e : TypeId) (ht : Tryz.prog.underlying t = some (.map 2 e)) (R : Value → Option (DataW Value × List MemPlace)) (b n : Nat) (D : DataW Value) (hm : a.eval m = .map (some b)) (hown : w.ownsMap Tryz.prog 2 R b n D) (hn : n < maxLen) (key val : Value) (kl : Lit) (hx : a.eval x = key) (hv : a.eval v = val) (hkey : keyOf Tryz.prog 2 key = some kl) (d : DataW Value) (ps : List MemPlace) (hval : R val = some (d, ps))
    (h : ∀ w', w'.ownsMap Tryz.prog 2 R b (n + 1) (D.put kl d) → w.grownBy w' (some b) → Kc a w') :
    if Region.wanted o (yielded ops a.tmps) = true then Oper.wp Tryz.prog o a w Kc Q else Ee := by
  have hw : Region.wanted o (yielded ops a.tmps) = true := by simp [Region.wanted, hgd]
  rw [if_pos hw]
  obtain ⟨w', hrun, r1, r2⟩ := hown.update keysI6 ht hn hkey hval
  unfold Oper.wp
  simp [execOp, hop, hm, hx, hv, hrun, Result.andThen]
  have h9 := h w' r1 r2
  show Kc (a.put o.dst undef) w'
  rw [hd]
  exact h9
/-- A impl.Row as it lies in a row: its datum, where what it holds lies and how much room it has; the blocks of its own. -/
structure HRw where
  t : Rw
  A : Option Addr
  c : Nat
  l : Nat
  h : Nat
def valRw (x : HRw) : Value := .agg #[.int .i64 x.t.key, .slice x.A x.t.n x.c]
def keyRw (x : HRw) : Int := x.t.key
def needRw (x : HRw) : Bool := decide (0 < x.t.n)
def hbRw : List HRw → List Value
  | [] => []
  | x :: xs => rcRw x.t x.A x.c ++ hbRw xs
theorem hbRw_app : ∀ xs ys, hbRw (xs ++ ys) = hbRw xs ++ hbRw ys
  | [], ys => rfl
  | x :: xs, ys => by simp [hbRw, hbRw_app xs ys]
theorem hbRw_len : ∀ xs, (hbRw xs).length = xs.length * 2
  | [] => rfl
  | x :: xs => by
    have := hbRw_len xs
    simp only [hbRw, List.length_append, this, rcRw, List.length_cons, List.length_nil]
    omega
theorem hbRw_get : ∀ (xs : List HRw) (i j : Nat) (x : HRw), xs[i]? = some x → j < 2 → (hbRw xs)[i * 2 + j]? = (rcRw x.t x.A x.c)[j]?
  | [], i, j, x, h, hj => by simp at h
  | y :: ys, 0, j, x, h, hj => by
    simp only [List.getElem?_cons_zero, Option.some.injEq] at h
    subst h
    rw [hbRw, List.getElem?_append_left (by simp [rcRw]; omega), Nat.zero_mul, Nat.zero_add]
  | y :: ys, i + 1, j, x, h, hj => by
    rw [List.getElem?_cons_succ] at h
    rw [hbRw, List.getElem?_append_right (by simp [rcRw]; omega)]
    have := hbRw_get ys i j x h hj
    rw [← this]
    congr 1
    simp [rcRw]
    omega
/-- A slice whose elements lie so. -/
def HAtRw (w : World) (a : Option Addr) (xs : List HRw) : Prop := xs = [] ∨ ∃ b off, a = some ⟨b, off, none⟩ ∧ b < w.heap.size ∧ ∀ i x, xs[i]? = some x → CRw w b (off + i * 2) x.t x.A x.c
theorem HAtRw.below {w w' : World} {a : Option Addr} {xs : List HRw} (h : HAtRw w a xs) (hb : Below w.heap.size w w') : HAtRw w' a xs := by
  rcases h with h | ⟨b, off, ha, hl, hc⟩
  · exact .inl h
  · exact .inr ⟨b, off, ha, Nat.lt_of_lt_of_le hl hb.size, fun i x hi => (hc i x hi).block (hb.block _ hl)⟩
theorem HAtRw.of_row {w : World} {base n : Nat} {v : Value} {xs : List HRw} (hn : xs.length = n) (h : w.ownsRow base 105 2 v n (hbRw xs)) : ∃ a cap, v = .slice a n cap ∧ n ≤ cap ∧ HAtRw w a xs := by
  rcases h.2 with ⟨rfl, h0⟩ | ⟨g, cap, cur, rfl, hbg, hg, hc, _⟩
  · exact ⟨none, 0, by rw [h0], by omega, .inl (List.eq_nil_of_length_eq_zero (by omega))⟩
  · have hlt : g < w.heap.size := (Array.getElem?_eq_some_iff.1 hg).1
    refine ⟨some ⟨g, 0, none⟩, cap, rfl, hc, .inr ⟨g, 0, rfl, hlt, fun i x hi => ?_⟩⟩
    have hil : i < n := by rw [← hn]; exact (List.getElem?_eq_some_iff.1 hi).1
    have hcc : ∀ j u, j < 2 → (rcRw x.t x.A x.c)[j]? = some u → w.cell? ⟨g, 0 + i * 2 + j, none⟩ = some u := fun j u hj hu => by
      rw [Nat.zero_add, h.cellAt (i * 2 + j) (by omega), hbRw_get xs i j x hi hj, hu]
    exact ⟨hcc 0 _ (by omega) rfl, hcc 1 _ (by omega) rfl⟩
theorem wp_appHRw {o : Oper} {a : Act} {Kc : Act → World → Prop} {Q : Exit → Act → World → Prop} (w : World) (s x : Operand)
    (ho : o.op = .call { callee := .builtin .append, args := #[s, x], argTypes := #[29, 29] })
    (base : Nat) (v : Value) (m : Nat) (xs : List HRw) (hm : xs.length = m) (hs : a.eval s = v) (hown : w.ownsRow base 105 2 v m (hbRw xs)) (Y cx : Nat) (y : HRw) (hx : a.eval x = .slice (some ⟨Y, 0, none⟩) 1 cx) (hC : CRw w Y 0 y.t y.A y.c) (hb : base ≤ w.heap.size) (hl : m ≤ 100000)
    (hK : ∀ v' w', w'.ownsRow base 105 2 v' (m + 1) (hbRw (xs ++ [y])) → w.grownBy w' v.ownBlock → Kc (a.put o.dst v') w') : o.wp Tryz.prog a w Kc Q := by
  obtain ⟨i0, hi, hz0, hz1, hz2⟩ := info_parts2 infoRw
  refine wp_append_own w s x 29 ho base 105 i0 _ 2 32 Tryz.underlying29 hi hz0 hz1 hz2 rfl (by decide) v m (hbRw xs) hs hown ⟨Y, 0, none⟩ 1 cx (rcRw y.t y.A y.c) hx rfl (fun j u hju => ?_) (rcRw_one _ _ _) (by unfold maxLen; omega) (by omega) hb fun v' w' h2 h3 _ => hK v' w' ?_ h3
  · obtain ⟨h0, h1⟩ := hC
    rw [WideShapes.add_plain]
    have hd : j < 2 := by have := (List.getElem?_eq_some_iff.1 hju).1; simpa [rcRw] using this
    have hd2 : j = 0 ∨ j = 1 := by omega
    rcases hd2 with rfl | rfl
    · rw [← hju]; exact h0
    · rw [← hju]; exact h1
  · rw [hbRw_app]
    simpa [hbRw] using h2
theorem wpList_appHRw {ops : Array Oper} {rest : List Oper} {o : Oper} {a : Act} {Q : Exit → Act → World → Prop} (w : World) (hgd : o.guard = none) (s x : Operand)
    (ho : o.op = .call { callee := .builtin .append, args := #[s, x], argTypes := #[29, 29] })
    (base : Nat) (v : Value) (m : Nat) (xs : List HRw) (hm : xs.length = m) (hs : a.eval s = v) (hown : w.ownsRow base 105 2 v m (hbRw xs)) (Y cx : Nat) (y : HRw) (hx : a.eval x = .slice (some ⟨Y, 0, none⟩) 1 cx) (hC : CRw w Y 0 y.t y.A y.c) (hb : base ≤ w.heap.size) (hl : m ≤ 100000)
    (hK : ∀ v' w', w'.ownsRow base 105 2 v' (m + 1) (hbRw (xs ++ [y])) → w.grownBy w' v.ownBlock → wpList Tryz.prog ops Q rest (a.put o.dst v') w') : wpList Tryz.prog ops Q (o :: rest) a w :=
  wpList_plain hgd fun _ hKK => wp_appHRw w s x ho base v m xs hm hs hown Y cx y hx hC hb hl fun v' w' h2 h3 => hKK _ _ (hK v' w' h2 h3)
/-- Elements of that shape alone. -/
def relRw : Value → Option (DataW Value × List MemPlace)
  | .agg cs => match cs.toList with
    | [.int .i64 x0, .slice xa xn xc] => some (.held (.agg #[.int .i64 x0, .slice xa xn xc]), [])
    | _ => none
  | _ => none
theorem relRw_val (x : HRw) : relRw (valRw x) = some (.held (valRw x), []) := rfl
theorem relRw_inv {v : Value} {y : DataW Value × List MemPlace} (h : relRw v = some y) : ∃ x : HRw, v = valRw x ∧ y = (.held (valRw x), []) := by
  unfold relRw at h
  split at h
  · rename_i cs
    split at h
    · rename_i x0 xa xn xc hl
      simp only [Option.some.injEq] at h
      refine ⟨⟨⟨x0, xn, zRw.U⟩, xa, xc, 0, 0⟩, ?_, h.symm⟩
      have : cs = #[.int .i64 x0, .slice xa xn xc] := by rw [← Array.toArray_toList (xs := cs), hl]
      rw [this]
      rfl
    · cases h
  · cases h
theorem valRw_inj {x y : HRw} (h : valRw x = valRw y) : keyRw x = keyRw y ∧ needRw x = needRw y := by
  simp only [valRw, Value.agg.injEq, Array.mk.injEq, List.cons.injEq, Value.int.injEq, Value.slice.injEq, true_and, and_true] at h
  simp only [keyRw, needRw]
  simp [h]
/-- Rising by number. -/
def RiRw (xs : List HRw) : Prop := xs.Pairwise (fun x y => keyRw x < keyRw y)
theorem RiRw.fresh {xs : List HRw} (h : RiRw xs) {k : Nat} {x : HRw} (hx : xs[k]? = some x) : ∀ y ∈ xs.take k, keyRw y ≠ keyRw x := by
  intro y hy
  obtain ⟨j, hj, rfl⟩ := List.mem_iff_getElem.1 hy
  obtain ⟨hk, rfl⟩ := List.getElem?_eq_some_iff.1 hx
  have hjk : j < k := by simp at hj; omega
  have := List.pairwise_iff_getElem.1 h j k (by omega) hk hjk
  rw [List.getElem_take]
  omega
theorem RiRw.one {xs : List HRw} (h : RiRw xs) {x y : HRw} (hx : x ∈ xs) (hy : y ∈ xs) (e : keyRw y = keyRw x) : y = x := by
  obtain ⟨i, hi, rfl⟩ := List.mem_iff_getElem.1 hx
  obtain ⟨j, hj, rfl⟩ := List.mem_iff_getElem.1 hy
  rcases Nat.lt_trichotomy i j with c | c | c
  · have := List.pairwise_iff_getElem.1 h i j hi hj c; omega
  · subst c; rfl
  · have := List.pairwise_iff_getElem.1 h j i hj hi c; omega
theorem RiRw.filter {xs : List HRw} (h : RiRw xs) (p : HRw → Bool) : RiRw (xs.filter p) := List.Pairwise.filter p h
/-- A impl.Txn as it lies in a row: its datum, where what it holds lies and how much room it has; the blocks of its own. -/
structure HTx where
  t : Tx
  A : Option Addr
  c : Nat
  l : Nat
  h : Nat
def valTx (x : HTx) : Value := .agg #[.int .i64 x.t.id, .int .i64 x.t.am, .int .i64 x.t.st, .int .i64 x.t.dn, .slice x.A x.t.n x.c]
def keyTx (x : HTx) : Int := x.t.id
def needTx (x : HTx) : Bool := (x.t.st == 1)
def hbTx : List HTx → List Value
  | [] => []
  | x :: xs => rcTx x.t x.A x.c ++ hbTx xs
theorem hbTx_app : ∀ xs ys, hbTx (xs ++ ys) = hbTx xs ++ hbTx ys
  | [], ys => rfl
  | x :: xs, ys => by simp [hbTx, hbTx_app xs ys]
theorem hbTx_len : ∀ xs, (hbTx xs).length = xs.length * 5
  | [] => rfl
  | x :: xs => by
    have := hbTx_len xs
    simp only [hbTx, List.length_append, this, rcTx, List.length_cons, List.length_nil]
    omega
theorem hbTx_get : ∀ (xs : List HTx) (i j : Nat) (x : HTx), xs[i]? = some x → j < 5 → (hbTx xs)[i * 5 + j]? = (rcTx x.t x.A x.c)[j]?
  | [], i, j, x, h, hj => by simp at h
  | y :: ys, 0, j, x, h, hj => by
    simp only [List.getElem?_cons_zero, Option.some.injEq] at h
    subst h
    rw [hbTx, List.getElem?_append_left (by simp [rcTx]; omega), Nat.zero_mul, Nat.zero_add]
  | y :: ys, i + 1, j, x, h, hj => by
    rw [List.getElem?_cons_succ] at h
    rw [hbTx, List.getElem?_append_right (by simp [rcTx]; omega)]
    have := hbTx_get ys i j x h hj
    rw [← this]
    congr 1
    simp [rcTx]
    omega
/-- A slice whose elements lie so. -/
def HAtTx (w : World) (a : Option Addr) (xs : List HTx) : Prop := xs = [] ∨ ∃ b off, a = some ⟨b, off, none⟩ ∧ b < w.heap.size ∧ ∀ i x, xs[i]? = some x → CTx w b (off + i * 5) x.t x.A x.c
theorem HAtTx.below {w w' : World} {a : Option Addr} {xs : List HTx} (h : HAtTx w a xs) (hb : Below w.heap.size w w') : HAtTx w' a xs := by
  rcases h with h | ⟨b, off, ha, hl, hc⟩
  · exact .inl h
  · exact .inr ⟨b, off, ha, Nat.lt_of_lt_of_le hl hb.size, fun i x hi => (hc i x hi).block (hb.block _ hl)⟩
theorem HAtTx.of_row {w : World} {base n : Nat} {v : Value} {xs : List HTx} (hn : xs.length = n) (h : w.ownsRow base 64 5 v n (hbTx xs)) : ∃ a cap, v = .slice a n cap ∧ n ≤ cap ∧ HAtTx w a xs := by
  rcases h.2 with ⟨rfl, h0⟩ | ⟨g, cap, cur, rfl, hbg, hg, hc, _⟩
  · exact ⟨none, 0, by rw [h0], by omega, .inl (List.eq_nil_of_length_eq_zero (by omega))⟩
  · have hlt : g < w.heap.size := (Array.getElem?_eq_some_iff.1 hg).1
    refine ⟨some ⟨g, 0, none⟩, cap, rfl, hc, .inr ⟨g, 0, rfl, hlt, fun i x hi => ?_⟩⟩
    have hil : i < n := by rw [← hn]; exact (List.getElem?_eq_some_iff.1 hi).1
    have hcc : ∀ j u, j < 5 → (rcTx x.t x.A x.c)[j]? = some u → w.cell? ⟨g, 0 + i * 5 + j, none⟩ = some u := fun j u hj hu => by
      rw [Nat.zero_add, h.cellAt (i * 5 + j) (by omega), hbTx_get xs i j x hi hj, hu]
    exact ⟨hcc 0 _ (by omega) rfl, hcc 1 _ (by omega) rfl, hcc 2 _ (by omega) rfl, hcc 3 _ (by omega) rfl, hcc 4 _ (by omega) rfl⟩
theorem wp_appHTx {o : Oper} {a : Act} {Kc : Act → World → Prop} {Q : Exit → Act → World → Prop} (w : World) (s x : Operand)
    (ho : o.op = .call { callee := .builtin .append, args := #[s, x], argTypes := #[28, 28] })
    (base : Nat) (v : Value) (m : Nat) (xs : List HTx) (hm : xs.length = m) (hs : a.eval s = v) (hown : w.ownsRow base 64 5 v m (hbTx xs)) (Y cx : Nat) (y : HTx) (hx : a.eval x = .slice (some ⟨Y, 0, none⟩) 1 cx) (hC : CTx w Y 0 y.t y.A y.c) (hb : base ≤ w.heap.size) (hl : m ≤ 100000)
    (hK : ∀ v' w', w'.ownsRow base 64 5 v' (m + 1) (hbTx (xs ++ [y])) → w.grownBy w' v.ownBlock → Kc (a.put o.dst v') w') : o.wp Tryz.prog a w Kc Q := by
  obtain ⟨i0, hi, hz0, hz1, hz2⟩ := info_parts2 infoTx
  refine wp_append_own w s x 28 ho base 64 i0 _ 5 56 Tryz.underlying28 hi hz0 hz1 hz2 rfl (by decide) v m (hbTx xs) hs hown ⟨Y, 0, none⟩ 1 cx (rcTx y.t y.A y.c) hx rfl (fun j u hju => ?_) (rcTx_one _ _ _) (by unfold maxLen; omega) (by omega) hb fun v' w' h2 h3 _ => hK v' w' ?_ h3
  · obtain ⟨h0, h1, h2, h3, h4⟩ := hC
    rw [WideShapes.add_plain]
    have hd : j < 5 := by have := (List.getElem?_eq_some_iff.1 hju).1; simpa [rcTx] using this
    have hd2 : j = 0 ∨ j = 1 ∨ j = 2 ∨ j = 3 ∨ j = 4 := by omega
    rcases hd2 with rfl | rfl | rfl | rfl | rfl
    · rw [← hju]; exact h0
    · rw [← hju]; exact h1
    · rw [← hju]; exact h2
    · rw [← hju]; exact h3
    · rw [← hju]; exact h4
  · rw [hbTx_app]
    simpa [hbTx] using h2
theorem wpList_appHTx {ops : Array Oper} {rest : List Oper} {o : Oper} {a : Act} {Q : Exit → Act → World → Prop} (w : World) (hgd : o.guard = none) (s x : Operand)
    (ho : o.op = .call { callee := .builtin .append, args := #[s, x], argTypes := #[28, 28] })
    (base : Nat) (v : Value) (m : Nat) (xs : List HTx) (hm : xs.length = m) (hs : a.eval s = v) (hown : w.ownsRow base 64 5 v m (hbTx xs)) (Y cx : Nat) (y : HTx) (hx : a.eval x = .slice (some ⟨Y, 0, none⟩) 1 cx) (hC : CTx w Y 0 y.t y.A y.c) (hb : base ≤ w.heap.size) (hl : m ≤ 100000)
    (hK : ∀ v' w', w'.ownsRow base 64 5 v' (m + 1) (hbTx (xs ++ [y])) → w.grownBy w' v.ownBlock → wpList Tryz.prog ops Q rest (a.put o.dst v') w') : wpList Tryz.prog ops Q (o :: rest) a w :=
  wpList_plain hgd fun _ hKK => wp_appHTx w s x ho base v m xs hm hs hown Y cx y hx hC hb hl fun v' w' h2 h3 => hKK _ _ (hK v' w' h2 h3)
/-- Elements of that shape alone. -/
def relTx : Value → Option (DataW Value × List MemPlace)
  | .agg cs => match cs.toList with
    | [.int .i64 x0, .int .i64 x1, .int .i64 x2, .int .i64 x3, .slice xa xn xc] => some (.held (.agg #[.int .i64 x0, .int .i64 x1, .int .i64 x2, .int .i64 x3, .slice xa xn xc]), [])
    | _ => none
  | _ => none
theorem relTx_val (x : HTx) : relTx (valTx x) = some (.held (valTx x), []) := rfl
theorem relTx_inv {v : Value} {y : DataW Value × List MemPlace} (h : relTx v = some y) : ∃ x : HTx, v = valTx x ∧ y = (.held (valTx x), []) := by
  unfold relTx at h
  split at h
  · rename_i cs
    split at h
    · rename_i x0 x1 x2 x3 xa xn xc hl
      simp only [Option.some.injEq] at h
      refine ⟨⟨⟨x0, x1, x2, x3, xn, zTx.U⟩, xa, xc, 0, 0⟩, ?_, h.symm⟩
      have : cs = #[.int .i64 x0, .int .i64 x1, .int .i64 x2, .int .i64 x3, .slice xa xn xc] := by rw [← Array.toArray_toList (xs := cs), hl]
      rw [this]
      rfl
    · cases h
  · cases h
theorem valTx_inj {x y : HTx} (h : valTx x = valTx y) : keyTx x = keyTx y ∧ needTx x = needTx y := by
  simp only [valTx, Value.agg.injEq, Array.mk.injEq, List.cons.injEq, Value.int.injEq, Value.slice.injEq, true_and, and_true] at h
  simp only [keyTx, needTx]
  simp [h]
/-- Rising by number. -/
def RiTx (xs : List HTx) : Prop := xs.Pairwise (fun x y => keyTx x < keyTx y)
theorem RiTx.fresh {xs : List HTx} (h : RiTx xs) {k : Nat} {x : HTx} (hx : xs[k]? = some x) : ∀ y ∈ xs.take k, keyTx y ≠ keyTx x := by
  intro y hy
  obtain ⟨j, hj, rfl⟩ := List.mem_iff_getElem.1 hy
  obtain ⟨hk, rfl⟩ := List.getElem?_eq_some_iff.1 hx
  have hjk : j < k := by simp at hj; omega
  have := List.pairwise_iff_getElem.1 h j k (by omega) hk hjk
  rw [List.getElem_take]
  omega
theorem RiTx.one {xs : List HTx} (h : RiTx xs) {x y : HTx} (hx : x ∈ xs) (hy : y ∈ xs) (e : keyTx y = keyTx x) : y = x := by
  obtain ⟨i, hi, rfl⟩ := List.mem_iff_getElem.1 hx
  obtain ⟨j, hj, rfl⟩ := List.mem_iff_getElem.1 hy
  rcases Nat.lt_trichotomy i j with c | c | c
  · have := List.pairwise_iff_getElem.1 h i j hi hj c; omega
  · subst c; rfl
  · have := List.pairwise_iff_getElem.1 h j i hj hi c; omega
theorem RiTx.filter {xs : List HTx} (h : RiTx xs) (p : HTx → Bool) : RiTx (xs.filter p) := List.Pairwise.filter p h
theorem sortsA (m : Nat) : AnyZI.SortsIn Tryz.prog Tryz.sortedA_ren Fence.wide m :=
  ⟨fun blk off cap ss W hH hblk hsz => callsIn_wide.2 (AnyM.slices_Sort_int Tryz.sortA blk off cap ss W hH hblk hsz),
   fun p cap W => callsIn_wide.2 (AnyM.slices_Sort_int_none Tryz.sortA p cap W)⟩
theorem keysRw_any (mb : Option Nat) (w : World) :
    Calls Tryz.prog 135 #[.map mb] w fun e w' => e = .returned (.func (.func 163) #[] #[.pointer (some ⟨w.heap.size, 0, none⟩)]) ∧ w' = w.alloc (.cells #[.map mb] 167) :=
  (callsIn_wide (n := 5)).1 (AnyZI.keys_in Tryz.keysA Fence.wide 5 trivial rfl mb w)
def klRw (ys : List HRw) : List Value := (ys.map keyRw).map (Value.int .i64)
set_option maxHeartbeats 1000000 in
theorem sortedRw_any (Bm b nn : Nat) (D : DataW Value) (w : World) (ys : List HRw) (hBm : Bm < w.heap.size) (hm : w.cell? ⟨Bm, 0, none⟩ = some (.map (some b))) (hown : w.ownsMap Tryz.prog 2 relRw b nn D) (hmax : nn < maxLen) (hle : nn ≤ 100000) (hD : MapOf keyRw valRw D ys) (hri : RiRw ys) :
    Calls Tryz.prog 134 #[.func (.func 163) #[] #[.pointer (some ⟨Bm, 0, none⟩)]] w fun e w' => ∃ v, e = .returned v ∧ Below w.heap.size w w' ∧ w'.ownsRow w.heap.size 2 1 v ys.length (klRw ys) := by
  have hsz := hown.size_le
  have hseq : SeqGives Fence.wide 2 Tryz.prog 163 #[.pointer (some ⟨Bm, 0, none⟩)] encZ (fun ss => ss.Perm (intKeys D)) (Maps.size D) w :=
    AnyZI.keys_gives (ρ := Tryz.keysA_ren) { Tryz.keysA with } Fence.wide _ trivial rfl (by omega) Bm b nn D w hBm hm hown
  have cS := AnyZI.sorted_in Tryz.sortedA Fence.wide 5 trivial trivial trivial trivial rfl (by omega) (sortsA _) (enters_of Tryz.func162 (by kernel_rfl) rfl) 163 #[.pointer (some ⟨Bm, 0, none⟩)] trivial (enters_of Tryz.func163 (by kernel_rfl) rfl) _ _ (by omega) (by omega) _ hseq
  change CallsIn _ _ Tryz.prog 134 _ _ _ at cS
  refine ((callsIn_wide (n := 5)).1 cS).mono ?_
  rintro e w' ⟨v, ss, rfl, hS, hrow, -, hb⟩
  have e1 := hD.sorted hri hown keysI6 Tryz.underlying2 hS
  have e2 : ss.length = ys.length := by
    have := congrArg List.length e1
    simpa using this
  refine ⟨v, rfl, hb, ?_⟩
  rw [e1, e2] at hrow
  exact hrow
theorem slRw_slice {w : World} {base m : Nat} {v : Value} {ys : List HRw} (hm : ys.length = m) (h : w.ownsRow base 2 1 v ys.length (klRw ys)) : ∃ a c, v = .slice a m c := by
  rcases h.2 with ⟨rfl, h0⟩ | ⟨g, cap, cur, rfl, _⟩
  · exact ⟨none, 0, by rw [← hm, h0]⟩
  · exact ⟨_, cap, by rw [hm]⟩
theorem slRw_cell {w : World} {base m sc i : Nat} {sa : Option Addr} {ys : List HRw} {y : HRw} (h : w.ownsRow base 2 1 (.slice sa m sc) m (klRw ys)) (hy : ys[i]? = some y) (hi : i < m) : ∃ g, sa = some ⟨g, 0, none⟩ ∧ g < w.heap.size ∧ w.cell? ⟨g, i, none⟩ = some (.int .i64 (keyRw y)) := by
  rcases h.2 with ⟨_, h0⟩ | ⟨g, cap, cur, e, _, hg, _⟩
  · omega
  · injection e with e1 e2 e3
    subst e1
    subst e3
    refine ⟨g, rfl, (Array.getElem?_eq_some_iff.1 hg).1, ?_⟩
    rw [h.cellAt i (by omega)]
    simp [klRw, hy]
theorem keysTx_any (mb : Option Nat) (w : World) :
    Calls Tryz.prog 136 #[.map mb] w fun e w' => e = .returned (.func (.func 164) #[] #[.pointer (some ⟨w.heap.size, 0, none⟩)]) ∧ w' = w.alloc (.cells #[.map mb] 172) :=
  (callsIn_wide (n := 5)).1 (AnyZI.keys_in Tryz.keysB Fence.wide 5 trivial rfl mb w)
def klTx (ys : List HTx) : List Value := (ys.map keyTx).map (Value.int .i64)
set_option maxHeartbeats 1000000 in
theorem sortedTx_any (Bm b nn : Nat) (D : DataW Value) (w : World) (ys : List HTx) (hBm : Bm < w.heap.size) (hm : w.cell? ⟨Bm, 0, none⟩ = some (.map (some b))) (hown : w.ownsMap Tryz.prog 2 relTx b nn D) (hmax : nn < maxLen) (hle : nn ≤ 100000) (hD : MapOf keyTx valTx D ys) (hri : RiTx ys) :
    Calls Tryz.prog 134 #[.func (.func 164) #[] #[.pointer (some ⟨Bm, 0, none⟩)]] w fun e w' => ∃ v, e = .returned v ∧ Below w.heap.size w w' ∧ w'.ownsRow w.heap.size 2 1 v ys.length (klTx ys) := by
  have hsz := hown.size_le
  have hseq : SeqGives Fence.wide 2 Tryz.prog 164 #[.pointer (some ⟨Bm, 0, none⟩)] encZ (fun ss => ss.Perm (intKeys D)) (Maps.size D) w :=
    AnyZI.keys_gives (ρ := Tryz.keysB_ren) { Tryz.keysB with } Fence.wide _ trivial rfl (by omega) Bm b nn D w hBm hm hown
  have cS := AnyZI.sorted_in Tryz.sortedA Fence.wide 5 trivial trivial trivial trivial rfl (by omega) (sortsA _) (enters_of Tryz.func162 (by kernel_rfl) rfl) 164 #[.pointer (some ⟨Bm, 0, none⟩)] trivial (enters_of Tryz.func164 (by kernel_rfl) rfl) _ _ (by omega) (by omega) _ hseq
  change CallsIn _ _ Tryz.prog 134 _ _ _ at cS
  refine ((callsIn_wide (n := 5)).1 cS).mono ?_
  rintro e w' ⟨v, ss, rfl, hS, hrow, -, hb⟩
  have e1 := hD.sorted hri hown keysI6 Tryz.underlying2 hS
  have e2 : ss.length = ys.length := by
    have := congrArg List.length e1
    simpa using this
  refine ⟨v, rfl, hb, ?_⟩
  rw [e1, e2] at hrow
  exact hrow
theorem slTx_slice {w : World} {base m : Nat} {v : Value} {ys : List HTx} (hm : ys.length = m) (h : w.ownsRow base 2 1 v ys.length (klTx ys)) : ∃ a c, v = .slice a m c := by
  rcases h.2 with ⟨rfl, h0⟩ | ⟨g, cap, cur, rfl, _⟩
  · exact ⟨none, 0, by rw [← hm, h0]⟩
  · exact ⟨_, cap, by rw [hm]⟩
theorem slTx_cell {w : World} {base m sc i : Nat} {sa : Option Addr} {ys : List HTx} {y : HTx} (h : w.ownsRow base 2 1 (.slice sa m sc) m (klTx ys)) (hy : ys[i]? = some y) (hi : i < m) : ∃ g, sa = some ⟨g, 0, none⟩ ∧ g < w.heap.size ∧ w.cell? ⟨g, i, none⟩ = some (.int .i64 (keyTx y)) := by
  rcases h.2 with ⟨_, h0⟩ | ⟨g, cap, cur, e, _, hg, _⟩
  · omega
  · injection e with e1 e2 e3
    subst e1
    subst e3
    refine ⟨g, rfl, (Array.getElem?_eq_some_iff.1 hg).1, ?_⟩
    rw [h.cellAt i (by omega)]
    simp [klTx, hy]
end Go.Proofs.YtnhlcadipkmhhaaGreat
