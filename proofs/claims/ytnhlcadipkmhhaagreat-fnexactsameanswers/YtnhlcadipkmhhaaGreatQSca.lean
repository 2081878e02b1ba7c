/- Cells that grow by append; answers that are lists of cells; what a scan answers. -/
import Derived.Test.YtnhlcadipkmhhaaGreatQKc
import Derived.Test.YtnhlcadipkmhhaaGreatQOa
namespace Go.Proofs.YtnhlcadipkmhhaaGreat
open Go.RowKit Go.Deep
set_option linter.unusedVariables false
set_option maxRecDepth 20000

/-- Cells, as values. -/
def cb : List (Int × Int) → List Value
  | [] => []
  | r :: rs => [.int .i64 r.1, .int .i64 r.2] ++ cb rs
theorem cb_len : ∀ xs, (cb xs).length = xs.length * 2
  | [] => rfl
  | r :: rs => by simp only [cb, List.length_append, cb_len rs, List.length_cons, List.length_nil]; omega
theorem cb_app : ∀ xs ys, cb (xs ++ ys) = cb xs ++ cb ys
  | [], ys => rfl
  | r :: rs, ys => by simp only [cb, List.cons_append, cb_app rs ys, List.append_assoc]
theorem cb_get : ∀ (xs : List (Int × Int)) (i j : Nat) (r : Int × Int), xs[i]? = some r → j < 2 → (cb xs)[i * 2 + j]? = [Value.int .i64 r.1, .int .i64 r.2][j]?
  | [], i, j, r, h, _ => by simp at h
  | x :: xs, 0, j, r, h, hj => by
    simp only [List.getElem?_cons_zero, Option.some.injEq] at h
    subst h
    simp only [cb]
    rw [List.getElem?_append_left (by simp; omega)]
    congr 1; omega
  | x :: xs, i + 1, j, r, h, hj => by
    simp only [List.getElem?_cons_succ] at h
    simp only [cb]
    rw [List.getElem?_append_right (by simp; omega)]
    have := cb_get xs i j r h hj
    rw [← this]
    congr 1
    simp; omega
def kC (xs : List (Int × Int)) (i : Nat) : Int := (xs.getD i (0, 0)).1
def vC (xs : List (Int × Int)) (i : Nat) : Int := (xs.getD i (0, 0)).2
theorem ownC_of_row {w : World} {base : Nat} {v : Value} {xs : List (Int × Int)} (h : w.ownsRow base 102 2 v xs.length (cb xs)) : ∃ a cap, v = .slice a xs.length cap ∧ Own w base w.heap.size a xs.length (kC xs) (vC xs) := by
  rcases h.2 with ⟨rfl, h0⟩ | ⟨g, cap, cur, rfl, hbg, hg, _⟩
  · exact ⟨none, 0, by rw [h0], Nat.le_refl _, .inl h0⟩
  · have hlt : g < w.heap.size := by
      obtain ⟨hlt, _⟩ := Array.getElem?_eq_some_iff.1 hg
      exact hlt
    have c : ∀ i j u, i < xs.length → j < 2 → [Value.int .i64 (kC xs i), .int .i64 (vC xs i)][j]? = some u → w.cell? ⟨g, i * 2 + j, none⟩ = some u := fun i j u hi hj hu => by
      obtain ⟨r, hr⟩ : ∃ r, xs[i]? = some r := ⟨xs[i], by simp [hi]⟩
      have er : xs.getD i (0, 0) = r := by rw [List.getD_eq_getElem?_getD, hr]; rfl
      rw [h.cellAt (i * 2 + j) (by omega), cb_get xs i j r hr hj, ← hu]
      simp only [kC, vC, er]
    refine ⟨some ⟨g, 0, none⟩, cap, rfl, Nat.le_refl _, .inr ⟨g, 0, rfl, hbg, hlt, fun i hi => ?_, fun i hi => ?_, fun i hi => h.frozenAt _, fun i hi => h.frozenAt _⟩⟩
    · have := c i 0 _ hi (by omega) rfl
      rwa [show 0 + i * 2 = i * 2 + 0 by omega]
    · have := c i 1 _ hi (by omega) rfl
      rwa [show 0 + i * 2 + 1 = i * 2 + 1 by omega]
theorem wp_appC {o : Oper} {a : Act} {Kc : Act → World → Prop} {Q : Exit → Act → World → Prop} (w : World) (s x : Operand)
    (ho : o.op = .call { callee := .builtin .append, args := #[s, x], argTypes := #[67, 67] })
    (base : Nat) (v : Value) (zs : List (Int × Int)) (hs : a.eval s = v) (hown : w.ownsRow base 102 2 v zs.length (cb zs)) (X O cx : Nat) (z : Int × Int) (hx : a.eval x = .slice (some ⟨X, O, none⟩) 1 cx) (hc : w.cell? ⟨X, O, none⟩ = some (.int .i64 z.1)) (hc2 : w.cell? ⟨X, O + 1, none⟩ = some (.int .i64 z.2)) (hb : base ≤ w.heap.size) (hl : zs.length ≤ 100000)
    (hK : ∀ v' w', w'.ownsRow base 102 2 v' (zs ++ [z]).length (cb (zs ++ [z])) → w.grownBy w' v.ownBlock → Kc (a.put o.dst v') w') : o.wp Tryz.prog a w Kc Q := by
  obtain ⟨i0, hi, hzz⟩ := Option.map_eq_some_iff.1 info99
  simp only [Prod.mk.injEq] at hzz
  obtain ⟨hz0, hz1, hz2⟩ := hzz
  refine wp_append_own w s x 67 ho base 102 i0 _ 2 16 Tryz.underlying67 hi hz0 hz1 hz2 rfl (by decide) v zs.length (cb zs) hs hown ⟨X, O, none⟩ 1 cx [.int .i64 z.1, .int .i64 z.2] hx rfl (fun j u hj => ?_) (fun u hu => by simp at hu; rcases hu with rfl | rfl <;> rfl) (by unfold maxLen; omega) (by omega) hb fun v' w' h2 h3 _ => hK v' w' ?_ h3
  · have hj2 : j < 2 := by have := (List.getElem?_eq_some_iff.1 hj).1; simpa using this
    have : j = 0 ∨ j = 1 := by omega
    rcases this with rfl | rfl
    · rw [WideShapes.add_plain, Nat.add_zero, hc, ← hj]; rfl
    · rw [WideShapes.add_plain, hc2, ← hj]; rfl
  · rw [List.length_append, cb_app]; exact h2
theorem wpList_appC {ops : Array Oper} {rest : List Oper} {o : Oper} {a : Act} {Q : Exit → Act → World → Prop} (w : World) (hgd : o.guard = none) (s x : Operand)
    (ho : o.op = .call { callee := .builtin .append, args := #[s, x], argTypes := #[67, 67] })
    (base : Nat) (v : Value) (zs : List (Int × Int)) (hs : a.eval s = v) (hown : w.ownsRow base 102 2 v zs.length (cb zs)) (X O cx : Nat) (z : Int × Int) (hx : a.eval x = .slice (some ⟨X, O, none⟩) 1 cx) (hc : w.cell? ⟨X, O, none⟩ = some (.int .i64 z.1)) (hc2 : w.cell? ⟨X, O + 1, none⟩ = some (.int .i64 z.2)) (hb : base ≤ w.heap.size) (hl : zs.length ≤ 100000)
    (hK : ∀ v' w', w'.ownsRow base 102 2 v' (zs ++ [z]).length (cb (zs ++ [z])) → w.grownBy w' v.ownBlock → wpList Tryz.prog ops Q rest (a.put o.dst v') w') : wpList Tryz.prog ops Q (o :: rest) a w :=
  wpList_plain hgd fun _ hKK => wp_appC w s x ho base v zs hs hown X O cx z hx hc hc2 hb hl fun v' w' h2 h3 => hKK _ _ (hK v' w' h2 h3)
/-- An answer that is a list of cells (or a code). -/
def SRes (c : Int) (zs : List (Int × Int)) (w : World) (e : Ending) (w' : World) : Prop :=
  ∃ a cap, e = .returned (.agg #[.int .i64 c, .slice a (if c = 0 then zs else []).length cap]) ∧ Below w.heap.size w w' ∧ Own w' w.heap.size w'.heap.size a (if c = 0 then zs else []).length (kC (if c = 0 then zs else [])) (vC (if c = 0 then zs else []))
theorem sres_bad {c : Int} {zs : List (Int × Int)} {w w' : World} (hb : Below w.heap.size w w') (hc : c ≠ 0) : SRes c zs w (.returned (.agg #[.int .i64 c, .slice none 0 0])) w' := by
  rw [SRes]
  simp only [if_neg hc]
  exact ⟨none, 0, rfl, hb, Nat.le_refl _, .inl rfl⟩
theorem sres_ok {c : Int} {zs : List (Int × Int)} {w wq w' : World} {v : Value} {lo l h : Nat} (hc : c = 0) (hB : Below w.heap.size w wq) (hl : w.heap.size ≤ l) (hlh : l ≤ h) (hh : h ≤ lo)
    (ho : wq.ownsRow lo 102 2 v zs.length (cb zs)) (hw : Writes l h wq w') (hs : w'.heap.size = wq.heap.size) : SRes c zs w (.returned (.agg #[.int .i64 0, v])) w' := by
  rw [SRes, hc]
  simp only [if_true]
  obtain ⟨a, cap, rfl, ho2⟩ := ownC_of_row ho
  refine ⟨a, cap, rfl, Writes.below hB hw hl, ?_⟩
  rw [hs]
  exact (ho2.writes hw (.inr hh)).wide (by omega) (Nat.le_refl _) (by omega)
/-- Whether the k-th row's cell is told; what a scan answers, of the first k rows. -/
def scB (q : Nat) (R : Nat → Rw) (x o lo hi : Int) (k : Nat) : Bool := rdB q R x o (R k).key && inB (R k).key lo hi
def scL (q : Nat) (R : Nat → Rw) (x o lo hi : Int) : Nat → List (Int × Int)
  | 0 => []
  | k + 1 => if scB q R x o lo hi k = true then scL q R x o lo hi k ++ [((R k).key, rdV q R x o (R k).key)] else scL q R x o lo hi k
theorem scL_len (q : Nat) (R : Nat → Rw) (x o lo hi : Int) : ∀ k, (scL q R x o lo hi k).length ≤ k
  | 0 => Nat.le_refl _
  | k + 1 => by
    have := scL_len q R x o lo hi k
    simp only [scL]
    split
    · simp; omega
    · omega
theorem fi_self {f : Nat → Bool} : ∀ (m k j : Nat), j < m → f (k + j) = true → (∀ i, i < j → f (k + i) = false) → fi f m k = ((k + j : Nat) : Int)
  | 0, k, j, h, _, _ => absurd h (Nat.not_lt_zero _)
  | m + 1, k, 0, h, h1, h2 => by simp [fi, show f k = true from h1]
  | m + 1, k, j + 1, h, h1, h2 => by
    have h0 : f k = false := h2 0 (by omega)
    have := fi_self (f := f) m (k + 1) j (by omega) (by rw [show k + 1 + j = k + (j + 1) by omega]; exact h1) (fun i hi => by rw [show k + 1 + i = k + (i + 1) by omega]; exact h2 (i + 1) (by omega))
    simp only [fi, h0]
    rw [show k + (j + 1) = k + 1 + j by omega, ← this]
    rfl
theorem fR_self {q : Nat} {R : Nat → Rw} (hs : ∀ j, j < q → ∀ i, i < j → (R i).key < (R j).key) {k : Nat} (hk : k < q) : fR q R (R k).key = (k : Int) := by
  have := fi_self (f := fun i => (R i).key == (R k).key) q 0 k hk (by simp) (fun i hi => by have := hs k hk i hi; simp; omega)
  rw [Nat.zero_add] at this
  exact this
end Go.Proofs.YtnhlcadipkmhhaaGreat
