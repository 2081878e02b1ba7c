/- Edges where they stand first: the program's eachOnce. -/
import Derived.Test.YtnmmnhfgkcdajaaEee
import Derived.Test.YtnmmnhfgkcdajaaEdj
import Derived.Deep.AppendLies
import Derived.Shelf.RegionOpen
namespace Go.Proofs.Ytnmmnhfgkcdajaa
open Go.RowKit Go.Shelf Go.Deep Go.Maps
set_option linter.unusedVariables false
attribute [local go_sem] Oper.semAt_some

theorem wpListIn_appE {F : Fence} {n : Nat} (w : World) {ops : Array Oper} {rest : List Oper} {o : Oper} {a : Act} {Q : Exit → Act → World → Prop}
    (hg : o.guard = none) (s x : Operand) (hop : o.op = Op.call { callee := Callee.builtin Builtin.append, args := #[s, x], argTypes := #[40, 40] })
    (base : Nat) (v : Value) (zs : List Ed) (hs : a.eval s = v) (hown : OwnE w base v zs) (X : Nat) (e : Ed) (hx : a.eval x = .slice (some ⟨X, 0, none⟩) 1 1) (hc : EdsAt w (some ⟨X, 0, none⟩) [e]) (hl : zs.length ≤ 90000) (hb : base ≤ w.heap.size)
    (hK : ∀ g cap w', OwnE w' base (.slice (some ⟨g, 0, none⟩) (zs ++ [e]).length cap) (zs ++ [e]) → w.grownBy w' v.ownBlock → (v.ownBlock = some g ∨ g = w.heap.size) → g < w'.heap.size → wpListIn F n Try.prog ops Q rest (a.put o.dst (.slice (some ⟨g, 0, none⟩) (zs ++ [e]).length cap)) w') :
    wpListIn F n Try.prog ops Q (o :: rest) a w := by
  refine wpListIn_plain hg fun K hK' => ?_
  obtain ⟨i0, hi, hz0, hz1, hz2⟩ := info_partsN infoE
  have hc' : ∀ j u, (el [e])[j]? = some u → w.cell? ((⟨X, 0, none⟩ : Addr).add j) = some u := fun j u hj => by
    rcases hc with h | ⟨b, off, h1, _, h2⟩
    · simp at h
    · simp only [Option.some.injEq, Addr.mk.injEq, and_true] at h1
      obtain ⟨rfl, rfl⟩ := h1
      rw [WideShapes.add_plain]
      exact h2 j u hj
  obtain ⟨g, cap, w', hrun, r1, r2, r3, r4⟩ := run_append_lies (P := Try.prog) w 40 o.type base 61 i0 _ 3 24 Try.underlying40 hi hz0 hz1 hz2 rfl (by decide) v zs.length (el zs) hown ⟨X, 0, none⟩ 1 1 (el [e]) (by simp [el]) hc' (el_one _) (by omega) (by unfold maxLen; omega) (by omega) hb _ rfl
  unfold Oper.wpIn
  refine ⟨?_, ?_⟩
  · simp [Oper.about, hop, resolve, Target.leads, Sem.run_pure]
  · rw [Oper.semAt_plain F _ _ (by rw [hop]; intro c hc'; cases hc')]
    simp [execOp, hop, resolve, invoke, builtin, hs, hx, hrun, Result.andThen]
    have h9 := hK g cap w'
    have e9 : (zs ++ [e]).length = zs.length + 1 := by simp
    rw [e9] at h9
    refine hK' _ _ (h9 ?_ r2 r3 r4)
    show w'.ownsRow _ _ _ _ _ _
    rw [e9, el_app]
    exact r1
/-! ### how often -/
def cn : List Ed → Ed → Int
  | [], _ => 0
  | x :: r, e => cn r e + if eqE x e = true then 1 else 0
theorem cn_pos : ∀ (p : List Ed) (e : Ed), 0 ≤ cn p e ∧ cn p e ≤ p.length
  | [], e => by simp [cn]
  | x :: r, e => by
    have := cn_pos r e
    simp only [cn, List.length_cons]
    split <;> omega
theorem cn_snoc : ∀ (p : List Ed) (x e : Ed), cn (p ++ [x]) e = cn p e + if eqE x e = true then 1 else 0
  | [], x, e => by simp [cn]
  | y :: r, x, e => by simp only [List.cons_append, cn, cn_snoc r x e]; omega
theorem cn_mem : ∀ (p : List Ed) (e : Ed), cn p e = 0 ↔ e ∉ p
  | [], e => by simp [cn]
  | x :: r, e => by
    have h1 := cn_mem r e
    have h2 := cn_pos r e
    simp only [cn, List.mem_cons, not_or]
    by_cases q : eqE x e = true
    · rw [if_pos q]
      constructor
      · intro h; omega
      · intro h; exact absurd (eqE_iff.1 q).symm h.1
    · rw [if_neg q]
      constructor
      · intro h; exact ⟨fun z => q (by rw [z]; exact eqE_iff.2 rfl), h1.1 (by omega)⟩
      · intro h; have := h1.2 h.2; omega
def wfE (e : Ed) : Prop := (Lit.int .i64 e.f).wf = true ∧ (Lit.int .i64 e.t).wf = true ∧ (Lit.int .i64 e.k).wf = true
def klE (e : Ed) : Lit := .string (keyBytes [.int .i64 e.f, .int .i64 e.t, .int .i64 e.k])
theorem keyE' {e : Ed} (h : wfE e) : keyOf Try.prog 61 (.agg #[.int .i64 e.f, .int .i64 e.t, .int .i64 e.k]) = some (klE e) := keyE e h.1 h.2.1 h.2.2
theorem klE_inj {x e : Ed} (hx : wfE x) (he : wfE e) (h : klE x = klE e) : x = e := by
  have h1 := keyE' hx
  rw [h] at h1
  have := lawE.inj h1 (keyE' he)
  cases x; cases e
  simpa using this
def MapE (p : List Ed) (D : DataW Unit) : Prop := ∀ e, wfE e → D.atKey (klE e) (.lit (.int .i64 0)) = .lit (.int .i64 (cn p e))
theorem mapE_step {p : List Ed} {D : DataW Unit} {x : Ed} (h : MapE p D) (hD : IsMap D) (hx : wfE x) : MapE (p ++ [x]) (D.put (klE x) (.lit (.int .i64 (cn p x + 1)))) := by
  intro e he
  rw [cn_snoc]
  by_cases q : x = e
  · subst q
    rw [if_pos (eqE_iff.2 rfl)]
    exact atKey_put_same hD (keysE.key (keyE' hx)) _ _
  · rw [if_neg (fun z => q (eqE_iff.1 z)), atKey_put_other (fun z => q (klE_inj hx he z.symm)), h e he]
    simp
theorem add_snoc (p : List Ed) (x : Ed) : addAll [] (p ++ [x]) = adE (addAll [] p) x := addAll_app p [] [x]
theorem add_new {p : List Ed} {x : Ed} (h : x ∉ p) : addAll [] (p ++ [x]) = addAll [] p ++ [x] := by
  rw [add_snoc]
  unfold adE
  rw [if_neg]
  intro hm
  rcases (addAll_mem p [] x).1 (memE_iff.1 hm) with q | q
  · simp at q
  · exact h q
theorem add_old {p : List Ed} {x : Ed} (h : x ∈ p) : addAll [] (p ++ [x]) = addAll [] p := by
  rw [add_snoc]
  unfold adE
  rw [if_pos (memE_iff.2 ((addAll_mem p [] x).2 (.inr h)))]
/-- The body's own blocks: the box of out, and its row. -/
def ExO (Bo : Nat) (W : World) (b : Nat) : Prop := b = Bo ∨ ∃ len cap, W.cell? ⟨Bo, 0, none⟩ = some (.slice (some ⟨b, 0, none⟩) len cap)
theorem exO (Bo : Nat) : ExOk Bo (ExO Bo) := ⟨fun W W' hB hb b h => by
  rcases h with h | ⟨len, cap, h⟩
  · exact .inl h
  · exact .inr ⟨len, cap, ((bcell hb).1 _ _ hB).symm.trans h⟩⟩
end Go.Proofs.Ytnmmnhfgkcdajaa
