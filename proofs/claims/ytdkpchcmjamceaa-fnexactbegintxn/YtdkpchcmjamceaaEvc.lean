/- Transactions that grow by one that has no undos: in a set of blocks of their own; answers. -/
import Derived.Test.YtdkpchcmjamceaaEvb
import Derived.Test.YtdkpchcmjamceaaEgr
namespace Go.Proofs.Ytdkpchcmjamceaa
open Go.ChangeShapes Go.WideShapes Go.ChangeAt Go.RowKit Go.Deep Go.Joins
set_option linter.unusedVariables false
set_option maxRecDepth 20000

theorem GrTx.stepP {base top g cap : Nat} {w w' : World} {v : Value} {k : Nat} {T : Nat → Tx} {t : Tx} {ai : Option Addr} {ci : Nat} (hn : t.n = 0)
    (A : Nat → Option Addr) (c l h : Nat → Nat) (h0 : top ≤ w.heap.size) (hown : w.ownsRow base 107 5 v k (rbTx T A c k)) (hv : ∀ q, v.ownBlock = some q → q < top) (hj : ∀ i j, i < k → j < k → i ≠ j → h i ≤ l j ∨ h j ≤ l i)
    (hc : ∀ i, i < k → (∀ q, v.ownBlock = some q → q < l i ∨ h i ≤ q) ∧ (h i = 0 ∨ base ≤ l i ∧ h i ≤ top) ∧ (T i).n ≤ c i ∧ OwnU w (l i) (h i) (A i) (T i).n (T i).U)
    (ho : w'.ownsRow base 107 5 (.slice (some ⟨g, 0, none⟩) (k + 1) cap) (k + 1) (rbTx T A c k ++ rcTx t ai ci)) (hg : w.grownBy w' v.ownBlock) (hl : v.ownBlock = some g ∨ g = w.heap.size) (hlt : g < w'.heap.size) :
    OwnTxP w' (fun x => (base ≤ x ∧ x < top) ∨ (w.heap.size ≤ x ∧ x < w'.heap.size)) (some ⟨g, 0, none⟩) (k + 1) (upf T k t) := by
  have hsz := hg.size
  have far : ∀ L H, (∀ q, v.ownBlock = some q → q < L ∨ H ≤ q) → ∀ a n U, OwnU w L H a n U → OwnU w' L H a n U := by
    intro L H hq a n U hO
    obtain ⟨o0, o1 | ⟨b, off, rfl, p1, p2, p3⟩⟩ := hO
    · exact ⟨by omega, .inl o1⟩
    · have hne : some b ≠ v.ownBlock := fun e => by have := hq b e.symm; omega
      have e := hg.block b (by omega) hne
      refine ⟨by omega, .inr ⟨b, off, rfl, p1, p2, ?_⟩⟩
      exact rowU_block p3 e
  have e : rbTx (upf T k t) (fun i => if i = k then ai else A i) (fun i => if i = k then ci else c i) (k + 1) = rbTx T A c k ++ rcTx t ai ci := by
    simp only [rbTx, upf_eq, if_true]
    congr 1
    exact rbTx_congr k fun i hi => ⟨upf_ne _ _ (by omega), if_neg (by omega), if_neg (by omega)⟩
  rw [← e] at ho
  refine .inr ⟨g, 0, rfl, ?_, hlt, fun i => ho.frozenAt _, fun i => if i = k then 0 else l i, fun i => if i = k then 0 else h i, fun i j hi hj' hne => ?_, fun i hi => ?_⟩
  · rcases hl with hl | hl
    · exact .inl ⟨(hown.lt g hl).1, hv g hl⟩
    · exact .inr ⟨by omega, hlt⟩
  · by_cases c1 : i = k <;> by_cases c2 : j = k <;> simp only [c1, c2, if_true, if_false]
    · omega
    · omega
    · omega
    · exact hj i j (by omega) (by omega) hne
  · have cc : ∀ j v, j < 5 → (rcTx (upf T k t i) (if i = k then ai else A i) (if i = k then ci else c i))[j]? = some v → w'.cell? ⟨g, 0 + i * 5 + j, none⟩ = some v := fun j v hj hv => by
      rw [ho.cellAt (0 + i * 5 + j) (by omega), show 0 + i * 5 + j = i * 5 + j by omega, rbTx_get _ _ _ (k + 1) i j hi hj, hv]
    have hC : CTx w' g (0 + i * 5) (upf T k t i) (if i = k then ai else A i) (if i = k then ci else c i) := ⟨cc 0 _ (by omega) rfl, cc 1 _ (by omega) rfl, cc 2 _ (by omega) rfl, cc 3 _ (by omega) rfl, cc 4 _ (by omega) rfl⟩
    by_cases e : i = k
    · subst e
      refine ⟨.inr (by simp), fun x h1 h2 => by simp at h2, _, _, hC, ?_, ?_⟩
      · rw [upf_eq, hn]; exact Nat.zero_le _
      · rw [upf_eq, hn]; simp only [if_true]; exact ⟨Nat.zero_le _, .inl rfl⟩
    · obtain ⟨m1, m2, m3, m4⟩ := hc i (by omega)
      simp only [if_neg e] at hC ⊢
      rw [upf_ne _ _ e] at hC ⊢
      refine ⟨?_, fun x x1 x2 => .inl (by omega), _, _, hC, m3, far _ _ m1 _ _ _ m4⟩
      rcases hl with hl | hl
      · exact m1 g hl
      · omega
theorem wp_grTxP {o : Oper} {a : Act} {Kc : Act → World → Prop} {Q : Exit → Act → World → Prop} (w : World) (s x : Operand)
    (ho : o.op = .call { callee := .builtin .append, args := #[s, x], argTypes := #[44, 44] })
    (base top : Nat) (v : Value) (k : Nat) (T : Nat → Tx) (hs : a.eval s = v) (hgr : GrTx base top w v k T) (X O cx : Nat) (t : Tx) (ai : Option Addr) (ci : Nat) (hx : a.eval x = .slice (some ⟨X, O, none⟩) 1 cx) (hC : CTx w X O t ai ci)
    (hb : base ≤ top) (hn : t.n = 0) (hlen : k ≤ 100000)
    (hK : ∀ g cap w', OwnTxP w' (fun x => (base ≤ x ∧ x < top) ∨ (w.heap.size ≤ x ∧ x < w'.heap.size)) (some ⟨g, 0, none⟩) (k + 1) (upf T k t) → w.grownBy w' v.ownBlock → (∀ q, v.ownBlock = some q → base ≤ q ∧ q < top) → Kc (a.put o.dst (.slice (some ⟨g, 0, none⟩) (k + 1) cap)) w') : o.wp Try.prog a w Kc Q := by
  obtain ⟨i0, hi, hz0, hz1, hz2⟩ := info_parts2 infoTx
  obtain ⟨h0, A, c, l, h, hown, hv, hj, hc⟩ := hgr
  refine wp_append_lies w s x 44 ho base 107 i0 _ 5 56 Try.underlying44 hi hz0 hz1 hz2 rfl (by decide) v k (rbTx T A c k) hs hown ⟨X, O, none⟩ 1 cx (rcTx t ai ci) hx rfl (fun j u hju => ?_) (rcTx_one _ _ _) (by decide) (by unfold maxLen; omega) (by omega) (by omega) _ rfl ?_
  · obtain ⟨h0, h1, h2, h3, h4⟩ := hC
    rw [WideShapes.add_plain]
    have hd : j < 5 := by have := (List.getElem?_eq_some_iff.1 hju).1; simpa [rcTx] using this
    have hd2 : j = 0 ∨ j = 1 ∨ j = 2 ∨ j = 3 ∨ j = 4 := by omega
    rcases hd2 with rfl | rfl | rfl | rfl | rfl
    · rw [← hju]; rw [Nat.add_zero]; exact h0
    · rw [← hju]; exact h1
    · rw [← hju]; exact h2
    · rw [← hju]; exact h3
    · rw [← hju]; exact h4
  · intro g cap w' ho2 hg2 hl2 hlt2
    exact hK g cap w' (GrTx.stepP hn A c l h h0 hown hv hj hc ho2 hg2 hl2 hlt2) hg2 fun q hq => ⟨(hown.lt q hq).1, hv q hq⟩
theorem wpList_grTxP {ops : Array Oper} {rest : List Oper} {o : Oper} {a : Act} {Q : Exit → Act → World → Prop} (w : World) (hgd : o.guard = none) (s x : Operand)
    (ho : o.op = .call { callee := .builtin .append, args := #[s, x], argTypes := #[44, 44] })
    (base top : Nat) (v : Value) (k : Nat) (T : Nat → Tx) (hs : a.eval s = v) (hgr : GrTx base top w v k T) (X O cx : Nat) (t : Tx) (ai : Option Addr) (ci : Nat) (hx : a.eval x = .slice (some ⟨X, O, none⟩) 1 cx) (hC : CTx w X O t ai ci)
    (hb : base ≤ top) (hn : t.n = 0) (hlen : k ≤ 100000)
    (hK : ∀ g cap w', OwnTxP w' (fun x => (base ≤ x ∧ x < top) ∨ (w.heap.size ≤ x ∧ x < w'.heap.size)) (some ⟨g, 0, none⟩) (k + 1) (upf T k t) → w.grownBy w' v.ownBlock → (∀ q, v.ownBlock = some q → base ≤ q ∧ q < top) → wpList Try.prog ops Q rest (a.put o.dst (.slice (some ⟨g, 0, none⟩) (k + 1) cap)) w') : wpList Try.prog ops Q (o :: rest) a w :=
  wpList_plain hgd fun _ hKK => wp_grTxP w s x ho base top v k T hs hgr X O cx t ai ci hx hC hb hn hlen fun g cap w' h2 h3 h4 => hKK _ _ (hK g cap w' h2 h3 h4)
theorem step_grTxP {ops : Array Oper} {o : Oper} {a : Act} {Kc : Act → World → Prop} {Q : Exit → Act → World → Prop} {Ee : Prop} (w : World) (hgd : o.guard = none) (s x : Operand)
    (ho : o.op = .call { callee := .builtin .append, args := #[s, x], argTypes := #[44, 44] })
    (base top : Nat) (v : Value) (k : Nat) (T : Nat → Tx) (hs : a.eval s = v) (hgr : GrTx base top w v k T) (X O cx : Nat) (t : Tx) (ai : Option Addr) (ci : Nat) (hx : a.eval x = .slice (some ⟨X, O, none⟩) 1 cx) (hC : CTx w X O t ai ci)
    (hb : base ≤ top) (hn : t.n = 0) (hlen : k ≤ 100000)
    (hK : ∀ g cap w', OwnTxP w' (fun x => (base ≤ x ∧ x < top) ∨ (w.heap.size ≤ x ∧ x < w'.heap.size)) (some ⟨g, 0, none⟩) (k + 1) (upf T k t) → w.grownBy w' v.ownBlock → (∀ q, v.ownBlock = some q → base ≤ q ∧ q < top) → Kc (a.put o.dst (.slice (some ⟨g, 0, none⟩) (k + 1) cap)) w') :
    if Region.wanted o (yielded ops a.tmps) = true then Oper.wp Try.prog o a w Kc Q else Ee := by
  have hw : Region.wanted o (yielded ops a.tmps) = true := by simp [Region.wanted, hgd]
  rw [if_pos hw]
  exact wp_grTxP w s x ho base top v k T hs hgr X O cx t ai ci hx hC hb hn hlen hK
theorem grown_writes2 {w w' : World} {r : Option Nat} {lo hi : Nat} (hg : w.grownBy w' r) (h : ∀ q, r = some q → lo ≤ q ∧ q < hi) : Writes lo hi w w' :=
  ⟨hg.os, hg.tape, hg.output, hg.size, fun k hk hd => hg.block k hk fun e => by have := h k e.symm; omega⟩
theorem OwnTxP.writes {w w' : World} {P : Nat → Prop} {lo hi : Nat} {a : Option Addr} {n : Nat} {T : Nat → Tx} (h : OwnTxP w P a n T) (hw : Writes lo hi w w') (hd : ∀ x, P x → x < lo ∨ hi ≤ x) : OwnTxP w' P a n T :=
  h.keep hw.size fun x hx h1 => hw.block x h1 (hd x hx)
/-- An answer that is an engine: its transactions lie in two ranges, its rows in one between them. -/
theorem eres_own2 {w wz w7 : World} {E' : En} {v : Int} {a a' : Option Addr} {c c' b0 M C Z Y l h : Nat} (hb : Below w.heap.size w wz) (h1 : w.heap.size ≤ l) (h2 : h ≤ b0) (h3 : b0 ≤ M) (h5 : M ≤ C) (h6 : C ≤ Z) (h4 : Y ≤ wz.heap.size) (h8 : C ≤ wz.heap.size) (h7 : l ≤ h) (ht : OwnTxP wz (fun x => (b0 ≤ x ∧ x < M) ∨ (Z ≤ x ∧ x < Y)) a E'.p E'.T) (hr : OwnRw wz M C a' E'.q E'.R) (hw : Writes l h wz w7) (hs : w7.heap.size = wz.heap.size) :
    ERes2 0 v E' w (.returned (.agg #[.int .i64 0, .int .i64 v, .int .i64 E'.nx, .int .i64 E'.ck, .slice a E'.p c, .slice a' E'.q c'])) w7 := by
  refine ⟨a, c, a', c', rfl, Writes.below hb hw h1, Nat.le_refl _, _, _, fun x hx => ?_, fun x hx => ?_, fun x hx hy => ?_, ht.writes hw fun x hx => ?_, (hr.writes hw (.inr (by omega))).toP⟩
  · rw [hs]; omega
  · rw [hs]; omega
  · omega
  · right; omega
end Go.Proofs.Ytdkpchcmjamceaa
