/- Lists of transactions that grow by append. -/
import Derived.Test.YtjdodbiphijjgaaEe
import Derived.Test.YtjdodbiphijjgaaUc
import Derived.Deep.AppendLies
import Derived.Laws.AppendOwn
import Derived.OwnWalk
namespace Go.Proofs.Ytjdodbiphijjgaa
open Go.ChangeShapes Go.WideShapes Go.ChangeAt Go.RowKit Go.Deep Go.Joins
set_option linter.unusedVariables false
set_option maxRecDepth 20000

theorem ownsRow_of {w w' : World} {base n s : Nat} {e : TypeId} {v : Value} {xs : List Value} (h : w.ownsRow base e s v n xs) (hb : ∀ q, v.ownBlock = some q → w'.heap[q]? = w.heap[q]?) : w'.ownsRow base e s v n xs := by
  obtain ⟨h1, h2 | ⟨g, cap, cur, rfl, k1, k2, k3⟩⟩ := h
  · exact ⟨h1, .inl h2⟩
  · exact ⟨h1, .inr ⟨g, cap, cur, rfl, k1, (hb g rfl).trans k2, k3⟩⟩
theorem info_parts2 {P : Program} {t : TypeId} {z : Value} {s b : Nat} (h : (P.info? t).map (fun i => (i.zero, i.size, i.bytes)) = some (some z, s, b)) : ∃ i, P.info? t = some i ∧ i.zero = some z ∧ i.size = s ∧ i.bytes = b := by
  obtain ⟨i, hi, hzz⟩ := Option.map_eq_some_iff.1 h
  simp only [Prod.mk.injEq] at hzz
  exact ⟨i, hi, hzz.1, hzz.2.1, hzz.2.2⟩
/-- The cells of the first k. -/
def rcTx (t : Tx) (A : Option Addr) (c : Nat) : List Value := [.int .i64 t.id, .int .i64 t.am, .int .i64 t.st, .int .i64 t.dn, .slice A t.n c]
def rbTx (T : Nat → Tx) (A : Nat → Option Addr) (c : Nat → Nat) : Nat → List Value
  | 0 => []
  | k + 1 => rbTx T A c k ++ rcTx (T k) (A k) (c k)
theorem rbTx_len (T : Nat → Tx) (A : Nat → Option Addr) (c : Nat → Nat) : ∀ k, (rbTx T A c k).length = k * 5
  | 0 => rfl
  | k + 1 => by simp only [rbTx, List.length_append, rbTx_len T A c k, rcTx, List.length_cons, List.length_nil]; omega
theorem rbTx_get (T : Nat → Tx) (A : Nat → Option Addr) (c : Nat → Nat) : ∀ k i j, i < k → j < 5 → (rbTx T A c k)[i * 5 + j]? = (rcTx (T i) (A i) (c i))[j]?
  | 0, i, j, h, _ => by omega
  | k + 1, i, j, h, hj => by
    simp only [rbTx]
    by_cases e : i = k
    · subst e
      rw [List.getElem?_append_right (by rw [rbTx_len]; omega), rbTx_len]
      congr 1; omega
    · rw [List.getElem?_append_left (by rw [rbTx_len]; omega)]
      exact rbTx_get T A c k i j (by omega) hj
theorem rbTx_congr {T T' : Nat → Tx} {A A' : Nat → Option Addr} {c c' : Nat → Nat} : ∀ k, (∀ i, i < k → T i = T' i ∧ A i = A' i ∧ c i = c' i) → rbTx T A c k = rbTx T' A' c' k
  | 0, _ => rfl
  | k + 1, h => by
    obtain ⟨e1, e2, e3⟩ := h k (by omega)
    simp only [rbTx, e1, e2, e3, rbTx_congr k (fun i hi => h i (by omega))]
theorem rcTx_one (t : Tx) (A : Option Addr) (c : Nat) : ∀ u ∈ rcTx t A c, u.oneCell' = true := by
  intro u hu
  simp [rcTx] at hu
  rcases hu with rfl | rfl | rfl | rfl | rfl <;> rfl
/-- A list of k that grows: it and what its elements hold lie in blocks of their own from base on, below top. -/
def GrTx (base top : Nat) (w : World) (v : Value) (k : Nat) (T : Nat → Tx) : Prop :=
  top ≤ w.heap.size ∧ ∃ (A : Nat → Option Addr) (c l h : Nat → Nat), w.ownsRow base 61 5 v k (rbTx T A c k) ∧ (∀ q, v.ownBlock = some q → q < top) ∧ (∀ i j, i < k → j < k → i ≠ j → h i ≤ l j ∨ h j ≤ l i) ∧
    ∀ i, i < k → (∀ q, v.ownBlock = some q → q < l i ∨ h i ≤ q) ∧ (h i = 0 ∨ base ≤ l i ∧ h i ≤ top) ∧ (T i).n ≤ c i ∧ OwnUC w (l i) (h i) (A i) (c i) (T i).n (T i).U
theorem GrTx.nil (base : Nat) (w : World) (T : Nat → Tx) : GrTx base w.heap.size w (.slice none 0 0) 0 T :=
  ⟨Nat.le_refl _, fun _ => none, fun _ => 0, fun _ => 0, fun _ => 0, World.ownsRow_nil _ _ _ _, fun q hq => by simp [Value.ownBlock] at hq, fun i j hi => by omega, fun i hi => by omega⟩
theorem GrTx.made (base : Nat) (w : World) (T : Nat → Tx) (hb : base ≤ w.heap.size) : GrTx base (w.alloc (.cells #[] 61)).heap.size (w.alloc (.cells #[] 61)) (.slice (some ⟨w.heap.size, 0, none⟩) 0 0) 0 T :=
  ⟨Nat.le_refl _, fun _ => none, fun _ => 0, fun _ => 0, fun _ => 0, World.ownsRow_made w #[] 0 hb (by unfold maxLen; omega) rfl, fun q hq => by simp [Value.ownBlock] at hq; subst hq; simp, fun i j hi => by omega, fun i hi => by omega⟩
theorem GrTx.writes {base top lo hi : Nat} {w w' : World} {v : Value} {k : Nat} {T : Nat → Tx} (h : GrTx base top w v k T) (hw : Writes lo hi w w') (hd : hi ≤ base ∨ top ≤ lo) : GrTx base top w' v k T := by
  obtain ⟨h0, A, c, l, h, ho, hv, hj, hc⟩ := h
  refine ⟨Nat.le_trans h0 hw.size, A, c, l, h, ownsRow_of ho fun q hq => hw.block q (by have := hv q hq; omega) (by have h1 := hv q hq; have h2 := (ho.lt q hq).1; omega), hv, hj, fun i hi => ?_⟩
  obtain ⟨k1, k2, k3, k4⟩ := hc i hi
  exact ⟨k1, k2, k3, k4.writes hw (by omega)⟩
theorem GrTx.below {base top : Nat} {w w' : World} {v : Value} {k : Nat} {T : Nat → Tx} (h : GrTx base top w v k T) (hb : Below w.heap.size w w') : GrTx base top w' v k T :=
  h.writes (Writes.of_below (lo := w.heap.size) (hi := w.heap.size) hb) (.inr h.1)
theorem GrTx.wide {base top top' : Nat} {w : World} {v : Value} {k : Nat} {T : Nat → Tx} (h : GrTx base top w v k T) (h1 : top ≤ top') (h2 : top' ≤ w.heap.size) : GrTx base top' w v k T := by
  obtain ⟨h0, A, c, l, h, ho, hv, hj, hc⟩ := h
  exact ⟨h2, A, c, l, h, ho, fun q hq => Nat.lt_of_lt_of_le (hv q hq) h1, hj, fun i hi => by obtain ⟨k1, k2, k3⟩ := hc i hi; exact ⟨k1, by omega, k3⟩⟩
theorem GrTx.congr {base top : Nat} {w : World} {v : Value} {k : Nat} {T T' : Nat → Tx} (h : GrTx base top w v k T) (e : ∀ i, i < k → T i = T' i) : GrTx base top w v k T' := by
  obtain ⟨h0, A, c, l, h, ho, hv, hj, hc⟩ := h
  exact ⟨h0, A, c, l, h, by rw [← rbTx_congr k fun i hi => ⟨e i hi, rfl, rfl⟩]; exact ho, hv, hj, fun i hi => by rw [← e i hi]; exact hc i hi⟩
theorem GrTx.own {base top : Nat} {w : World} {v : Value} {k : Nat} {T : Nat → Tx} (h : GrTx base top w v k T) : ∃ a cap, v = .slice a k cap ∧ k ≤ cap ∧ OwnTx w base top a k T := by
  obtain ⟨h0, A, c, l, h, ho, hv, hj, hc⟩ := h
  have hown := ho
  obtain ⟨h1, ⟨rfl, rfl⟩ | ⟨g, cap, cur, rfl, k1, k2, k3, k4⟩⟩ := ho
  · exact ⟨none, 0, rfl, Nat.le_refl _, h0, .inl rfl⟩
  · have hg := hv g rfl
    refine ⟨_, cap, rfl, k3, h0, .inr ⟨g, 0, rfl, k1, hg, fun i => hown.frozenAt _, l, h, hj, fun i hi => ?_⟩⟩
    obtain ⟨m1, m2, m3, m4⟩ := hc i hi
    refine ⟨m1 g rfl, m2, A i, c i, ?_, m3, m4.toU⟩
    have cc : ∀ j v, j < 5 → (rcTx (T i) (A i) (c i))[j]? = some v → w.cell? ⟨g, 0 + i * 5 + j, none⟩ = some v := fun j v hj hv => by
      rw [hown.cellAt (0 + i * 5 + j) (by omega), show 0 + i * 5 + j = i * 5 + j by omega, rbTx_get T A c k i j hi hj, hv]
    exact ⟨cc 0 _ (by omega) rfl, cc 1 _ (by omega) rfl, cc 2 _ (by omega) rfl, cc 3 _ (by omega) rfl, cc 4 _ (by omega) rfl⟩
theorem GrTx.step {base top l' h' g cap : Nat} {w w' : World} {v : Value} {k : Nat} {T : Nat → Tx} {t : Tx} {ai : Option Addr} {ci : Nat} (hk : (h' = 0 ∨ top ≤ l' ∧ h' ≤ w.heap.size)) (hb : base ≤ top) (hn : t.n ≤ ci) (hu : OwnUC w l' h' ai ci t.n t.U)
    (A : Nat → Option Addr) (c l h : Nat → Nat) (h0 : top ≤ w.heap.size) (hv : ∀ q, v.ownBlock = some q → q < top) (hj : ∀ i j, i < k → j < k → i ≠ j → h i ≤ l j ∨ h j ≤ l i)
    (hc : ∀ i, i < k → (∀ q, v.ownBlock = some q → q < l i ∨ h i ≤ q) ∧ (h i = 0 ∨ base ≤ l i ∧ h i ≤ top) ∧ (T i).n ≤ c i ∧ OwnUC w (l i) (h i) (A i) (c i) (T i).n (T i).U)
    (ho : w'.ownsRow base 61 5 (.slice (some ⟨g, 0, none⟩) (k + 1) cap) (k + 1) (rbTx T A c k ++ rcTx t ai ci)) (hg : w.grownBy w' v.ownBlock) (hl : v.ownBlock = some g ∨ g = w.heap.size) (hlt : g < w'.heap.size) :
    GrTx base w'.heap.size w' (.slice (some ⟨g, 0, none⟩) (k + 1) cap) (k + 1) (upf T k t) := by
  have hsz := hg.size
  have far : ∀ L H, (∀ q, v.ownBlock = some q → q < L ∨ H ≤ q) → ∀ a x n U, OwnUC w L H a x n U → OwnUC w' L H a x n U := by
    intro L H hq a x n U hO
    refine hO.keep hsz fun b hb => ?_
    have b1 := hO.2.2 b hb
    have b2 := hO.2.1.lt b hb
    exact hg.block b b2.2 fun e => by have := hq b e.symm; omega
  refine ⟨Nat.le_refl _, fun i => if i = k then ai else A i, fun i => if i = k then ci else c i, fun i => if i = k then l' else l i, fun i => if i = k then h' else h i, ?_, fun q hq => by simp [Value.ownBlock] at hq; subst hq; exact hlt, fun i j hi hj' hne => ?_, fun i hi => ?_⟩
  · have e : rbTx (upf T k t) (fun i => if i = k then ai else A i) (fun i => if i = k then ci else c i) (k + 1) = rbTx T A c k ++ rcTx t ai ci := by
      simp only [rbTx, upf_eq, if_true]
      congr 1
      exact rbTx_congr k fun i hi => ⟨upf_ne _ _ (by omega), if_neg (by omega), if_neg (by omega)⟩
    rw [e]; exact ho
  · by_cases c1 : i = k <;> by_cases c2 : j = k <;> simp only [c1, c2, if_true, if_false]
    · omega
    · have := (hc j (by omega)).2.1; omega
    · have := (hc i (by omega)).2.1; omega
    · exact hj i j (by omega) (by omega) hne
  · by_cases e : i = k
    · subst e
      simp only [if_true, upf_eq]
      refine ⟨fun q hq => ?_, by omega, hn, far l' h' (fun q hq => by have := hv q hq; omega) _ _ _ _ hu⟩
      simp only [Value.ownBlock, Option.some.injEq] at hq
      subst hq
      rcases hl with hl | hl
      · have := hv g hl; omega
      · omega
    · simp only [if_neg e]
      rw [upf_ne _ _ e]
      obtain ⟨m1, m2, m3, m4⟩ := hc i (by omega)
      refine ⟨fun q hq => ?_, by omega, m3, far _ _ m1 _ _ _ _ m4⟩
      simp only [Value.ownBlock, Option.some.injEq] at hq
      subst hq
      rcases hl with hl | hl
      · exact m1 g hl
      · omega
theorem wp_grTx {o : Oper} {a : Act} {Kc : Act → World → Prop} {Q : Exit → Act → World → Prop} (w : World) (s x : Operand)
    (ho : o.op = .call { callee := .builtin .append, args := #[s, x], argTypes := #[24, 24] })
    (base top : Nat) (v : Value) (k : Nat) (T : Nat → Tx) (hs : a.eval s = v) (hgr : GrTx base top w v k T) (X O cx : Nat) (t : Tx) (ai : Option Addr) (ci l' h' : Nat) (hx : a.eval x = .slice (some ⟨X, O, none⟩) 1 cx) (hC : CTx w X O t ai ci)
    (hk : (h' = 0 ∨ top ≤ l' ∧ h' ≤ w.heap.size)) (hb : base ≤ top) (hn : t.n ≤ ci) (hu : OwnUC w l' h' ai ci t.n t.U) (hlen : k ≤ 100000)
    (hK : ∀ g cap w', GrTx base w'.heap.size w' (.slice (some ⟨g, 0, none⟩) (k + 1) cap) (k + 1) (upf T k t) → w.grownBy w' v.ownBlock → Kc (a.put o.dst (.slice (some ⟨g, 0, none⟩) (k + 1) cap)) w') : o.wp Try.prog a w Kc Q := by
  obtain ⟨i0, hi, hz0, hz1, hz2⟩ := info_parts2 infoTx
  obtain ⟨h0, A, c, l, h, hown, hv, hj, hc⟩ := hgr
  refine wp_append_lies w s x 24 ho base 61 i0 _ 5 56 Try.underlying24 hi hz0 hz1 hz2 rfl (by decide) v k (rbTx T A c k) hs hown ⟨X, O, none⟩ 1 cx (rcTx t ai ci) hx rfl (fun j u hju => ?_) (rcTx_one _ _ _) (by decide) (by unfold maxLen; omega) (by omega) (by omega) _ rfl ?_
  · obtain ⟨h0, h1, h2, h3, h4⟩ := hC
    rw [WideShapes.add_plain]
    have hd : j < 5 := by have := (List.getElem?_eq_some_iff.1 hju).1; simpa [rcTx] using this
    have hd2 : j = 0 ∨ j = 1 ∨ j = 2 ∨ j = 3 ∨ j = 4 := by omega
    rcases hd2 with rfl | rfl | rfl | rfl | rfl
    · rw [← hju]; rw [Nat.add_zero]; exact h0
    · rw [← hju]; exact h1
    · rw [← hju]; exact h2
    · rw [← hju]; exact h3
    · rw [← hju]; exact h4
  · intro g cap w' ho2 hg2 hl2 hlt2
    exact hK g cap w' (GrTx.step hk hb hn hu A c l h h0 hv hj hc ho2 hg2 hl2 hlt2) hg2
theorem wpList_grTx {ops : Array Oper} {rest : List Oper} {o : Oper} {a : Act} {Q : Exit → Act → World → Prop} (w : World) (hgd : o.guard = none) (s x : Operand)
    (ho : o.op = .call { callee := .builtin .append, args := #[s, x], argTypes := #[24, 24] })
    (base top : Nat) (v : Value) (k : Nat) (T : Nat → Tx) (hs : a.eval s = v) (hgr : GrTx base top w v k T) (X O cx : Nat) (t : Tx) (ai : Option Addr) (ci l' h' : Nat) (hx : a.eval x = .slice (some ⟨X, O, none⟩) 1 cx) (hC : CTx w X O t ai ci)
    (hk : (h' = 0 ∨ top ≤ l' ∧ h' ≤ w.heap.size)) (hb : base ≤ top) (hn : t.n ≤ ci) (hu : OwnUC w l' h' ai ci t.n t.U) (hlen : k ≤ 100000)
    (hK : ∀ g cap w', GrTx base w'.heap.size w' (.slice (some ⟨g, 0, none⟩) (k + 1) cap) (k + 1) (upf T k t) → w.grownBy w' v.ownBlock → wpList Try.prog ops Q rest (a.put o.dst (.slice (some ⟨g, 0, none⟩) (k + 1) cap)) w') : wpList Try.prog ops Q (o :: rest) a w :=
  wpList_plain hgd fun _ hKK => wp_grTx w s x ho base top v k T hs hgr X O cx t ai ci l' h' hx hC hk hb hn hu hlen fun g cap w' h2 h3 => hKK _ _ (hK g cap w' h2 h3)
theorem step_grTx {ops : Array Oper} {o : Oper} {a : Act} {Kc : Act → World → Prop} {Q : Exit → Act → World → Prop} {Ee : Prop} (w : World) (hgd : o.guard = none) (s x : Operand)
    (ho : o.op = .call { callee := .builtin .append, args := #[s, x], argTypes := #[24, 24] })
    (base top : Nat) (v : Value) (k : Nat) (T : Nat → Tx) (hs : a.eval s = v) (hgr : GrTx base top w v k T) (X O cx : Nat) (t : Tx) (ai : Option Addr) (ci l' h' : Nat) (hx : a.eval x = .slice (some ⟨X, O, none⟩) 1 cx) (hC : CTx w X O t ai ci)
    (hk : (h' = 0 ∨ top ≤ l' ∧ h' ≤ w.heap.size)) (hb : base ≤ top) (hn : t.n ≤ ci) (hu : OwnUC w l' h' ai ci t.n t.U) (hlen : k ≤ 100000)
    (hK : ∀ g cap w', GrTx base w'.heap.size w' (.slice (some ⟨g, 0, none⟩) (k + 1) cap) (k + 1) (upf T k t) → w.grownBy w' v.ownBlock → Kc (a.put o.dst (.slice (some ⟨g, 0, none⟩) (k + 1) cap)) w') :
    if Region.wanted o (yielded ops a.tmps) = true then Oper.wp Try.prog o a w Kc Q else Ee := by
  have hw : Region.wanted o (yielded ops a.tmps) = true := by simp [Region.wanted, hgd]
  rw [if_pos hw]
  exact wp_grTx w s x ho base top v k T hs hgr X O cx t ai ci l' h' hx hC hk hb hn hu hlen hK
end Go.Proofs.Ytjdodbiphijjgaa
