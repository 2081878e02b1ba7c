/- Lists of nodes that grow by append; regions whose last operation stores what an earlier one has loaded; one piece joined. -/
import Derived.Test.YtbnehgpefjbheaaTnt
import Derived.Test.YtbnehgpefjbheaaTnu
import Derived.Deep.AppendLies
import Derived.Laws.AppendOwn
import Derived.OwnWalk
import Derived.Deep.RegionHeld
namespace Go
section
variable {P : Program} {ops : Array Oper} {Q : Exit → Act → World → Prop} {md : Region.Mode} {S : World → Prop}
/-- Whatever order is picked from here on, and S holds behind every operation but number L. -/
def wpAnyE (P : Program) (md : Region.Mode) (ops : Array Oper) (Q : Exit → Act → World → Prop) (S : World → Prop) (L : Nat) : Nat → Array Bool → Act → World → Prop
  | 0, listed, a, w => Region.ready md ops listed = [] ∧ Q .normal a w
  | fuel + 1, listed, a, w =>
    (Region.ready md ops listed = [] → Q .normal a w) ∧
    ∀ i ∈ Region.ready md ops listed, wpOp P ops Q i (fun a' w' => (i ≠ L → S w') ∧ wpAnyE P md ops Q S L fuel (listed.setIfInBounds i true) a' w') a w
theorem wpAny_of_E {L : Nat} : ∀ (fuel : Nat) (listed : Array Bool) (a : Act) (w : World), wpAnyE P md ops Q S L fuel listed a w → wpAny P md ops Q fuel listed a w
  | 0, _, _, _, h => h
  | fuel + 1, _, _, _, h => ⟨h.1, fun i hi => wpOp_mono (fun a' w' h' => wpAny_of_E fuel _ a' w' h'.2) (h.2 i hi)⟩
theorem wpAnyE_first {L i : Nat} {oi : Oper} {v : Value} (hi : ops[i]? = some oi) (hsel : ∀ (j : Nat) (o : Oper) cs b, ops[j]? = some o → o.op ≠ .select cs b)
    (hQ : ∀ c a w, Q (.panic c) (a.put oi.dst v) w → Q (.panic c) a w) (hL : ∀ o, ops[L]? = some o → ∃ e ∈ o.after, Region.binds md e = true ∧ e.on = i) :
    ∀ (fuel : Nat) (listed : Array Bool) (a : Act) (w : World),
      (∀ j oj, ops[j]? = some oj → j ≠ i → listed.getD j true = false → (∀ e ∈ oj.after, Region.binds md e = true → e.on ≠ i) → oi.apart ops oj = true) →
      i ∈ Region.ready md ops listed → YieldsIf P ops S oi v a → S w →
      wpAnyE P md ops Q S L fuel (listed.setIfInBounds i true) (a.put oi.dst v) w → wpAnyE P md ops Q S L (fuel + 1) listed a w := by
  intro fuel
  induction fuel with
  | zero =>
    intro listed a w _ hr hy hS H
    refine ⟨fun h => (by rw [h] at hr; cases hr), fun j hj => ?_⟩
    by_cases hji : j = i
    · subst hji; exact hy.wpOp hi hS ⟨fun _ => hS, H⟩
    · have := ready_mono hj hji
      rw [H.1] at this
      cases this
  | succ fuel ih =>
    intro listed a w hfree hr hy hS H
    refine ⟨fun h => (by rw [h] at hr; cases hr), fun j hj => ?_⟩
    by_cases hji : j = i
    · subst hji; exact hy.wpOp hi hS ⟨fun _ => hS, H⟩
    · have h1 := H.2 j (ready_mono hj hji)
      obtain ⟨hjun, oj, hoj, hall⟩ := mem_ready.1 hj
      have hnot : ∀ e ∈ oj.after, Region.binds md e = true → e.on ≠ i := fun e he hb heq => by
        have h1 := hall e he hb
        have h0 := (mem_ready.1 hr).1
        rw [heq] at h1
        rcases Nat.lt_or_ge i listed.size with h' | h'
        · simp [h'] at h0 h1; rw [h0] at h1; cases h1
        · simp [Array.getElem?_eq_none h'] at h1
      have hjL : j ≠ L := fun e => by
        subst e
        obtain ⟨e, h1, h2, h3⟩ := hL oj hoj
        exact hnot e h1 h2 h3
      have h2 := wpOp_putIf hoj (hfree j oj hoj hji hjun hnot) (fun cs b => hsel i oi cs b hi) (fun cs b => hsel j oj cs b hoj) hQ hy h1
      have hfree' : ∀ k ok, ops[k]? = some ok → k ≠ i → (listed.setIfInBounds j true).getD k true = false →
          (∀ e ∈ ok.after, Region.binds md e = true → e.on ≠ i) → oi.apart ops ok = true := fun k ok hk hki hun hno => by
        refine hfree k ok hk hki ?_ hno
        by_cases hjk : j = k
        · subst hjk; exact hjun
        · rw [getD_set_ne true hjk] at hun; exact hun
      refine wpOp_mono (fun a' w' h3 => ⟨h3.2.1, ih (listed.setIfInBounds j true) a' w' hfree' (ready_mono hr (Ne.symm hji)) h3.1 (h3.2.1 hjL) ?_⟩) h2
      rw [Array.setIfInBounds_comm _ _ hji]
      exact h3.2.2
theorem wpAnyE_take {L i : Nat} {oi : Oper} {v : Value} {fuel : Nat} {listed : Array Bool} {a : Act} {w : World} (hi : ops[i]? = some oi)
    (hs : Region.noSelect ops = true) (hf : Region.free md ops listed i = true) (hr : (Region.ready md ops listed).contains i = true) (hl : (ops[L]?).all (fun o => o.after.any (fun e => Region.binds md e && e.on == i)) = true)
    (hQ : ∀ c a w, Q (.panic c) (a.put oi.dst v) w → Q (.panic c) a w) (hy : YieldsIf P ops S oi v a) (hS : S w)
    (h : wpAnyE P md ops Q S L fuel (listed.setIfInBounds i true) (a.put oi.dst v) w) : wpAnyE P md ops Q S L (fuel + 1) listed a w :=
  wpAnyE_first hi (Region.noSelect_spec hs) hQ (fun o ho => by
    rw [ho] at hl
    simp only [Option.all_some, Array.any_eq_true] at hl
    obtain ⟨x, hx, h2⟩ := hl
    simp only [Bool.and_eq_true, beq_iff_eq] at h2
    exact ⟨_, Array.getElem_mem hx, h2.1, h2.2⟩) fuel listed a w (Region.free_spec hi hf) (by simpa using hr) hy hS h
theorem wpAnyE_takeD {L i : Nat} {oi : Oper} {v : Value} {fuel : Nat} {listed : Array Bool} {a : Act} {w : World} (d : Option Tmp) (hi : ops[i]? = some oi) (hd : oi.dst = d)
    (hs : Region.noSelect ops = true) (hf : Region.free md ops listed i = true) (hr : (Region.ready md ops listed).contains i = true) (hl : (ops[L]?).all (fun o => o.after.any (fun e => Region.binds md e && e.on == i)) = true)
    (hQ : ∀ c a w, Q (.panic c) (a.put d v) w → Q (.panic c) a w) (hy : YieldsIf P ops S oi v a) (hS : S w)
    (h : wpAnyE P md ops Q S L fuel (listed.setIfInBounds i true) (a.put d v) w) : wpAnyE P md ops Q S L (fuel + 1) listed a w := by
  subst hd
  exact wpAnyE_take hi hs hf hr hl hQ hy hS h
def AllReadyE (P : Program) (md : Region.Mode) (ops : Array Oper) (Q : Exit → Act → World → Prop) (S : World → Prop) (L : Nat) (fuel : Nat) (listed : Array Bool) (a : Act) (w : World) (rs : List Nat) : Prop :=
  ∀ i ∈ rs, wpOp P ops Q i (fun a' w' => (i ≠ L → S w') ∧ wpAnyE P md ops Q S L fuel (listed.setIfInBounds i true) a' w') a w
theorem AllReadyE.nil {L fuel : Nat} {listed : Array Bool} {a : Act} {w : World} : AllReadyE P md ops Q S L fuel listed a w [] := fun _ h => by cases h
theorem AllReadyE.cons {L fuel : Nat} {listed : Array Bool} {a : Act} {w : World} {i : Nat} {o : Oper} {rs : List Nat} (ho : ops[i]? = some o)
    (h : ∀ K' : Act → World → Prop, Shut (∀ a w, S w → (S w → wpAnyE P md ops Q S L fuel (listed.setIfInBounds i true) a w) → K' a w) → if Region.wanted o (yielded ops a.tmps) = true then Oper.wp P o a w K' Q else K' (a.put o.dst undef) w)
    (hs : AllReadyE P md ops Q S L fuel listed a w rs) : AllReadyE P md ops Q S L fuel listed a w (i :: rs) := fun j hj => by
  rcases List.mem_cons.1 hj with rfl | hj
  · exact wpOp_step ho (fun K' hK => h K' (fun a w hS hW => hK a w ⟨fun _ => hS, hW hS⟩))
  · exact hs j hj
theorem AllReadyE.last {L fuel : Nat} {listed : Array Bool} {a : Act} {w : World} {o : Oper} (ho : ops[L]? = some o)
    (h : ∀ K' : Act → World → Prop, Shut (∀ a w, wpAnyE P md ops Q S L fuel (listed.setIfInBounds L true) a w → K' a w) → if Region.wanted o (yielded ops a.tmps) = true then Oper.wp P o a w K' Q else K' (a.put o.dst undef) w) :
    AllReadyE P md ops Q S L fuel listed a w [L] := fun j hj => by
  rcases List.mem_cons.1 hj with rfl | hj
  · exact wpOp_step ho (fun K' hK => h K' (fun a w hW => hK a w ⟨fun h => absurd rfl h, hW⟩))
  · cases hj
theorem wpAnyE_ready {L : Nat} {rs : List Nat} {fuel : Nat} {listed : Array Bool} {a : Act} {w : World} (hr : Region.ready md ops listed = rs) (hne : rs ≠ [])
    (h : AllReadyE P md ops Q S L fuel listed a w rs) : wpAnyE P md ops Q S L (fuel + 1) listed a w := ⟨fun h0 => absurd (hr ▸ h0) hne, hr ▸ h⟩
theorem wpAnyE_done {L : Nat} {listed : Array Bool} {a : Act} {w : World} (hr : Region.ready md ops listed = []) (h : Q .normal a w) :
    ∀ fuel, wpAnyE P md ops Q S L fuel listed a w
  | 0 => ⟨hr, h⟩
  | _ + 1 => ⟨fun _ => h, by rw [hr]; simp⟩
theorem wp_region_E (L : Nat) {id : Nat} {a : Act} {w : World} (hm : P.follows .mixedOrders = true) (hS : S w.drew)
    (h : S w.drew → wpAnyE P .any ops Q S L ops.size (Array.replicate ops.size false) a w.drew) : (Code.region id ops true).wp P Q a w :=
  wp_region_any hm (wpAny_of_E _ _ _ _ (h hS))
end
end Go
namespace Go.Proofs.Ytbnehgpefjbheaa
open Go.ChangeShapes Go.WideShapes Go.ChangeAt Go.RowKit Go.Deep Go.Joins
set_option linter.unusedVariables false
set_option maxRecDepth 20000

abbrev PA := Option Addr × Nat × Option Addr × Nat
/-- The cells of the first k. -/
def rcNd (t : Nd) (A : PA) : List Value := [.bool t.lf, .slice A.1 t.kn A.2.1, .slice A.2.2.1 t.dn A.2.2.2]
def rbNd (T : Nat → Nd) (A : Nat → PA) : Nat → List Value
  | 0 => []
  | k + 1 => rbNd T A k ++ rcNd (T k) (A k)
theorem rbNd_len (T : Nat → Nd) (A : Nat → PA) : ∀ k, (rbNd T A k).length = k * 3
  | 0 => rfl
  | k + 1 => by simp only [rbNd, List.length_append, rbNd_len T A k, rcNd, List.length_cons, List.length_nil]; omega
theorem rbNd_get (T : Nat → Nd) (A : Nat → PA) : ∀ k i j, i < k → j < 3 → (rbNd T A k)[i * 3 + j]? = (rcNd (T i) (A i))[j]?
  | 0, i, j, h, _ => by omega
  | k + 1, i, j, h, hj => by
    simp only [rbNd]
    by_cases e : i = k
    · subst e
      rw [List.getElem?_append_right (by rw [rbNd_len]; omega), rbNd_len]
      congr 1; omega
    · rw [List.getElem?_append_left (by rw [rbNd_len]; omega)]
      exact rbNd_get T A k i j (by omega) hj
theorem rbNd_congr {T T' : Nat → Nd} {A A' : Nat → PA} : ∀ k, (∀ i, i < k → T i = T' i ∧ A i = A' i) → rbNd T A k = rbNd T' A' k
  | 0, _ => rfl
  | k + 1, h => by
    obtain ⟨e1, e2⟩ := h k (by omega)
    simp only [rbNd, e1, e2, rbNd_congr k (fun i hi => h i (by omega))]
theorem rcNd_one (t : Nd) (A : PA) : ∀ u ∈ rcNd t A, u.oneCell' = true := by
  intro u hu
  simp [rcNd] at hu
  rcases hu with rfl | rfl | rfl <;> rfl
/-- A list of k that grows: it and what its elements hold lie in blocks of their own from base on, below top. -/
def GrNd (base top : Nat) (w : World) (v : Value) (k : Nat) (T : Nat → Nd) : Prop :=
  top ≤ w.heap.size ∧ ∃ (A : Nat → PA) (l h : Nat → Nat), w.ownsRow base 63 3 v k (rbNd T A k) ∧ (∀ q, v.ownBlock = some q → q < top) ∧ (∀ i j, i < k → j < k → i ≠ j → h i ≤ l j ∨ h j ≤ l i) ∧
    ∀ i, i < k → (∀ q, v.ownBlock = some q → q < l i ∨ h i ≤ q) ∧ (h i = 0 ∨ base ≤ l i ∧ h i ≤ top) ∧ (T i).kn ≤ (A i).2.1 ∧ (T i).dn ≤ (A i).2.2.2 ∧ OwnKD w (l i) (h i) (A i).1 (A i).2.2.1 (T i)
theorem GrNd.nil (base : Nat) (w : World) (T : Nat → Nd) : GrNd base w.heap.size w (.slice none 0 0) 0 T :=
  ⟨Nat.le_refl _, fun _ => (none, 0, none, 0), fun _ => 0, fun _ => 0, World.ownsRow_nil _ _ _ _, fun q hq => by simp [Value.ownBlock] at hq, fun i j hi => by omega, fun i hi => by omega⟩
theorem GrNd.made (base : Nat) (w : World) (T : Nat → Nd) (hb : base ≤ w.heap.size) : GrNd base (w.alloc (.cells #[] 63)).heap.size (w.alloc (.cells #[] 63)) (.slice (some ⟨w.heap.size, 0, none⟩) 0 0) 0 T :=
  ⟨Nat.le_refl _, fun _ => (none, 0, none, 0), fun _ => 0, fun _ => 0, World.ownsRow_made w #[] 0 hb (by unfold maxLen; omega) rfl, fun q hq => by simp [Value.ownBlock] at hq; subst hq; simp, fun i j hi => by omega, fun i hi => by omega⟩
theorem GrNd.writes {base top lo hi : Nat} {w w' : World} {v : Value} {k : Nat} {T : Nat → Nd} (h : GrNd base top w v k T) (hw : Writes lo hi w w') (hd : hi ≤ base ∨ top ≤ lo) : GrNd base top w' v k T := by
  obtain ⟨h0, A, l, h, ho, hv, hj, hc⟩ := h
  refine ⟨Nat.le_trans h0 hw.size, A, l, h, ownI_keep ho fun q hq => hw.block q (by have := hv q hq; omega) (by have h1 := hv q hq; have h2 := (ho.lt q hq).1; omega), hv, hj, fun i hi => ?_⟩
  obtain ⟨k1, k2, k3, k4, k5⟩ := hc i hi
  have := k5.lt
  exact ⟨k1, k2, k3, k4, k5.writes hw (by omega)⟩
theorem GrNd.below {base top : Nat} {w w' : World} {v : Value} {k : Nat} {T : Nat → Nd} (h : GrNd base top w v k T) (hb : Below w.heap.size w w') : GrNd base top w' v k T :=
  h.writes (Writes.of_below (lo := w.heap.size) (hi := w.heap.size) hb) (.inr h.1)
theorem GrNd.wide {base top top' : Nat} {w : World} {v : Value} {k : Nat} {T : Nat → Nd} (h : GrNd base top w v k T) (h1 : top ≤ top') (h2 : top' ≤ w.heap.size) : GrNd base top' w v k T := by
  obtain ⟨h0, A, l, h, ho, hv, hj, hc⟩ := h
  exact ⟨h2, A, l, h, ho, fun q hq => Nat.lt_of_lt_of_le (hv q hq) h1, hj, fun i hi => by obtain ⟨k1, k2, k3⟩ := hc i hi; exact ⟨k1, by omega, k3⟩⟩
theorem GrNd.congr {base top : Nat} {w : World} {v : Value} {k : Nat} {T T' : Nat → Nd} (h : GrNd base top w v k T) (e : ∀ i, i < k → T i = T' i) : GrNd base top w v k T' := by
  obtain ⟨h0, A, l, h, ho, hv, hj, hc⟩ := h
  exact ⟨h0, A, l, h, by rw [← rbNd_congr k fun i hi => ⟨e i hi, rfl⟩]; exact ho, hv, hj, fun i hi => by rw [← e i hi]; exact hc i hi⟩
theorem GrNd.own {base top : Nat} {w : World} {v : Value} {k : Nat} {T : Nat → Nd} (h : GrNd base top w v k T) : ∃ a cap, v = .slice a k cap ∧ k ≤ cap ∧ OwnNd w base top a k T := by
  obtain ⟨h0, A, l, h, ho, hv, hj, hc⟩ := h
  have hown := ho
  obtain ⟨h1, ⟨rfl, rfl⟩ | ⟨g, cap, cur, rfl, k1, k2, k3, k4⟩⟩ := ho
  · exact ⟨none, 0, rfl, Nat.le_refl _, h0, .inl rfl⟩
  · have hg := hv g rfl
    refine ⟨_, cap, rfl, k3, h0, .inr ⟨g, 0, rfl, k1, hg, fun i => hown.frozenAt _, l, h, hj, fun i hi => ?_⟩⟩
    obtain ⟨m1, m2, m3, m4, m5⟩ := hc i hi
    refine ⟨m1 g rfl, m2, (A i).1, (A i).2.1, (A i).2.2.1, (A i).2.2.2, ?_, m3, m4, m5⟩
    have cc : ∀ j v, j < 3 → (rcNd (T i) (A i))[j]? = some v → w.cell? ⟨g, 0 + i * 3 + j, none⟩ = some v := fun j v hj hv => by
      rw [hown.cellAt (0 + i * 3 + j) (by omega), show 0 + i * 3 + j = i * 3 + j by omega, rbNd_get T A k i j hi hj, hv]
    exact ⟨cc 0 _ (by omega) rfl, cc 1 _ (by omega) rfl, cc 2 _ (by omega) rfl⟩
theorem GrNd.step {base top l' h' g cap : Nat} {w w' : World} {v : Value} {k : Nat} {T : Nat → Nd} {t : Nd} {ai : PA} (hk : (h' = 0 ∨ top ≤ l' ∧ h' ≤ w.heap.size)) (hb : base ≤ top) (hn : t.kn ≤ ai.2.1) (hn2 : t.dn ≤ ai.2.2.2) (hu : OwnKD w l' h' ai.1 ai.2.2.1 t)
    (A : Nat → PA) (l h : Nat → Nat) (h0 : top ≤ w.heap.size) (hv : ∀ q, v.ownBlock = some q → q < top) (hj : ∀ i j, i < k → j < k → i ≠ j → h i ≤ l j ∨ h j ≤ l i)
    (hc : ∀ i, i < k → (∀ q, v.ownBlock = some q → q < l i ∨ h i ≤ q) ∧ (h i = 0 ∨ base ≤ l i ∧ h i ≤ top) ∧ (T i).kn ≤ (A i).2.1 ∧ (T i).dn ≤ (A i).2.2.2 ∧ OwnKD w (l i) (h i) (A i).1 (A i).2.2.1 (T i))
    (ho : w'.ownsRow base 63 3 (.slice (some ⟨g, 0, none⟩) (k + 1) cap) (k + 1) (rbNd T A k ++ rcNd t ai)) (hg : w.grownBy w' v.ownBlock) (hl : v.ownBlock = some g ∨ g = w.heap.size) (hlt : g < w'.heap.size) :
    GrNd base w'.heap.size w' (.slice (some ⟨g, 0, none⟩) (k + 1) cap) (k + 1) (upf T k t) := by
  have hsz := hg.size
  have far : ∀ L H, (∀ q, v.ownBlock = some q → q < L ∨ H ≤ q) → ∀ a a' t, OwnKD w L H a a' t → OwnKD w' L H a a' t := by
    intro L H hq a a' t hO
    obtain ⟨md, o1, o2, o3, o4⟩ := hO
    have one : ∀ l0 h0 a0 n0 z0, L ≤ l0 → h0 ≤ H → OwnI w l0 h0 a0 n0 z0 → OwnI w' l0 h0 a0 n0 z0 := by
      intro l0 h0 a0 n0 z0 e1 e2 hI
      obtain ⟨p0, p1 | ⟨b, off, rfl, p2, p3, p4, p5⟩⟩ := hI
      · exact ⟨by omega, .inl p1⟩
      · have hne : some b ≠ v.ownBlock := fun e => by have := hq b e.symm; omega
        have e := hg.block b (by omega) hne
        exact ⟨by omega, .inr ⟨b, off, rfl, p2, p3, fun i hi => (World.cell?_of_block (w := w) (a := ⟨b, _, none⟩) e).trans (p4 i hi), fun i hi => (World.frozen?_of_block (w := w) (a := ⟨b, _, none⟩) e).trans (p5 i hi)⟩⟩
    exact ⟨md, o1, o2, one _ _ _ _ _ (Nat.le_refl _) o2 o3, one _ _ _ _ _ o1 (Nat.le_refl _) o4⟩
  refine ⟨Nat.le_refl _, fun i => if i = k then ai else A i, fun i => if i = k then l' else l i, fun i => if i = k then h' else h i, ?_, fun q hq => by simp [Value.ownBlock] at hq; subst hq; exact hlt, fun i j hi hj' hne => ?_, fun i hi => ?_⟩
  · have e : rbNd (upf T k t) (fun i => if i = k then ai else A i) (k + 1) = rbNd T A k ++ rcNd t ai := by
      simp only [rbNd, upf_eq, if_true]
      congr 1
      exact rbNd_congr k fun i hi => ⟨upf_ne _ _ (by omega), if_neg (by omega)⟩
    rw [e]; exact ho
  · by_cases c1 : i = k <;> by_cases c2 : j = k <;> simp only [c1, c2, if_true, if_false]
    · omega
    · have := (hc j (by omega)).2.1; omega
    · have := (hc i (by omega)).2.1; omega
    · exact hj i j (by omega) (by omega) hne
  · by_cases e : i = k
    · subst e
      simp only [if_true, upf_eq]
      have hul := hu.lt
      refine ⟨fun q hq => ?_, by omega, hn, hn2, far l' h' (fun q hq => by have := hv q hq; omega) _ _ _ hu⟩
      simp only [Value.ownBlock, Option.some.injEq] at hq
      subst hq
      rcases hl with hl | hl
      · have := hv g hl; omega
      · omega
    · simp only [if_neg e]
      rw [upf_ne _ _ e]
      obtain ⟨m1, m2, m3, m4, m5⟩ := hc i (by omega)
      refine ⟨fun q hq => ?_, by omega, m3, m4, far _ _ m1 _ _ _ m5⟩
      simp only [Value.ownBlock, Option.some.injEq] at hq
      subst hq
      rcases hl with hl | hl
      · exact m1 g hl
      · omega
theorem wp_grNd {o : Oper} {a : Act} {Kc : Act → World → Prop} {Q : Exit → Act → World → Prop} (w : World) (s x : Operand)
    (ho : o.op = .call { callee := .builtin .append, args := #[s, x], argTypes := #[27, 27] })
    (base top : Nat) (v : Value) (k : Nat) (T : Nat → Nd) (hs : a.eval s = v) (hgr : GrNd base top w v k T) (X O cx : Nat) (t : Nd) (ai : PA) (l' h' : Nat) (hx : a.eval x = .slice (some ⟨X, O, none⟩) 1 cx) (hC : CNd w X O t ai.1 ai.2.1 ai.2.2.1 ai.2.2.2)
    (hk : (h' = 0 ∨ top ≤ l' ∧ h' ≤ w.heap.size)) (hb : base ≤ top) (hn : t.kn ≤ ai.2.1) (hn2 : t.dn ≤ ai.2.2.2) (hu : OwnKD w l' h' ai.1 ai.2.2.1 t) (hlen : k ≤ 100000)
    (hK : ∀ g cap w', GrNd base w'.heap.size w' (.slice (some ⟨g, 0, none⟩) (k + 1) cap) (k + 1) (upf T k t) → w.grownBy w' v.ownBlock → Kc (a.put o.dst (.slice (some ⟨g, 0, none⟩) (k + 1) cap)) w') : o.wp Try.prog a w Kc Q := by
  obtain ⟨i0, hi, hz0, hz1, hz2⟩ := info_partsN infoNd
  obtain ⟨h0, A, l, h, hown, hv, hj, hc⟩ := hgr
  refine wp_append_lies w s x 27 ho base 63 i0 _ 3 56 Try.underlying27 hi hz0 hz1 hz2 rfl (by decide) v k (rbNd T A k) hs hown ⟨X, O, none⟩ 1 cx (rcNd t ai) hx rfl (fun j u hju => ?_) (rcNd_one _ _) (by decide) (by unfold maxLen; omega) (by omega) (by omega) _ rfl ?_
  · obtain ⟨h0, h1, h2⟩ := hC
    rw [WideShapes.add_plain]
    have hd : j < 3 := by have := (List.getElem?_eq_some_iff.1 hju).1; simpa [rcNd] using this
    have hd2 : j = 0 ∨ j = 1 ∨ j = 2 := by omega
    rcases hd2 with rfl | rfl | rfl
    · rw [← hju]; rw [Nat.add_zero]; exact h0
    · rw [← hju]; exact h1
    · rw [← hju]; exact h2
  · intro g cap w' ho2 hg2 hl2 hlt2
    exact hK g cap w' (GrNd.step hk hb hn hn2 hu A l h h0 hv hj hc ho2 hg2 hl2 hlt2) hg2
theorem wpList_grNd {ops : Array Oper} {rest : List Oper} {o : Oper} {a : Act} {Q : Exit → Act → World → Prop} (w : World) (hgd : o.guard = none) (s x : Operand)
    (ho : o.op = .call { callee := .builtin .append, args := #[s, x], argTypes := #[27, 27] })
    (base top : Nat) (v : Value) (k : Nat) (T : Nat → Nd) (hs : a.eval s = v) (hgr : GrNd base top w v k T) (X O cx : Nat) (t : Nd) (ai : PA) (l' h' : Nat) (hx : a.eval x = .slice (some ⟨X, O, none⟩) 1 cx) (hC : CNd w X O t ai.1 ai.2.1 ai.2.2.1 ai.2.2.2)
    (hk : (h' = 0 ∨ top ≤ l' ∧ h' ≤ w.heap.size)) (hb : base ≤ top) (hn : t.kn ≤ ai.2.1) (hn2 : t.dn ≤ ai.2.2.2) (hu : OwnKD w l' h' ai.1 ai.2.2.1 t) (hlen : k ≤ 100000)
    (hK : ∀ g cap w', GrNd base w'.heap.size w' (.slice (some ⟨g, 0, none⟩) (k + 1) cap) (k + 1) (upf T k t) → w.grownBy w' v.ownBlock → wpList Try.prog ops Q rest (a.put o.dst (.slice (some ⟨g, 0, none⟩) (k + 1) cap)) w') : wpList Try.prog ops Q (o :: rest) a w :=
  wpList_plain hgd fun _ hKK => wp_grNd w s x ho base top v k T hs hgr X O cx t ai l' h' hx hC hk hb hn hn2 hu hlen fun g cap w' h2 h3 => hKK _ _ (hK g cap w' h2 h3)
theorem step_grNd {ops : Array Oper} {o : Oper} {a : Act} {Kc : Act → World → Prop} {Q : Exit → Act → World → Prop} {Ee : Prop} (w : World) (hgd : o.guard = none) (s x : Operand)
    (ho : o.op = .call { callee := .builtin .append, args := #[s, x], argTypes := #[27, 27] })
    (base top : Nat) (v : Value) (k : Nat) (T : Nat → Nd) (hs : a.eval s = v) (hgr : GrNd base top w v k T) (X O cx : Nat) (t : Nd) (ai : PA) (l' h' : Nat) (hx : a.eval x = .slice (some ⟨X, O, none⟩) 1 cx) (hC : CNd w X O t ai.1 ai.2.1 ai.2.2.1 ai.2.2.2)
    (hk : (h' = 0 ∨ top ≤ l' ∧ h' ≤ w.heap.size)) (hb : base ≤ top) (hn : t.kn ≤ ai.2.1) (hn2 : t.dn ≤ ai.2.2.2) (hu : OwnKD w l' h' ai.1 ai.2.2.1 t) (hlen : k ≤ 100000)
    (hK : ∀ g cap w', GrNd base w'.heap.size w' (.slice (some ⟨g, 0, none⟩) (k + 1) cap) (k + 1) (upf T k t) → w.grownBy w' v.ownBlock → Kc (a.put o.dst (.slice (some ⟨g, 0, none⟩) (k + 1) cap)) w') :
    if Region.wanted o (yielded ops a.tmps) = true then Oper.wp Try.prog o a w Kc Q else Ee := by
  have hw : Region.wanted o (yielded ops a.tmps) = true := by simp [Region.wanted, hgd]
  rw [if_pos hw]
  exact wp_grNd w s x ho base top v k T hs hgr X O cx t ai l' h' hx hC hk hb hn hn2 hu hlen hK
/-! ### numbers of its own in new memory -/
/-- The slice v' of the m numbers z lies in blocks made since w. -/
def NewI (w w' : World) (v' : Value) (m : Nat) (z : Nat → Int) : Prop := ∃ a cap, v' = .slice a m cap ∧ m ≤ cap ∧ OwnI w' w.heap.size w'.heap.size a m z
theorem newI_of_row {w w' : World} {v : Value} {z : Nat → Int} {m : Nat} (h : w'.ownsRow w.heap.size 2 1 v (zL z m).length (il (zL z m))) : NewI w w' v m z := by
  obtain ⟨a, cap, rfl, ho⟩ := ownI_of_row h
  have hc := own_capN h
  rw [zL_len] at hc ho ⊢
  exact ⟨a, cap, rfl, hc, ho.congr fun i hi => by simp [zI, zL, hi]⟩
theorem wp_app0 {o : Oper} {a : Act} {K : Act → World → Prop} {Q : Exit → Act → World → Prop} (w : World) (s x : Operand)
    (ho : o.op = .call { callee := .builtin .append, args := #[s, x], argTypes := #[39, 39] })
    (p : Nat) (hs : a.eval s = .slice (some ⟨p, 0, none⟩) 0 0) (xa : Option Addr) (m c : Nat) (z : Nat → Int) (hx : a.eval x = .slice xa m c) (hb : IntsAt w xa m z) (h63 : m ≤ 100000)
    (h : ∀ v' w', NewI w w' v' m z → Below w.heap.size w w' → K (a.put o.dst v') w') : o.wp Try.prog a w K Q := by
  by_cases hm : m = 0
  · subst hm
    have hr := run_app_zeroI w o.type (some ⟨p, 0, none⟩) 0 0 xa c (Nat.le_refl _)
    unfold Oper.wp execOp
    simp only [ho, resolve, invoke, builtin, Sem.run_bind, Sem.run_pure, Result.andThen_ok, List.map_toArray, List.map_cons, List.map_nil, hs, hx, hr]
    exact h _ w ⟨_, _, rfl, Nat.le_refl _, Nat.le_refl _, .inl rfl⟩ (Below.refl _ _)
  · rcases hb with hb | ⟨b, off, rfl, hbl, hc⟩
    · exact absurd hb hm
    · obtain ⟨i0, hi, hz0, hz1, hz2⟩ := info_partsN info2
      have hnews : ∀ j u, (il (zL z m))[j]? = some u → w.cell? ((⟨b, off, none⟩ : Addr).add j) = some u := fun j u hj => by
        obtain ⟨h1, rfl⟩ := zL_il z m j u hj
        rw [WideShapes.add_plain]
        exact hc j h1
      have hlen : (il (zL z m)).length = m * i0.size := by rw [il_len, zL_len, hz1]; omega
      have hbt : Builtin.nextslicecap (0 + m) 0 * i0.bytes ≤ 281474976710656 := by rw [Nat.zero_add, nextslicecap_zero (by omega), hz2]; omega
      have r1 := run_append_grow (P := Try.prog) w 39 o.type 2 i0 _ Try.underlying39 hi hz0 ⟨p, 0, none⟩ 0 0 [] (by simp) (fun j v hj => by simp at hj) ⟨b, off, none⟩ m c (il (zL z m)) hlen hnews (by omega) (by omega) hbt
      have r2 := run_append_nil (P := Try.prog) w 39 o.type 2 i0 _ Try.underlying39 hi hz0 ⟨b, off, none⟩ m c (il (zL z m)) hlen hnews (by omega) (by omega) (by rw [hz2]; omega)
      obtain ⟨v', w', r3, h2, h3, -⟩ := run_append_own (P := Try.prog) w w.heap.size 39 o.type 2 i0 _ 1 8 Try.underlying39 hi hz0 hz1 hz2 rfl (by decide) (.slice none 0 0) 0 [] (World.ownsRow_nil _ _ _ _) ⟨b, off, none⟩ m c (il (zL z m)) (by rw [il_len, zL_len]; omega) hnews (il_one _) (by unfold maxLen; omega) (by omega) (Nat.le_refl _)
      have hr : (Builtin.append_ #[39, 39] o.type #[.slice (some ⟨p, 0, none⟩) 0 0, .slice (some ⟨b, off, none⟩) m c]).run Try.prog w = .ok v' w' := by
        rw [← r3, r1, r2]
        simp only [Nat.zero_add, Array.empty_append]
      unfold Oper.wp execOp
      simp only [ho, resolve, invoke, builtin, Sem.run_bind, Sem.run_pure, Result.andThen_ok, List.map_toArray, List.map_cons, List.map_nil, hs, hx, hr]
      refine h _ _ (newI_of_row ?_) ((Below.refl _ _).grown h3 (Nat.le_refl _) (fun q hq => by simp [Value.ownBlock] at hq))
      rw [zL_len]
      simpa using h2
theorem step_app0 {ops : Array Oper} {o : Oper} {a : Act} {K : Act → World → Prop} {Q : Exit → Act → World → Prop} {E : Prop} (w : World) (d : Option Tmp) (hd : o.dst = d) (hgd : o.guard = none) (s x : Operand)
    (ho : o.op = .call { callee := .builtin .append, args := #[s, x], argTypes := #[39, 39] })
    (p : Nat) (hs : a.eval s = .slice (some ⟨p, 0, none⟩) 0 0) (xa : Option Addr) (m c : Nat) (z : Nat → Int) (hx : a.eval x = .slice xa m c) (hb : IntsAt w xa m z) (h63 : m ≤ 100000)
    (h : ∀ v' w', NewI w w' v' m z → Below w.heap.size w w' → K (a.put d v') w') :
    if Region.wanted o (yielded ops a.tmps) = true then Oper.wp Try.prog o a w K Q else E := by
  have hw : Region.wanted o (yielded ops a.tmps) = true := by simp [Region.wanted, hgd]
  rw [if_pos hw]
  subst hd
  exact wp_app0 w s x ho p hs xa m c z hx hb h63 h
theorem joined1I_any (n : Nat) (z : Nat → Int) (a : Option Addr) (cap pb : Nat) (w : World) (hn : n ≤ 90000) (hp : w.cell? ⟨pb, 0, none⟩ = some (.slice a n cap)) (hb : IntsAt w a n z) :
    Calls Try.prog 84 #[.slice (some ⟨pb, 0, none⟩) 1 1] w fun e w' => ∃ v, e = .returned v ∧ Below w.heap.size w w' ∧ NewI w w' v n z := by
  refine (joinedI_any 1 (fun _ => a) (fun _ => n) (fun _ => cap) (fun _ => z) pb 0 1 w (by simp [sumL]; omega) (Go.block_lt_of_cell hp) (fun i hi => ?_) (by omega)).mono ?_
  · have : i = 0 := by omega
    subst this
    exact ⟨hp, hb⟩
  · rintro e w' ⟨v, rfl, h1, h2⟩
    simp only [jn, List.nil_append] at h2
    exact ⟨v, rfl, h1, newI_of_row h2⟩
theorem NewI.kd {w w1 w2 w3 : World} {v v' : Value} {t : Nd} (h1 : NewI w w1 v t.kn t.K) (h2 : NewI w2 w3 v' t.dn t.D) (hle : w.heap.size ≤ w1.heap.size) (hw : w1.heap.size ≤ w2.heap.size) (hb : Below w1.heap.size w1 w3) :
    ∃ ai : PA, v = .slice ai.1 t.kn ai.2.1 ∧ v' = .slice ai.2.2.1 t.dn ai.2.2.2 ∧ t.kn ≤ ai.2.1 ∧ t.dn ≤ ai.2.2.2 ∧ OwnKD w3 w.heap.size w3.heap.size ai.1 ai.2.2.1 t := by
  obtain ⟨a, cap, rfl, hc, ho⟩ := h1
  obtain ⟨a', cap', rfl, hc', ho'⟩ := h2
  have hz := hb.size
  exact ⟨(a, cap, a', cap'), rfl, rfl, hc, hc', w1.heap.size, hle, hz, ho.below hb, ho'.wide hw (Nat.le_refl _) (Nat.le_refl _)⟩
theorem step_grNdD {ops : Array Oper} {o : Oper} {a : Act} {Kc : Act → World → Prop} {Q : Exit → Act → World → Prop} {Ee : Prop} (w : World) (d : Option Tmp) (hd : o.dst = d) (hgd : o.guard = none) (s x : Operand)
    (ho : o.op = .call { callee := .builtin .append, args := #[s, x], argTypes := #[27, 27] })
    (base top : Nat) (v : Value) (k : Nat) (T : Nat → Nd) (hs : a.eval s = v) (hgr : GrNd base top w v k T) (X O cx : Nat) (t : Nd) (ai : PA) (l' h' : Nat) (hx : a.eval x = .slice (some ⟨X, O, none⟩) 1 cx) (hC : CNd w X O t ai.1 ai.2.1 ai.2.2.1 ai.2.2.2)
    (hk : (h' = 0 ∨ top ≤ l' ∧ h' ≤ w.heap.size)) (hb : base ≤ top) (hn : t.kn ≤ ai.2.1) (hn2 : t.dn ≤ ai.2.2.2) (hu : OwnKD w l' h' ai.1 ai.2.2.1 t) (hlen : k ≤ 100000)
    (hK : ∀ g cap w', GrNd base w'.heap.size w' (.slice (some ⟨g, 0, none⟩) (k + 1) cap) (k + 1) (upf T k t) → w.grownBy w' v.ownBlock → Kc (a.put d (.slice (some ⟨g, 0, none⟩) (k + 1) cap)) w') :
    if Region.wanted o (yielded ops a.tmps) = true then Oper.wp Try.prog o a w Kc Q else Ee := by
  subst hd
  exact step_grNd w hgd s x ho base top v k T hs hgr X O cx t ai l' h' hx hC hk hb hn hn2 hu hlen hK
end Go.Proofs.Ytbnehgpefjbheaa
