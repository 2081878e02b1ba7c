/- Cells without a fault: what is set, what is dropped. -/
import Derived.Test.YtnhkjdcbaphfcaaWm
namespace Go.Proofs.Ytnhkjdcbaphfcaa
open Go.RowKit Go.Deep
set_option linter.unusedVariables false
set_option maxRecDepth 20000

theorem kOf_app (A B : List (Int × Int)) (i : Nat) : kOf (A ++ B) i = if i < A.length then kOf A i else kOf B (i - A.length) := by
  unfold kOf
  by_cases h : i < A.length
  · rw [if_pos h, List.getD_eq_getElem?_getD, List.getD_eq_getElem?_getD, List.getElem?_append_left h]
  · rw [if_neg h, List.getD_eq_getElem?_getD, List.getD_eq_getElem?_getD, List.getElem?_append_right (by omega)]
theorem vOf_app (A B : List (Int × Int)) (i : Nat) : vOf (A ++ B) i = if i < A.length then vOf A i else vOf B (i - A.length) := by
  unfold vOf
  by_cases h : i < A.length
  · rw [if_pos h, List.getD_eq_getElem?_getD, List.getD_eq_getElem?_getD, List.getElem?_append_left h]
  · rw [if_neg h, List.getD_eq_getElem?_getD, List.getD_eq_getElem?_getD, List.getElem?_append_right (by omega)]
/-- The cells of a page without a fault. -/
structure GoodC (n : Nat) (K V : Nat → Int) : Prop where
  key : ∀ i, i < n → 0 ≤ K i ∧ K i ≤ 31
  val : ∀ i, i < n → 0 ≤ V i ∧ V i ≤ 9999
  rise : Rising K n
theorem wi_at (K V : Nat → Int) (key val : Int) (n i : Nat) (hi : i < (wi K V key val n).length) :
    (i < pl K key n ∧ kOf (wi K V key val n) i = K i ∧ vOf (wi K V key val n) i = V i) ∨ (i = pl K key n ∧ kOf (wi K V key val n) i = key ∧ vOf (wi K V key val n) i = val) ∨
    (pl K key n < i ∧ nx K key n + (i - pl K key n - 1) < n ∧ kOf (wi K V key val n) i = K (nx K key n + (i - pl K key n - 1)) ∧ vOf (wi K V key val n) i = V (nx K key n + (i - pl K key n - 1))) := by
  have h1 := pl_le K key n
  have h2 := nx_le K key n
  have hl : (wi K V key val n).length = pl K key n + 1 + (n - nx K key n) := by simp [wi, lst_len]; omega
  rw [hl] at hi
  unfold wi
  rw [kOf_app, vOf_app, kOf_app, vOf_app]
  simp only [List.length_append, lst_len, List.length_cons, List.length_nil]
  rcases Nat.lt_trichotomy i (pl K key n) with q | q | q
  · left
    rw [if_pos (by omega), if_pos q, if_pos (by omega), if_pos q]
    have := lst_get K V 0 (pl K key n) i q
    simp only [Nat.zero_add] at this
    exact ⟨q, this⟩
  · right; left
    subst q
    rw [if_pos (by omega), if_neg (by omega), if_pos (by omega), if_neg (by omega)]
    simp [kOf, vOf]
  · right; right
    rw [if_neg (by omega), if_neg (by omega)]
    have hq : i - (pl K key n + (0 + 1)) < n - nx K key n := by omega
    have := lst_get K V (nx K key n) (n - nx K key n) _ hq
    rw [show i - pl K key n - 1 = i - (pl K key n + (0 + 1)) by omega]
    exact ⟨q, by omega, this⟩
theorem nx_eq {K : Nat → Int} {key : Int} {n : Nat} (hr : Rising K n) : ∀ j, nx K key n ≤ j → j < n → key < K j := by
  intro j h1 h2
  have hs := plc_spec K key n 0
  simp only [Nat.zero_add] at hs
  have hp : pl K key n = plc K key n 0 := rfl
  unfold nx at h1
  by_cases h : has K key n = true
  · rw [if_pos h] at h1
    have e := has_iff.1 h
    have := hr (pl K key n) j (by omega) h2
    omega
  · rw [if_neg h] at h1
    have hlt : pl K key n < n := by omega
    have h3 := hs.2.2.2 (by omega)
    rw [← hp] at h3
    have h4 : K (pl K key n) ≠ key := fun e => h (has_iff.2 ⟨hlt, e⟩)
    by_cases q : j = pl K key n
    · subst q; omega
    · have := hr (pl K key n) j (by omega) h2
      omega
theorem pl_less {K : Nat → Int} {key : Int} {n : Nat} : ∀ j, j < pl K key n → K j < key := by
  intro j hj
  have hs := plc_spec K key n 0
  exact hs.2.2.1 j (Nat.zero_le _) hj
theorem wi_good {n : Nat} {K V : Nat → Int} {key val : Int} (g : GoodC n K V) (hk : 0 ≤ key ∧ key ≤ 31) (hv : 0 ≤ val ∧ val ≤ 9999) : GoodC (wi K V key val n).length (kOf (wi K V key val n)) (vOf (wi K V key val n)) := by
  have hpl := pl_le K key n
  refine ⟨fun i hi => ?_, fun i hi => ?_, fun i j hij hj => ?_⟩
  · rcases wi_at K V key val n i hi with ⟨h1, h2, _⟩ | ⟨_, h2, _⟩ | ⟨_, h1, h2, _⟩
    · rw [h2]; exact g.key i (by omega)
    · rw [h2]; exact hk
    · rw [h2]; exact g.key _ h1
  · rcases wi_at K V key val n i hi with ⟨h1, _, h2⟩ | ⟨_, _, h2⟩ | ⟨_, h1, _, h2⟩
    · rw [h2]; exact g.val i (by omega)
    · rw [h2]; exact hv
    · rw [h2]; exact g.val _ h1
  · rcases wi_at K V key val n i (by omega) with ⟨h1, h2, _⟩ | ⟨h1, h2, _⟩ | ⟨h1, h1', h2, _⟩ <;> rcases wi_at K V key val n j hj with ⟨k1, k2, _⟩ | ⟨k1, k2, _⟩ | ⟨k1, k1', k2, _⟩ <;> rw [h2, k2]
    · exact g.rise i j hij (by omega)
    · exact pl_less i h1
    · have := pl_less (K := K) (key := key) (n := n) i h1
      have := nx_eq (key := key) g.rise _ (Nat.le_add_right _ _) k1'
      omega
    · omega
    · omega
    · exact nx_eq g.rise _ (Nat.le_add_right _ _) k1'
    · omega
    · omega
    · exact g.rise _ _ (by omega) k1'
/-- Where a key is. -/
theorem has_at {K : Nat → Int} {key : Int} {n i : Nat} (hr : Rising K n) (hi : i < n) (e : K i = key) : has K key n = true ∧ pl K key n = i := by
  have hs := plc_spec K key n 0
  simp only [Nat.zero_add] at hs
  have hp : pl K key n = plc K key n 0 := rfl
  have hpi : pl K key n = i := by
    rcases Nat.lt_trichotomy (pl K key n) i with q | q | q
    · have h3 := hs.2.2.2 (by omega)
      rw [← hp] at h3
      have := hr _ _ q hi
      omega
    · exact q
    · have := pl_less (K := K) (key := key) (n := n) i q
      omega
  exact ⟨has_iff.2 ⟨by omega, by rw [hpi]; exact e⟩, hpi⟩
theorem has_not {K : Nat → Int} {key : Int} {n : Nat} (h : ∀ i, i < n → K i ≠ key) : has K key n = false := by
  cases e : has K key n
  · rfl
  · have := has_iff.1 e
    exact absurd this.2 (h _ this.1)
theorem wi_pl_lt (K V : Nat → Int) (key val : Int) (n : Nat) : pl K key n < (wi K V key val n).length := by simp [wi, lst_len]
theorem wi_self (K V : Nat → Int) (key val : Int) (n : Nat) : kOf (wi K V key val n) (pl K key n) = key ∧ vOf (wi K V key val n) (pl K key n) = val := by
  rcases wi_at K V key val n _ (wi_pl_lt K V key val n) with ⟨h, _⟩ | ⟨_, h2, h3⟩ | ⟨h, _⟩
  · omega
  · exact ⟨h2, h3⟩
  · omega
/-- A cell of another key is still there. -/
theorem wi_keeps {K V : Nat → Int} {key val : Int} {n i : Nat} (hr : Rising K n) (hi : i < n) (hne : K i ≠ key) : ∃ j, j < (wi K V key val n).length ∧ kOf (wi K V key val n) j = K i ∧ vOf (wi K V key val n) j = V i := by
  have hl : (wi K V key val n).length = pl K key n + 1 + (n - nx K key n) := by simp [wi, lst_len]; omega
  have h1 := pl_le K key n
  have h2 := nx_le K key n
  by_cases q : i < pl K key n
  · rcases wi_at K V key val n i (by omega) with ⟨_, h3, h4⟩ | ⟨h, _⟩ | ⟨h, _⟩
    · exact ⟨i, by omega, h3, h4⟩
    · omega
    · omega
  · have hx : nx K key n ≤ i := by
      unfold nx
      by_cases h : has K key n = true
      · rw [if_pos h]
        have e := has_iff.1 h
        by_cases z : i = pl K key n
        · subst z; exact absurd e.2 hne
        · omega
      · rw [if_neg h]; omega
    have hj : pl K key n + 1 + (i - nx K key n) < (wi K V key val n).length := by omega
    rcases wi_at K V key val n _ hj with ⟨h, _⟩ | ⟨h, _⟩ | ⟨_, _, h3, h4⟩
    · omega
    · omega
    · refine ⟨_, hj, ?_, ?_⟩
      · rw [h3]; congr 1; omega
      · rw [h4]; congr 1; omega
/-! ### what is dropped -/
theorem wo_get (K V : Nat → Int) (key : Int) : ∀ n i, i < (wo K V key n).length → ∃ j, j < n ∧ K j ≠ key ∧ kOf (wo K V key n) i = K j ∧ vOf (wo K V key n) i = V j
  | 0, i, h => by simp [wo] at h
  | n + 1, i, h => by
    simp only [wo] at h ⊢
    by_cases e : K n = key
    · rw [if_pos e] at h ⊢
      obtain ⟨j, h1, h2⟩ := wo_get K V key n i h
      exact ⟨j, by omega, h2⟩
    · rw [if_neg e] at h ⊢
      rw [kOf_app, vOf_app]
      by_cases q : i < (wo K V key n).length
      · rw [if_pos q, if_pos q]
        obtain ⟨j, h1, h2⟩ := wo_get K V key n i q
        exact ⟨j, by omega, h2⟩
      · rw [if_neg q, if_neg q]
        simp at h
        have : i - (wo K V key n).length = 0 := by omega
        rw [this]
        exact ⟨n, by omega, e, rfl, rfl⟩
theorem wo_has {K V : Nat → Int} {key : Int} : ∀ {n i : Nat}, i < n → K i ≠ key → ∃ j, j < (wo K V key n).length ∧ kOf (wo K V key n) j = K i ∧ vOf (wo K V key n) j = V i
  | 0, i, h, _ => by omega
  | n + 1, i, h, hne => by
    simp only [wo]
    by_cases q : i = n
    · subst q
      rw [if_neg hne]
      refine ⟨(wo K V key i).length, by simp, ?_, ?_⟩
      · rw [kOf_app, if_neg (by omega)]; simp [kOf]
      · rw [vOf_app, if_neg (by omega)]; simp [vOf]
    · obtain ⟨j, h1, h2, h3⟩ := wo_has (V := V) (n := n) (i := i) (by omega) hne
      by_cases e : K n = key
      · rw [if_pos e]; exact ⟨j, h1, h2, h3⟩
      · rw [if_neg e]
        exact ⟨j, by simp; omega, by rw [kOf_app, if_pos h1]; exact h2, by rw [vOf_app, if_pos h1]; exact h3⟩
theorem wo_rise {K V : Nat → Int} {key : Int} : ∀ {n : Nat}, Rising K n → Rising (kOf (wo K V key n)) (wo K V key n).length
  | 0, _ => fun i j h1 h2 => by simp [wo] at h2
  | n + 1, hr => by
    have ih := wo_rise (V := V) (key := key) (n := n) (fun i j h1 h2 => hr i j h1 (by omega))
    simp only [wo]
    by_cases e : K n = key
    · rw [if_pos e]; exact ih
    · rw [if_neg e]
      intro i j h1 h2
      simp at h2
      rw [kOf_app, kOf_app, if_pos (by omega)]
      by_cases q : j < (wo K V key n).length
      · rw [if_pos q]; exact ih i j h1 q
      · rw [if_neg q]
        obtain ⟨l, h3, _, h4, _⟩ := wo_get K V key n i (by omega)
        have : j - (wo K V key n).length = 0 := by omega
        rw [h4, this]
        exact hr l n h3 (by omega)
theorem wo_good {n : Nat} {K V : Nat → Int} {key : Int} (g : GoodC n K V) : GoodC (wo K V key n).length (kOf (wo K V key n)) (vOf (wo K V key n)) := by
  refine ⟨fun i hi => ?_, fun i hi => ?_, wo_rise g.rise⟩
  · obtain ⟨j, h1, _, h2, _⟩ := wo_get K V key n i hi
    rw [h2]; exact g.key j h1
  · obtain ⟨j, h1, _, _, h2⟩ := wo_get K V key n i hi
    rw [h2]; exact g.val j h1
theorem wo_one {K V : Nat → Int} {key : Int} : ∀ {n i : Nat}, Rising K n → i < n → K i = key → (wo K V key n).length + 1 = n
  | 0, i, _, h, _ => by omega
  | n + 1, i, hr, h, e => by
    have hr' : Rising K n := fun i j h1 h2 => hr i j h1 (by omega)
    simp only [wo]
    by_cases q : i = n
    · subst q
      rw [if_pos e]
      have : ∀ m, m ≤ i → (wo K V key m).length = m := by
        intro m
        induction m with
        | zero => intro _; rfl
        | succ m ih =>
          intro hm
          have hlt := hr m i (by omega) (by omega)
          simp only [wo]
          rw [if_neg (by omega)]
          simp [ih (by omega)]
      rw [this i (Nat.le_refl _)]
    · have hlt := hr i n (by omega) (by omega)
      have ih := wo_one (V := V) (n := n) (i := i) hr' (by omega) e
      rw [if_neg (by omega)]
      simp; omega
/-- A page has no fault. -/
theorem cff_good {K V : Nat → Int} {n : Nat} (g : GoodC n K V) : ∀ m i, i + m = n → cff K V m i = 0
  | 0, i, _ => rfl
  | m + 1, i, h => by
    rw [cff, if_neg, if_neg, cff_good g m (i + 1) (by omega)]
    · rintro ⟨h1, h2⟩
      have := g.rise (i - 1) i (by omega) (by omega)
      omega
    · rintro (h1 | h1)
      · have := inB_iff.2 (g.key i (by omega)); simp [h1] at this
      · have := inB_iff.2 (g.val i (by omega)); simp [h1] at this
theorem pf_good {idn lsn : Int} {n : Nat} {K V : Nat → Int} (h1 : inB idn 0 7 = true) (h2 : inB lsn 0 1000000 = true) (h3 : n ≤ 12) (g : GoodC n K V) : pf idn lsn n K V = 0 := by
  unfold pf
  rw [if_neg (by simp [h1, h2]), if_neg (by omega), cff_good g n 0 (by omega)]
end Go.Proofs.Ytnhkjdcbaphfcaa
