/- What is pushed, committed and rolled back, and who sees it. -/
import Derived.Test.YtiabblmjgfkijaaVka
import Derived.Test.YtiabblmjgfkijaaVse
namespace Go.Proofs.Ytiabblmjgfkijaa
open Go.RowKit Go.Deep
set_option linter.unusedVariables false
set_option maxRecDepth 20000

theorem vF_split {S : Nat → Vr} {i : Nat} : vF S i = false ↔ ((S i).g && (S i).v != 0) = false ∧ (0 < i → older (S i) (S (i - 1)) = true) := by
  unfold vF
  rw [Bool.or_eq_false_iff]
  refine and_congr Iff.rfl ?_
  by_cases h : 0 < i
  · simp [h]
  · simp [h]
theorem chF_of {m : Nat} {S : Nat → Vr} (hm : m ≤ 12) (h : ∀ j, j < m → vR (S j) = true ∧ vF S j = false) : chF m S = 0 := by
  unfold chF
  rw [if_neg (by omega)]
  exact chf_zero fun j _ b => h j (by omega)
theorem ch_rest {m : Nat} {S : Nat → Vr} (h : chF (m + 1) S = 0) : chF m (fun i => S (i + 1)) = 0 := by
  have hg := chF_good h
  refine chF_of (by omega) fun j hj => ?_
  have h1 := hg.2 (j + 1) (by omega)
  have h2 := vF_split.1 h1.2
  refine ⟨h1.1, vF_split.2 ⟨h2.1, fun hj0 => ?_⟩⟩
  have h3 := h2.2 (by omega)
  obtain ⟨k, rfl⟩ : ∃ k, j = k + 1 := ⟨j - 1, by omega⟩
  exact h3
theorem ch_cons {m : Nat} {S : Nat → Vr} (hm : m + 1 ≤ 12) (h0 : vR (S 0) = true) (h1 : ((S 0).g && (S 0).v != 0) = false) (hq : chF m (fun i => S (i + 1)) = 0) (ho : 0 < m → older (S 1) (S 0) = true) : chF (m + 1) S = 0 := by
  have hg := chF_good hq
  refine chF_of hm fun j hj => ?_
  rcases j with - | j
  · exact ⟨h0, vF_split.2 ⟨h1, fun h => absurd h (Nat.lt_irrefl _)⟩⟩
  · have h2 := hg.2 j (by omega)
    have h3 := vF_split.1 h2.2
    refine ⟨h2.1, vF_split.2 ⟨h3.1, fun _ => ?_⟩⟩
    rcases j with - | j
    · exact ho (by omega)
    · exact h3.2 (by omega)
theorem pS_succ {m : Nat} {S : Nat → Vr} {x o : Int} (hk : kd (S 0) x o = 0) : pS (m + 1) S x o = pS m (fun i => S (i + 1)) x o + 1 := by
  have hp := pS_le m (fun i => S (i + 1)) x o
  refine pS_of (by omega) (fun j hj => ?_) (fun h => ?_)
  · rcases j with - | j
    · exact hk
    · exact pS_before (n := m) (R := fun i => S (i + 1)) (by omega)
  · exact pS_at (n := m) (R := fun i => S (i + 1)) (by omega)
theorem seen_succ {m : Nat} {S : Nat → Vr} {x o : Int} (hs : chF (m + 1) S = 0) (hk : kd (S 0) x o = 0) :
    seC (m + 1) S x o = seC m (fun i => S (i + 1)) x o ∧ seV (m + 1) S x o = seV m (fun i => S (i + 1)) x o := by
  have e := pS_succ (m := m) hk
  have ht : told (m + 1) S x o = told m (fun i => S (i + 1)) x o := by
    unfold told
    rw [e]
    simp
  unfold seC seV avC
  rw [hs, ch_rest hs, ht, e]
  exact ⟨rfl, rfl⟩
theorem seen_first {m : Nat} {S : Nat → Vr} {x o : Int} (hs : chF (m + 1) S = 0) (hv : vwB x o = true) (hk : kd (S 0) x o ≠ 0) :
    seC (m + 1) S x o = (if (S 0).g = true then 4 else 0) ∧ seV (m + 1) S x o = if (S 0).g = true then 0 else (S 0).v := by
  have e : pS (m + 1) S x o = 0 := pS_of (Nat.zero_le _) (fun j hj => absurd hj (Nat.not_lt_zero _)) (fun _ => hk)
  have ha : avC (m + 1) S x o = 0 := by unfold avC; rw [hs, if_pos rfl, if_pos hv]
  have ht : told (m + 1) S x o = !(S 0).g := by unfold told; rw [e]; simp
  unfold seC seV
  rw [ha, ht, e]
  cases (S 0).g <;> simp
theorem kd_own {r : Vr} {x o : Int} (h1 : r.t = o) (h2 : r.a = 0) : kd r x o ≠ 0 := by
  unfold kd
  rw [if_pos (.inr ⟨h1, h2⟩)]
  cases r.g <;> simp
theorem kd_at {r : Vr} {x o : Int} (h1 : r.a ≠ 0) (h2 : r.a ≤ x) : kd r x o ≠ 0 := by
  unfold kd
  rw [if_pos (.inl ⟨h1, h2⟩)]
  cases r.g <;> simp
theorem kd_hid {r : Vr} {x o : Int} (h1 : r.t ≠ o) (h2 : r.a = 0 ∨ x < r.a) : kd r x o = 0 := by
  unfold kd
  rw [if_neg (by omega)]
/-- What a push leaves: the new version, and the rest. -/
structure Pushed (n : Nat) (R : Nat → Vr) (x o : Int) (gn : Bool) (v : Int) (m : Nat) (Q : Nat → Vr) : Prop where
  hN : pvN n R x o gn v = m + 1
  h12 : m + 1 ≤ 12
  s0 : pvS n R o gn v 0 = ⟨o, 0, gn, v⟩
  s1 : (fun i => pvS n R o gn v (i + 1)) = Q
  hq : chF m Q = 0
  qa : ∀ i, i < m → (Q i).a ≠ 0
  xb : 0 ≤ x ∧ x ≤ 1000000
  ob : 1 ≤ o ∧ o ≤ 999
  vb : inB v 0 9999 = true
  gv : (gn && v != 0) = false
  same : ∀ o2, o2 ≠ o → seC n R x o2 = seC m Q x o2 ∧ seV n R x o2 = seV m Q x o2
theorem older_a {r p : Vr} (h : older r p = true) : r.a ≠ 0 := by
  unfold older at h
  simp only [Bool.and_eq_true, bne_iff_ne, ne_eq] at h
  exact h.1
theorem pushed {n : Nat} {R : Nat → Vr} {x o : Int} {gn : Bool} {v : Int} (hC : pvC n R x o gn v = 0) : ∃ m Q, Pushed n R x o gn v m Q := by
  have hC0 := hC
  unfold pvC at hC
  have ha : avC n R x o = 0 := by
    by_cases h : avC n R x o = 0
    · exact h
    · rw [if_neg h] at hC; exact hC
  rw [if_pos ha] at hC
  have hv : inB v 0 9999 = true := by
    by_cases h : inB v 0 9999 = true
    · exact h
    · rw [if_neg h] at hC; omega
  rw [if_pos hv] at hC
  have hgv : (gn && v != 0) = false := by
    cases h : (gn && v != 0)
    · rfl
    · rw [h, if_pos rfl] at hC; omega
  rw [hgv, if_neg (by simp)] at hC
  have hm : mwC n R x o = 0 := by
    by_cases h : mwC n R x o = 0
    · exact h
    · rw [if_neg h] at hC; exact hC
  rw [if_pos hm] at hC
  obtain ⟨ho, hn12, hA, hB⟩ := mw_good ha hm
  have hcf : chF n R = 0 ∧ vwB x o = true := by
    have h := ha
    unfold avC at h
    by_cases h1 : chF n R = 0
    · rw [if_pos h1] at h
      by_cases h2 : vwB x o = true
      · exact ⟨h1, h2⟩
      · rw [if_neg h2] at h; omega
    · rw [if_neg h1] at h; exact absurd h h1
  obtain ⟨hcf, hvw⟩ := hcf
  have hvw' := hvw
  unfold vwB at hvw'
  simp only [Bool.and_eq_true, inB_iff] at hvw'
  have hg := chF_good hcf
  cases hf : fop n R
  · rw [hf, if_neg (by simp)] at hC
    have hn : n < 12 := by
      by_cases h : n = 12
      · rw [if_pos h] at hC; omega
      · omega
    have eS : pvS n R o gn v = pxC R ⟨o, 0, gn, v⟩ := by unfold pvS; rw [hf, if_neg (by simp)]
    refine ⟨n, R, ?_, by omega, ?_, ?_, hcf, fun i hi => ?_, hvw'.1, by omega, hv, hgv, fun _ _ => ⟨rfl, rfl⟩⟩
    · unfold pvN; rw [if_pos hC0, hf, if_neg (by simp)]
    · rw [eS]; rfl
    · rw [eS]; funext i; simp [pxC]
    · rcases i with - | i
      · intro h0
        have : fop n R = true := by unfold fop; simp [hi, h0]
        rw [hf] at this; cases this
      · exact older_a ((vF_split.1 (hg.2 (i + 1) hi).2).2 (by omega))
  · obtain ⟨hp, hw⟩ := hA hf
    obtain ⟨m, rfl⟩ : ∃ m, n = m + 1 := ⟨n - 1, by omega⟩
    have h0 : (R 0).a = 0 := by
      have := hf
      unfold fop at this
      simpa using this
    have ht : (R 0).t = o := by
      unfold wrt at hw
      rwa [if_pos ⟨hp, h0⟩] at hw
    have eS : pvS (m + 1) R o gn v = pxA R ⟨o, 0, gn, v⟩ := by unfold pvS; rw [hf, if_pos rfl]
    refine ⟨m, fun i => R (i + 1), ?_, by omega, ?_, ?_, ch_rest hcf, fun i hi => ?_, hvw'.1, by omega, hv, hgv, fun o2 h2 => seen_succ hcf (kd_hid (by omega) (.inl h0))⟩
    · unfold pvN; rw [if_pos hC0, hf, if_pos rfl]
    · rw [eS]; rfl
    · rw [eS]; funext i; simp [pxA]
    · exact older_a ((vF_split.1 (hg.2 (i + 1) (by omega)).2).2 (by omega))
theorem inB_of {a l h : Int} (h1 : l ≤ a) (h2 : a ≤ h) : inB a l h = true := by rw [inB_iff]; exact ⟨h1, h2⟩
section
variable {n : Nat} {R : Nat → Vr} {x o : Int} {gn : Bool} {v : Int} {m : Nat} {Q : Nat → Vr}
theorem Pushed.vR0 (h : Pushed n R x o gn v m Q) (y : Int) (h1 : 0 ≤ y) (h2 : y ≤ 1000000) : vR ⟨o, y, gn, v⟩ = true := by
  unfold vR
  simp only [Bool.and_eq_true]
  exact ⟨⟨inB_of h.ob.1 h.ob.2, inB_of h1 h2⟩, h.vb⟩
theorem Pushed.fault (h : Pushed n R x o gn v m Q) : chF (m + 1) (pvS n R o gn v) = 0 := by
  refine ch_cons h.h12 (by rw [h.s0]; exact h.vR0 0 (by omega) (by omega)) (by rw [h.s0]; exact h.gv) (by rw [h.s1]; exact h.hq) fun hm => ?_
  have e : pvS n R o gn v 1 = Q 0 := congrFun h.s1 0
  rw [e, h.s0]
  unfold older
  have := h.qa 0 hm
  simp [this]
theorem Pushed.vw (h : Pushed n R x o gn v m Q) {o2 : Int} (h1 : 0 ≤ o2) (h2 : o2 ≤ 999) : vwB x o2 = true := by
  unfold vwB
  rw [inB_of h.xb.1 h.xb.2, inB_of h1 h2]
  rfl
theorem Pushed.own (h : Pushed n R x o gn v m Q) : seC (m + 1) (pvS n R o gn v) x o = (if gn = true then 4 else 0) ∧ seV (m + 1) (pvS n R o gn v) x o = if gn = true then 0 else v := by
  have h1 := seen_first h.fault (h.vw (o2 := o) (by have := h.ob; omega) h.ob.2) (by rw [h.s0]; exact kd_own rfl rfl)
  rw [h.s0] at h1
  exact h1
theorem Pushed.writer (h : Pushed n R x o gn v m Q) : woV (m + 1) (pvS n R o gn v) = o := by
  unfold woV wrt
  rw [if_pos h.fault, h.s0]
  simp
theorem Pushed.may (h : Pushed n R x o gn v m Q) {o2 : Int} (h1 : 1 ≤ o2) (h2 : o2 ≤ 999) (hne : o2 ≠ o) : mwC (m + 1) (pvS n R o gn v) x o2 = 9 := by
  have hb : mayB (m + 1) (pvS n R o gn v) x o2 = false := by
    unfold mayB
    rw [h.s0]
    simp
    omega
  unfold mwC avC
  rw [h.fault, if_pos rfl, if_pos (h.vw (by omega) h2), if_pos rfl, if_neg (by omega), hb]
  rfl
theorem Pushed.other (h : Pushed n R x o gn v m Q) {o2 : Int} (hne : o2 ≠ o) : seC (m + 1) (pvS n R o gn v) x o2 = seC n R x o2 ∧ seV (m + 1) (pvS n R o gn v) x o2 = seV n R x o2 := by
  have h1 := seen_succ (x := x) (o := o2) h.fault (by rw [h.s0]; exact kd_hid (by show o ≠ o2; omega) (.inl rfl))
  rw [h.s1] at h1
  have h2 := h.same o2 hne
  exact ⟨h1.1.trans h2.1.symm, h1.2.trans h2.2.symm⟩
theorem Pushed.roll (h : Pushed n R x o gn v m Q) : roC (m + 1) (pvS n R o gn v) o = 0 ∧ roN (m + 1) (pvS n R o gn v) o = m := by
  have e : roC (m + 1) (pvS n R o gn v) o = 0 := by
    unfold roC
    rw [if_pos h.fault, if_pos (inB_of h.ob.1 h.ob.2), if_pos (by unfold fob; rw [h.s0]; simp)]
  exact ⟨e, by unfold roN; rw [if_pos e]; omega⟩
/-- It is committed at x + 1. -/
structure Committed (n : Nat) (R : Nat → Vr) (x o : Int) (gn : Bool) (v : Int) (m : Nat) : Prop where
  hN : coN (m + 1) (pvS n R o gn v) o (x + 1) = m + 1
  f : chF (m + 1) (coS (pvS n R o gn v) (x + 1)) = 0
  xb : x + 1 ≤ 1000000
  mw : ∀ o2, 1 ≤ o2 → o2 ≤ 999 → mwC (m + 1) (coS (pvS n R o gn v) (x + 1)) x o2 = 9
  ot : ∀ o2, o2 ≠ o → seC (m + 1) (coS (pvS n R o gn v) (x + 1)) x o2 = seC n R x o2 ∧ seV (m + 1) (coS (pvS n R o gn v) (x + 1)) x o2 = seV n R x o2
  late : ∀ o2, 0 ≤ o2 → o2 ≤ 999 → seC (m + 1) (coS (pvS n R o gn v) (x + 1)) (x + 1) o2 = (if gn = true then 4 else 0) ∧ seV (m + 1) (coS (pvS n R o gn v) (x + 1)) (x + 1) o2 = if gn = true then 0 else v
theorem Pushed.commit (h : Pushed n R x o gn v m Q) (hC : coC (m + 1) (pvS n R o gn v) o (x + 1) = 0) : Committed n R x o gn v m := by
  have hx := h.xb
  have hC0 := hC
  unfold coC at hC
  rw [if_pos h.fault] at hC
  have hb : (inB o 1 999 && inB (x + 1) 1 1000000) = true := by
    by_cases h9 : (inB o 1 999 && inB (x + 1) 1 1000000) = true
    · exact h9
    · rw [if_neg h9] at hC; omega
  rw [if_pos hb, if_pos (by unfold fob; rw [h.s0]; simp)] at hC
  have hcg : coG (m + 1) (pvS n R o gn v) (x + 1) = false := by
    cases h9 : coG (m + 1) (pvS n R o gn v) (x + 1)
    · rfl
    · rw [h9, if_pos rfl] at hC; omega
  simp only [Bool.and_eq_true, inB_iff] at hb
  have e0 : coS (pvS n R o gn v) (x + 1) 0 = ⟨o, x + 1, gn, v⟩ := by simp only [coS, if_true]; rw [h.s0]
  have e1 : (fun i => coS (pvS n R o gn v) (x + 1) (i + 1)) = Q := by
    rw [← h.s1]
    funext i
    simp [coS]
  have f : chF (m + 1) (coS (pvS n R o gn v) (x + 1)) = 0 := by
    refine ch_cons h.h12 (by rw [e0]; exact h.vR0 (x + 1) (by omega) (by omega)) (by rw [e0]; exact h.gv) (by rw [e1]; exact h.hq) fun hm => ?_
    have e : coS (pvS n R o gn v) (x + 1) 1 = Q 0 := congrFun e1 0
    have es : pvS n R o gn v 1 = Q 0 := congrFun h.s1 0
    have ha := h.qa 0 hm
    have hl : (Q 0).a < x + 1 := by
      unfold coG at hcg
      rw [es] at hcg
      have : decide (1 < m + 1) = true := by simp; omega
      rw [this] at hcg
      simpa using hcg
    rw [e, e0]
    unfold older
    simp [ha]
    omega
  refine ⟨by unfold coN; rw [if_pos hC0], f, hb.2.2, fun o2 h1 h2 => ?_, fun o2 hne => ?_, fun o2 h1 h2 => ?_⟩
  · have hmb : mayB (m + 1) (coS (pvS n R o gn v) (x + 1)) x o2 = false := by
      unfold mayB
      rw [e0]
      rw [if_neg (show ¬ (x + 1 = 0) by omega)]
      simp
      omega
    unfold mwC avC
    rw [f, if_pos rfl, if_pos (h.vw (by omega) h2), if_pos rfl, if_neg (by omega), hmb]
    rfl
  · have h1 := seen_succ (x := x) (o := o2) f (by rw [e0]; exact kd_hid (by show o ≠ o2; omega) (.inr (by show x < x + 1; omega)))
    rw [e1] at h1
    have h2 := h.same o2 hne
    exact ⟨h1.1.trans h2.1.symm, h1.2.trans h2.2.symm⟩
  · have hv : vwB (x + 1) o2 = true := by
      unfold vwB
      rw [inB_of (by omega) hb.2.2, inB_of h1 h2]
      rfl
    have h3 := seen_first f hv (by rw [e0]; exact kd_at (by show x + 1 ≠ 0; omega) (Int.le_refl _))
    rw [e0] at h3
    exact h3
end
end Go.Proofs.Ytiabblmjgfkijaa
