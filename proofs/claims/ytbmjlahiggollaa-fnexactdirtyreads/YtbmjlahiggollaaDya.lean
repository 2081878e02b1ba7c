/- DirtyReads: what is told, as a function. -/
import Derived.Test.YtbmjlahiggollaaHoa
import Derived.Test.YtbmjlahiggollaaRif
import Derived.Test.YtbmjlahiggollaaSru
namespace Go.Proofs.Ytbmjlahiggollaa
open Go.RowKit Go.Deep
set_option linter.unusedVariables false
set_option maxRecDepth 20000

set_option maxHeartbeats 2000000 in
theorem l1Has_any (zs : List Int) (a : Option Addr) (cap : Nat) (v : Int) (w : World) (hn : zs.length ≤ 100000) (h : IntsAt w a zs.length (zI zs)) :
    Calls Try.prog 15 #[.slice a zs.length cap, .int .i64 v] w fun e w' => e = .returned (.bool (decide (v ∈ zs))) ∧ w' = w := by
  have HA : Hid (IntsAt w a zs.length (zI zs)) := h
  clear h
  go_enter Try.func15, Try.ntmps15
  go_wp2_with fail
  go_loop [5] (fun i => ∃ k : Nat, k ≤ zs.length ∧ i = .int .i64 k ∧ Hid (∀ j, j < k → zI zs j ≠ v)) (fun i => zs.length - (intOf i).toNat)
  case atStart => exact ⟨0, Nat.zero_le _, rfl, fun j hj => by omega⟩
  case round =>
    obtain ⟨k, hk, rfl, HN⟩ := hrel
    by_cases hlt : k < zs.length
    · have hlt' : (k : Int) < (zs.length : Int) := by omega
      have hk0 : (0 : Int) ≤ (k : Int) := by omega
      rcases HA.out with h | ⟨b, off, rfl, hl, hc⟩
      · omega
      have hx := hc k hlt
      clear hc
      by_cases he : zI zs k = v
      · have HM : Hid (decide (v ∈ zs) = true) := by
          refine decide_eq_true ?_
          rw [← he]
          unfold zI
          rw [List.getD_eq_getElem?_getD, List.getElem?_eq_getElem hlt]
          exact List.getElem_mem hlt
        have he2 : (zI zs k == v) = true := by simp [he]
        generalize zI zs k = zk at *
        clear he
        go_wp2_with fail
        go_ret
        exact ⟨ret_bool HM.out.symm, rfl⟩
      · have HN2 : Hid (∀ j, j < k + 1 → zI zs j ≠ v) := fun j hj => by
          by_cases e : j = k
          · subst e; exact he
          · exact HN.out j (by omega)
        have he2 : (zI zs k == v) = false := by simp [he]
        generalize zI zs k = zk at *
        clear he
        go_wp2_with fail
        go_round
        case rel => exact ⟨k + 1, hlt, by go_num, HN2⟩
        case measure => simp [intOf]; omega
    · have hkn : k = zs.length := by omega
      have hnl : ¬ ((k : Int) < (zs.length : Int)) := by omega
      have HM : Hid (decide (v ∈ zs) = false) := by
        refine decide_eq_false fun hm => ?_
        obtain ⟨i, hi, e⟩ := List.mem_iff_getElem.1 hm
        refine HN.out i (by omega) ?_
        unfold zI
        rw [List.getD_eq_getElem?_getD, List.getElem?_eq_getElem hi]
        exact e
      go_wp2_with fail
      go_ret
      exact ⟨ret_bool HM.out.symm, rfl⟩

/-! ### lists that rise -/
theorem rise_eq : ∀ (l m : List Int), l.Pairwise (· < ·) → m.Pairwise (· < ·) → (∀ x, x ∈ l ↔ x ∈ m) → l = m
  | [], [], _, _, _ => rfl
  | [], y :: m, _, _, h => by have := (h y).2 (by simp); simp at this
  | x :: l, [], _, _, h => by have := (h x).1 (by simp); simp at this
  | x :: l, y :: m, h1, h2, h => by
    have e : x = y := by
      rcases List.mem_cons.1 ((h x).1 (by simp)) with e | e
      · exact e
      · have q1 := List.rel_of_pairwise_cons h2 e
        rcases List.mem_cons.1 ((h y).2 (by simp)) with e' | e'
        · exact e'.symm
        · have q2 := List.rel_of_pairwise_cons h1 e'
          omega
    subst e
    refine congrArg _ (rise_eq l m (List.Pairwise.of_cons h1) (List.Pairwise.of_cons h2) fun z => ?_)
    constructor
    · intro hz
      rcases List.mem_cons.1 ((h z).1 (by simp [hz])) with e | e
      · have := List.rel_of_pairwise_cons h1 hz; omega
      · exact e
    · intro hz
      rcases List.mem_cons.1 ((h z).2 (by simp [hz])) with e | e
      · have := List.rel_of_pairwise_cons h2 hz; omega
      · exact e
theorem ri_mem : ∀ (l : List Int) (v x : Int), x ∈ ri l v ↔ x = v ∨ x ∈ l
  | [], v, x => by simp [ri]
  | y :: r, v, x => by
    simp only [ri]
    split
    · simp only [List.mem_cons, ri_mem r v x]
      constructor
      · rintro (h | h | h) <;> simp [h]
      · rintro (h | h | h) <;> simp [h]
    · split
      · rename_i h1 h2
        simp only [List.mem_cons]
        constructor
        · rintro (h | h) <;> simp [h]
        · rintro (h | h | h)
          · left; omega
          · simp [h]
          · simp [h]
      · simp only [List.mem_cons]
theorem ri_rise : ∀ (l : List Int) (v : Int), l.Pairwise (· < ·) → (ri l v).Pairwise (· < ·)
  | [], v, _ => by simp [ri]
  | y :: r, v, h => by
    simp only [ri]
    split
    · rename_i h1
      refine List.Pairwise.cons (fun z hz => ?_) (ri_rise r v (List.Pairwise.of_cons h))
      rcases (ri_mem r v z).1 hz with e | e
      · omega
      · exact List.rel_of_pairwise_cons h e
    · split
      · exact h
      · rename_i h1 h2
        refine List.Pairwise.cons (fun z hz => ?_) h
        rcases List.mem_cons.1 hz with e | e
        · omega
        · have := List.rel_of_pairwise_cons h e; omega
theorem sortL_mem (l : List Int) (x : Int) : x ∈ sortL l ↔ x ∈ l := (List.mergeSort_perm l _).mem_iff
theorem sortL_rise {l : List Int} (h : l.Nodup) : (sortL l).Pairwise (· < ·) := by
  have h1 : (sortL l).Pairwise (fun x y => decide (x ≤ y) = true) := List.pairwise_mergeSort (fun a b c h1 h2 => by simp at *; omega) (fun a b => by simp; omega) l
  have h2 : (sortL l).Nodup := (List.mergeSort_perm l _).nodup_iff.2 h
  refine (h1.and h2).imp fun hh => ?_
  obtain ⟨h3, h4⟩ := hh
  simp at h3
  omega
/-! ### who committed, once -/
theorem last_done {R : Nat → Hp} {n i : Nat} (h : hiF R n = 0) (hi : i < n) (hk : (R i).k = 4) : ∀ m, i < m → m ≤ n → lastK R m (R i).t = 4
  | 0, h1, _ => by omega
  | m + 1, h1, h2 => by
    simp only [lastK]
    by_cases q : i = m
    · subst q; rw [if_pos rfl, hk]
    · have ih := last_done h hi hk m (by omega) (by omega)
      by_cases e : (R m).t = (R i).t
      · exfalso
        have hg := (hpF_zero (hop_good h (show m < n by omega))).2.2
        rw [e, ih] at hg
        unfold mayF at hg
        split at hg
        · simp at hg
        · simp [inB] at hg
      · rw [if_neg e]; exact ih
theorem cm_mem {R : Nat → Hp} {x : Int} : ∀ {n : Nat}, x ∈ cmL R n ↔ ∃ i, i < n ∧ (R i).k = 4 ∧ (R i).t = x
  | 0 => by simp [cmL]
  | n + 1 => by
    simp only [cmL]
    split
    · rename_i h
      simp only [List.mem_append, cm_mem (n := n), List.mem_singleton]
      constructor
      · rintro (⟨i, h1, h2⟩ | rfl)
        · exact ⟨i, by omega, h2⟩
        · exact ⟨n, by omega, h, rfl⟩
      · rintro ⟨i, h1, h2, h3⟩
        by_cases q : i = n
        · subst q; exact .inr h3.symm
        · exact .inl ⟨i, by omega, h2, h3⟩
    · rename_i h
      rw [cm_mem (n := n)]
      constructor
      · rintro ⟨i, h1, h2⟩; exact ⟨i, by omega, h2⟩
      · rintro ⟨i, h1, h2, h3⟩
        by_cases q : i = n
        · subst q; exact absurd h2 h
        · exact ⟨i, by omega, h2, h3⟩
theorem cm_nodup {R : Nat → Hp} : ∀ {n : Nat}, hiF R n = 0 → (cmL R n).Nodup
  | 0, _ => by simp [cmL]
  | n + 1, h => by
    have ih := cm_nodup (hiF_less h (Nat.le_succ n))
    simp only [cmL]
    split
    · rename_i hk
      rw [List.nodup_append]
      refine ⟨ih, by simp, ?_⟩
      intro x hx y hy
      simp only [List.mem_singleton] at hy
      subst hy
      rintro rfl
      obtain ⟨i, h1, h2, h3⟩ := cm_mem.1 hx
      have hl := last_done h (show i < n + 1 by omega) h2 n h1 (by omega)
      have hg := (hpF_zero (hop_good h (Nat.lt_succ_self n))).2.2
      rw [← h3, hl, hk] at hg
      simp [mayF, inB] at hg
    · exact ih
/-! ### reads of what was not committed -/
/-- Is the i-th hop such a read? -/
def drH (R : Nat → Hp) (n i : Nat) : Bool := (R i).k == 2 && (R i).o != (R i).t && decide (0 ≤ plc R 1 (R i).o n) && decide (plc R 4 (R i).o i < 0)
def drT (R : Nat → Hp) (n : Nat) (t : Int) : Nat → Bool
  | 0 => false
  | k + 1 => drT R n t k || (drH R n k && (R k).t == t)
theorem drT_iff {R : Nat → Hp} {n : Nat} {t : Int} : ∀ {k : Nat}, drT R n t k = true ↔ ∃ i, i < k ∧ drH R n i = true ∧ (R i).t = t
  | 0 => by simp [drT]
  | k + 1 => by
    simp only [drT, Bool.or_eq_true, drT_iff (k := k), Bool.and_eq_true, beq_iff_eq]
    constructor
    · rintro (⟨i, h, e⟩ | e)
      · exact ⟨i, by omega, e⟩
      · exact ⟨k, by omega, e⟩
    · rintro ⟨i, h, e⟩
      by_cases q : i = k
      · subst q; exact .inr e
      · exact .inl ⟨i, by omega, e⟩
def drL (R : Nat → Hp) (n : Nat) (l : List Int) : List Int := l.filter (fun t => drT R n t n)
/-- The model's list, by the first k hops. -/
def drS (R : Nat → Hp) (n : Nat) : Nat → List Int
  | 0 => []
  | k + 1 => if (drH R n k && decide ((R k).t ∈ cmL R n)) = true then ri (drS R n k) (R k).t else drS R n k
theorem drS_len (R : Nat → Hp) (n : Nat) : ∀ k, (drS R n k).length ≤ k
  | 0 => by simp [drS]
  | k + 1 => by
    have := drS_len R n k
    simp only [drS]
    split
    · have := ri_len (drS R n k) (R k).t; omega
    · omega
theorem drS_rise (R : Nat → Hp) (n : Nat) : ∀ k, (drS R n k).Pairwise (· < ·)
  | 0 => by simp [drS]
  | k + 1 => by
    simp only [drS]
    split
    · exact ri_rise _ _ (drS_rise R n k)
    · exact drS_rise R n k
theorem drS_mem (R : Nat → Hp) (n : Nat) (x : Int) : ∀ k, x ∈ drS R n k ↔ x ∈ cmL R n ∧ drT R n x k = true
  | 0 => by simp [drS, drT]
  | k + 1 => by
    have ih := drS_mem R n x k
    have hs : drT R n x (k + 1) = (drT R n x k || (drH R n k && (R k).t == x)) := rfl
    rw [hs]
    simp only [drS]
    split
    · rename_i h
      simp only [Bool.and_eq_true, decide_eq_true_eq] at h
      rw [ri_mem, ih]
      simp only [Bool.or_eq_true, Bool.and_eq_true, beq_iff_eq]
      constructor
      · rintro (rfl | ⟨h1, h2⟩)
        · exact ⟨h.2, .inr ⟨h.1, rfl⟩⟩
        · exact ⟨h1, .inl h2⟩
      · rintro ⟨h1, h2 | ⟨_, h3⟩⟩
        · exact .inr ⟨h1, h2⟩
        · exact .inl h3.symm
    · rename_i h
      simp only [Bool.and_eq_true, decide_eq_true_eq] at h
      rw [ih]
      simp only [Bool.or_eq_true, Bool.and_eq_true, beq_iff_eq]
      constructor
      · rintro ⟨h1, h2⟩; exact ⟨h1, .inl h2⟩
      · rintro ⟨h1, h2 | ⟨h3, h4⟩⟩
        · exact ⟨h1, h2⟩
        · exfalso; apply h; rw [h4]; exact ⟨h3, h1⟩
theorem dr_eq {R : Nat → Hp} {n : Nat} (h : hiF R n = 0) : drL R n (sortL (cmL R n)) = drS R n n := by
  refine rise_eq _ _ ((sortL_rise (cm_nodup h)).filter _) (drS_rise R n n) fun x => ?_
  rw [drS_mem]
  simp only [drL, List.mem_filter, sortL_mem]
theorem drL_yes {R : Nat → Hp} {n : Nat} {l : List Int} {k : Nat} (h : k < l.length) (e : drT R n (zI l k) n = true) : drL R n (l.take (k + 1)) = drL R n (l.take k) ++ [zI l k] := by
  rw [take_next h]; simp [drL, e]
theorem drL_no {R : Nat → Hp} {n : Nat} {l : List Int} {k : Nat} (h : k < l.length) (e : drT R n (zI l k) n = false) : drL R n (l.take (k + 1)) = drL R n (l.take k) := by
  rw [take_next h]; simp [drL, e]
theorem drL_take (R : Nat → Hp) (n : Nat) (l : List Int) (k : Nat) : (drL R n (l.take k)).length ≤ l.length :=
  Nat.le_trans (List.length_filter_le _ _) (by simp; omega)
end Go.Proofs.Ytbmjlahiggollaa
