/- Lists of cells, and of numbers, compared: spec.l7Cells, spec.l7Same, slices.Equal of both. -/
import Derived.Test.YtnhlcadipkmhhaaGreatQSca
import Derived.Test.YtnhlcadipkmhhaaGreatQIn
namespace Go.Proofs.YtnhlcadipkmhhaaGreat
open Go.ChangeShapes Go.WideShapes Go.ChangeAt Go.RowKit Go.Deep Go.Joins
set_option linter.unusedVariables false
set_option maxRecDepth 20000

/-- Are the cells from the i-th on, m of them, the same? -/
def ceqL (K V K' V' : Nat → Int) : Nat → Nat → Bool
  | 0, _ => true
  | m + 1, i => if K i = K' i ∧ V i = V' i then ceqL K V K' V' m (i + 1) else false
theorem ceqL_at {K V K' V' : Nat → Int} {n k : Nat} (h : k < n) : ceqL K V K' V' (n - k) k = if K k = K' k ∧ V k = V' k then ceqL K V K' V' (n - (k + 1)) (k + 1) else false := by
  obtain ⟨m, hm⟩ : ∃ m, n - k = m + 1 := ⟨n - k - 1, by omega⟩
  rw [hm, ceqL, show n - (k + 1) = m by omega]
def ceq (n : Nat) (K V : Nat → Int) (n' : Nat) (K' V' : Nat → Int) : Bool := if n = n' then ceqL K V K' V' n 0 else false
set_option maxHeartbeats 2000000 in
theorem l7Cells_any (n n' : Nat) (K V K' V' : Nat → Int) (a a' : Option Addr) (cap cap' : Nat) (w : World) (hn : n ≤ 140737488355328) (hn' : n' ≤ 140737488355328) (h : CellsAt w a n K V) (h' : CellsAt w a' n' K' V') :
    Calls Tryz.prog 33 #[.slice a n cap, .slice a' n' cap'] w fun e w' => e = .returned (.bool (ceq n K V n' K' V')) ∧ ∃ m, w' = w.drewN m := by
  by_cases hl : n = n'
  · subst hl
    have HE : Hid (ceq n K V n K' V' = ceqL K V K' V' n 0) := if_pos rfl
    have hne : ((n : Int) != (n : Int)) = false := by simp
    have HA : Hid (CellsAt w a n K V) := h
    have HD : Hid (CellsAt w a' n K' V') := h'
    clear h h'
    generalize ceq n K V n K' V' = C at *
    go_enter Tryz.func33, Tryz.ntmps33
    go_wp2_with fail
    go_loopw [5] (fun i wr => ∃ k : Nat, k ≤ n ∧ i = .int .i64 k ∧ Hid (C = ceqL K V K' V' (n - k) k) ∧ ∃ m, wr = w.drewN m) (fun i _ => n - (intOf i).toNat)
    case atStart => exact ⟨0, Nat.zero_le _, rfl, HE, 0, rfl⟩
    case round =>
      obtain ⟨k, hk, rfl, HC, m, rfl⟩ := hrel
      by_cases hlt : k < n
      · have hlt' : (k : Int) < (n : Int) := by omega
        have hk0 : (0 : Int) ≤ (k : Int) := by omega
        rcases HA.out with h | ⟨b, off, rfl, hl, hc, hv⟩
        · omega
        rcases HD.out with h | ⟨b', off', rfl, hl', hc', hv'⟩
        · omega
        have q0 := hc k hlt
        have q1 := hv k hlt
        have y0 := hc' k hlt
        have y1 := hv' k hlt
        clear hc hv hc' hv'
        have HN : Hid (C = _) := HC.out.trans (ceqL_at hlt)
        clear HC HE
        by_cases c1 : K k = K' k
        · by_cases c2 : V k = V' k
          · have HC : Hid (C = ceqL K V K' V' (n - (k + 1)) (k + 1)) := by refine HN.out.trans ?_; rw [if_pos ⟨c1, c2⟩]
            rw [← c1] at y0
            rw [← c2] at y1
            clear c1 c2 HN
            generalize K k = kk at *
            generalize V k = vv at *
            go_wp2_with fail
            go_quiet (fail)
            go_wp2
            go_roundw
            case rel => exact ⟨k + 1, hlt, by go_num, HC, _, by first | rfl | exact World.drewN_drewN _ _ _⟩
            case measure => simp [intOf]; omega
          · have HC : Hid (C = false) := by refine HN.out.trans ?_; rw [if_neg (fun h => c2 h.2)]
            have d2 : (V k == V' k) = false := by simpa using c2
            rw [← c1] at y0
            clear c1 c2 HN
            generalize K k = kk at *
            generalize V k = vv at *
            generalize V' k = vv' at *
            go_wp2_with fail
            go_quiet (fail)
            go_wp2
            go_ret
            exact ⟨ret_bool HC.out.symm, _, by first | rfl | exact World.drewN_drewN _ _ _⟩
        · have HC : Hid (C = false) := by refine HN.out.trans ?_; rw [if_neg (fun h => c1 h.1)]
          have d2 : (K k == K' k) = false := by simpa using c1
          clear c1 HN
          generalize K k = kk at *
          generalize V k = vv at *
          generalize K' k = kk' at *
          generalize V' k = vv' at *
          go_wp2_with fail
          go_quiet (fail)
          go_wp2
          go_ret
          exact ⟨ret_bool HC.out.symm, _, by first | rfl | exact World.drewN_drewN _ _ _⟩
      · have HC2 : Hid (C = true) := by refine HC.out.trans ?_; rw [show n - k = 0 by omega, ceqL]
        have hnl : ¬ ((k : Int) < (n : Int)) := by omega
        clear HC HE
        go_wp2_with fail
        go_ret
        exact ⟨ret_bool HC2.out.symm, _, rfl⟩
  · have HE : Hid (ceq n K V n' K' V' = false) := if_neg hl
    have hne : ((n : Int) != (n' : Int)) = true := by simp; omega
    clear h h' hl
    go_enter Tryz.func33, Tryz.ntmps33
    go_wp2_with fail
    go_ret
    exact ⟨ret_bool HE.out.symm, 0, rfl⟩
set_option maxHeartbeats 2000000 in
theorem sEqual_any (n n' : Nat) (K V K' V' : Nat → Int) (a a' : Option Addr) (cap cap' : Nat) (w : World) (hn : n ≤ 140737488355328) (hn' : n' ≤ 140737488355328) (h : CellsAt w a n K V) (h' : CellsAt w a' n' K' V') :
    Calls Tryz.prog 79 #[.slice a n cap, .slice a' n' cap'] w fun e w' => e = .returned (.bool (ceq n K V n' K' V')) ∧ ∃ m, w' = w.drewN m := by
  by_cases hl : n = n'
  · subst hl
    have HE : Hid (ceq n K V n K' V' = ceqL K V K' V' n 0) := if_pos rfl
    have hne : ((n : Int) != (n : Int)) = false := by simp
    have HA : Hid (CellsAt w a n K V) := h
    have HD : Hid (CellsAt w a' n K' V') := h'
    clear h h'
    generalize ceq n K V n K' V' = C at *
    go_enter Tryz.func79, Tryz.ntmps79
    go_wp2_with fail
    go_loopw [5, 13] (fun _ i wr => ∃ k : Nat, k ≤ n ∧ i = .int .i64 k ∧ Hid (C = ceqL K V K' V' (n - k) k) ∧ ∃ m, wr = w.drewN m) (fun _ i _ => n - (intOf i).toNat)
    case atStart => exact ⟨0, Nat.zero_le _, rfl, HE, 0, rfl⟩
    case round =>
      obtain ⟨k, hk, rfl, HC, m, rfl⟩ := hrel
      by_cases hlt : k < n
      · have hlt' : (k : Int) < (n : Int) := by omega
        have hk0 : (0 : Int) ≤ (k : Int) := by omega
        rcases HA.out with h | ⟨b, off, rfl, hl, hc, hv⟩
        · omega
        rcases HD.out with h | ⟨b', off', rfl, hl', hc', hv'⟩
        · omega
        have q0 := hc k hlt
        have q1 := hv k hlt
        have y0 := hc' k hlt
        have y1 := hv' k hlt
        clear hc hv hc' hv'
        have HN : Hid (C = _) := HC.out.trans (ceqL_at hlt)
        clear HC HE
        by_cases c1 : K k = K' k
        · by_cases c2 : V k = V' k
          · have HC : Hid (C = ceqL K V K' V' (n - (k + 1)) (k + 1)) := by refine HN.out.trans ?_; rw [if_pos ⟨c1, c2⟩]
            rw [← c1] at y0
            rw [← c2] at y1
            clear c1 c2 HN
            generalize K k = kk at *
            generalize V k = vv at *
            go_wp2_with fail
            go_quiet (fail)
            go_wp2
            go_roundw
            case rel => exact ⟨k + 1, hlt, by go_num, HC, _, by first | rfl | exact World.drewN_drewN _ _ _⟩
            case measure => simp [intOf]; omega
          · have HC : Hid (C = false) := by refine HN.out.trans ?_; rw [if_neg (fun h => c2 h.2)]
            have d2 : (V k == V' k) = false := by simpa using c2
            rw [← c1] at y0
            clear c1 c2 HN
            generalize K k = kk at *
            generalize V k = vv at *
            generalize V' k = vv' at *
            go_wp2_with fail
            go_quiet (fail)
            go_wp2
            go_ret
            exact ⟨ret_bool HC.out.symm, _, by first | rfl | exact World.drewN_drewN _ _ _⟩
        · have HC : Hid (C = false) := by refine HN.out.trans ?_; rw [if_neg (fun h => c1 h.1)]
          have d2 : (K k == K' k) = false := by simpa using c1
          clear c1 HN
          generalize K k = kk at *
          generalize V k = vv at *
          generalize K' k = kk' at *
          generalize V' k = vv' at *
          go_wp2_with fail
          go_quiet (fail)
          go_wp2
          go_ret
          exact ⟨ret_bool HC.out.symm, _, by first | rfl | exact World.drewN_drewN _ _ _⟩
      · have HC2 : Hid (C = true) := by refine HC.out.trans ?_; rw [show n - k = 0 by omega, ceqL]
        have hnl : ¬ ((k : Int) < (n : Int)) := by omega
        clear HC HE
        go_wp2_with fail
        go_ret
        exact ⟨ret_bool HC2.out.symm, _, rfl⟩
  · have HE : Hid (ceq n K V n' K' V' = false) := if_neg hl
    have hne : ((n : Int) != (n' : Int)) = true := by simp; omega
    clear h h' hl
    go_enter Tryz.func79, Tryz.ntmps79
    go_wp2_with fail
    go_ret
    exact ⟨ret_bool HE.out.symm, 0, rfl⟩
/-- Are the numbers from the i-th on, m of them, the same? -/
def ieqL (K K' : Nat → Int) : Nat → Nat → Bool
  | 0, _ => true
  | m + 1, i => if K i = K' i then ieqL K K' m (i + 1) else false
theorem ieqL_at {K K' : Nat → Int} {n k : Nat} (h : k < n) : ieqL K K' (n - k) k = if K k = K' k then ieqL K K' (n - (k + 1)) (k + 1) else false := by
  obtain ⟨m, hm⟩ : ∃ m, n - k = m + 1 := ⟨n - k - 1, by omega⟩
  rw [hm, ieqL, show n - (k + 1) = m by omega]
def ieq (n : Nat) (K : Nat → Int) (n' : Nat) (K' : Nat → Int) : Bool := if n = n' then ieqL K K' n 0 else false
set_option maxHeartbeats 2000000 in
theorem l7Same_any (n n' : Nat) (K K' : Nat → Int) (a a' : Option Addr) (cap cap' : Nat) (w : World) (hn : n ≤ 140737488355328) (hn' : n' ≤ 140737488355328) (h : IntsAt w a n K) (h' : IntsAt w a' n' K') :
    Calls Tryz.prog 30 #[.slice a n cap, .slice a' n' cap'] w fun e w' => e = .returned (.bool (ieq n K n' K')) ∧ ∃ m, w' = w.drewN m := by
  by_cases hl : n = n'
  · subst hl
    have HE : Hid (ieq n K n K' = ieqL K K' n 0) := if_pos rfl
    have hne : ((n : Int) != (n : Int)) = false := by simp
    have HA : Hid (IntsAt w a n K) := h
    have HD : Hid (IntsAt w a' n K') := h'
    clear h h'
    generalize ieq n K n K' = C at *
    go_enter Tryz.func30, Tryz.ntmps30
    go_wp2_with fail
    go_loopw [5] (fun i wr => ∃ k : Nat, k ≤ n ∧ i = .int .i64 k ∧ Hid (C = ieqL K K' (n - k) k) ∧ ∃ m, wr = w.drewN m) (fun i _ => n - (intOf i).toNat)
    case atStart => exact ⟨0, Nat.zero_le _, rfl, HE, 0, rfl⟩
    case round =>
      obtain ⟨k, hk, rfl, HC, m, rfl⟩ := hrel
      by_cases hlt : k < n
      · have hlt' : (k : Int) < (n : Int) := by omega
        have hk0 : (0 : Int) ≤ (k : Int) := by omega
        rcases HA.out with h | ⟨b, off, rfl, hl, hc⟩
        · omega
        rcases HD.out with h | ⟨b', off', rfl, hl', hc'⟩
        · omega
        have q0 := hc k hlt
        have y0 := hc' k hlt
        clear hc hc'
        have HN : Hid (C = _) := HC.out.trans (ieqL_at hlt)
        clear HC HE
        by_cases c1 : K k = K' k
        · have HC : Hid (C = ieqL K K' (n - (k + 1)) (k + 1)) := by refine HN.out.trans ?_; rw [if_pos c1]
          rw [← c1] at y0
          clear c1 HN
          generalize K k = kk at *
          go_wp2_with fail
          go_quiet (fail)
          go_wp2
          go_roundw
          case rel => exact ⟨k + 1, hlt, by go_num, HC, _, by first | rfl | exact World.drewN_drewN _ _ _⟩
          case measure => simp [intOf]; omega
        · have HC : Hid (C = false) := by refine HN.out.trans ?_; rw [if_neg c1]
          have d2 : (K k == K' k) = false := by simpa using c1
          clear c1 HN
          generalize K k = kk at *
          generalize K' k = kk' at *
          go_wp2_with fail
          go_quiet (fail)
          go_wp2
          go_ret
          exact ⟨ret_bool HC.out.symm, _, by first | rfl | exact World.drewN_drewN _ _ _⟩
      · have HC2 : Hid (C = true) := by refine HC.out.trans ?_; rw [show n - k = 0 by omega, ieqL]
        have hnl : ¬ ((k : Int) < (n : Int)) := by omega
        clear HC HE
        go_wp2_with fail
        go_ret
        exact ⟨ret_bool HC2.out.symm, _, rfl⟩
  · have HE : Hid (ieq n K n' K' = false) := if_neg hl
    have hne : ((n : Int) != (n' : Int)) = true := by simp; omega
    clear h h' hl
    go_enter Tryz.func30, Tryz.ntmps30
    go_wp2_with fail
    go_ret
    exact ⟨ret_bool HE.out.symm, 0, rfl⟩
set_option maxHeartbeats 2000000 in
theorem sEqI_any (n n' : Nat) (K K' : Nat → Int) (a a' : Option Addr) (cap cap' : Nat) (w : World) (hn : n ≤ 140737488355328) (hn' : n' ≤ 140737488355328) (h : IntsAt w a n K) (h' : IntsAt w a' n' K') :
    Calls Tryz.prog 43 #[.slice a n cap, .slice a' n' cap'] w fun e w' => e = .returned (.bool (ieq n K n' K')) ∧ ∃ m, w' = w.drewN m := by
  by_cases hl : n = n'
  · subst hl
    have HE : Hid (ieq n K n K' = ieqL K K' n 0) := if_pos rfl
    have hne : ((n : Int) != (n : Int)) = false := by simp
    have HA : Hid (IntsAt w a n K) := h
    have HD : Hid (IntsAt w a' n K') := h'
    clear h h'
    generalize ieq n K n K' = C at *
    go_enter Tryz.func43, Tryz.ntmps43
    go_wp2_with fail
    go_loopw [5, 13] (fun _ i wr => ∃ k : Nat, k ≤ n ∧ i = .int .i64 k ∧ Hid (C = ieqL K K' (n - k) k) ∧ ∃ m, wr = w.drewN m) (fun _ i _ => n - (intOf i).toNat)
    case atStart => exact ⟨0, Nat.zero_le _, rfl, HE, 0, rfl⟩
    case round =>
      obtain ⟨k, hk, rfl, HC, m, rfl⟩ := hrel
      by_cases hlt : k < n
      · have hlt' : (k : Int) < (n : Int) := by omega
        have hk0 : (0 : Int) ≤ (k : Int) := by omega
        rcases HA.out with h | ⟨b, off, rfl, hl, hc⟩
        · omega
        rcases HD.out with h | ⟨b', off', rfl, hl', hc'⟩
        · omega
        have q0 := hc k hlt
        have y0 := hc' k hlt
        clear hc hc'
        have HN : Hid (C = _) := HC.out.trans (ieqL_at hlt)
        clear HC HE
        by_cases c1 : K k = K' k
        · have HC : Hid (C = ieqL K K' (n - (k + 1)) (k + 1)) := by refine HN.out.trans ?_; rw [if_pos c1]
          rw [← c1] at y0
          clear c1 HN
          generalize K k = kk at *
          go_wp2_with fail
          go_quiet (fail)
          go_wp2
          go_roundw
          case rel => exact ⟨k + 1, hlt, by go_num, HC, _, by first | rfl | exact World.drewN_drewN _ _ _⟩
          case measure => simp [intOf]; omega
        · have HC : Hid (C = false) := by refine HN.out.trans ?_; rw [if_neg c1]
          have d2 : (K k == K' k) = false := by simpa using c1
          clear c1 HN
          generalize K k = kk at *
          generalize K' k = kk' at *
          go_wp2_with fail
          go_quiet (fail)
          go_wp2
          go_ret
          exact ⟨ret_bool HC.out.symm, _, by first | rfl | exact World.drewN_drewN _ _ _⟩
      · have HC2 : Hid (C = true) := by refine HC.out.trans ?_; rw [show n - k = 0 by omega, ieqL]
        have hnl : ¬ ((k : Int) < (n : Int)) := by omega
        clear HC HE
        go_wp2_with fail
        go_ret
        exact ⟨ret_bool HC2.out.symm, _, rfl⟩
  · have HE : Hid (ieq n K n' K' = false) := if_neg hl
    have hne : ((n : Int) != (n' : Int)) = true := by simp; omega
    clear h h' hl
    go_enter Tryz.func43, Tryz.ntmps43
    go_wp2_with fail
    go_ret
    exact ⟨ret_bool HE.out.symm, 0, rfl⟩
theorem ieqL_iff {K K' : Nat → Int} : ∀ m i, ieqL K K' m i = true ↔ ∀ j, j < m → K (i + j) = K' (i + j)
  | 0, i => ⟨fun _ j hj => absurd hj (Nat.not_lt_zero _), fun _ => rfl⟩
  | m + 1, i => by
    rw [ieqL]
    constructor
    · intro h j hj
      split at h
      · rename_i h0
        rcases Nat.eq_zero_or_pos j with rfl | hp
        · exact h0
        · have := (ieqL_iff m (i + 1)).1 h (j - 1) (by omega)
          rwa [show i + 1 + (j - 1) = i + j by omega] at this
      · cases h
    · intro h
      have h0 := h 0 (by omega)
      rw [Nat.add_zero] at h0
      rw [if_pos h0]
      exact (ieqL_iff m (i + 1)).2 fun j hj => by
        have := h (j + 1) (by omega)
        rwa [show i + (j + 1) = i + 1 + j by omega] at this
theorem ceqL_iff {K V K' V' : Nat → Int} : ∀ m i, ceqL K V K' V' m i = true ↔ ∀ j, j < m → K (i + j) = K' (i + j) ∧ V (i + j) = V' (i + j)
  | 0, i => ⟨fun _ j hj => absurd hj (Nat.not_lt_zero _), fun _ => rfl⟩
  | m + 1, i => by
    rw [ceqL]
    constructor
    · intro h j hj
      split at h
      · rename_i h0
        rcases Nat.eq_zero_or_pos j with rfl | hp
        · exact h0
        · have := (ceqL_iff m (i + 1)).1 h (j - 1) (by omega)
          rwa [show i + 1 + (j - 1) = i + j by omega] at this
      · cases h
    · intro h
      have h0 := h 0 (by omega)
      rw [Nat.add_zero] at h0
      rw [if_pos h0]
      exact (ceqL_iff m (i + 1)).2 fun j hj => by
        have := h (j + 1) (by omega)
        rwa [show i + (j + 1) = i + 1 + j by omega] at this
theorem getD_at {α : Type} (d : α) {xs : List α} {i : Nat} (h : i < xs.length) : xs.getD i d = xs[i] := by simp [List.getD_eq_getElem?_getD, h]
theorem list_same {α : Type} (d : α) {xs ys : List α} : xs = ys ↔ xs.length = ys.length ∧ ∀ i, i < xs.length → xs.getD i d = ys.getD i d := by
  constructor
  · rintro rfl
    exact ⟨rfl, fun _ _ => rfl⟩
  · rintro ⟨h1, h2⟩
    refine List.ext_getElem h1 fun i hi hj => ?_
    have := h2 i hi
    rwa [getD_at _ hi, getD_at _ hj] at this
theorem ieq_list (xs ys : List Int) : ieq xs.length (zI xs) ys.length (zI ys) = decide (xs = ys) := by
  by_cases hl : xs.length = ys.length
  · rw [ieq, if_pos hl]
    rw [Bool.eq_iff_iff, ieqL_iff, decide_eq_true_iff, list_same 0]
    constructor
    · intro h
      exact ⟨hl, fun i hi => by have := h i hi; rwa [Nat.zero_add] at this⟩
    · rintro ⟨_, h⟩ i hi
      rw [Nat.zero_add]
      exact h i hi
  · rw [ieq, if_neg hl, Eq.comm, decide_eq_false_iff_not]
    exact fun h => hl (by rw [h])
theorem ceq_list (xs ys : List (Int × Int)) : ceq xs.length (kC xs) (vC xs) ys.length (kC ys) (vC ys) = decide (xs = ys) := by
  by_cases hl : xs.length = ys.length
  · rw [ceq, if_pos hl]
    rw [Bool.eq_iff_iff, ceqL_iff, decide_eq_true_iff, list_same (0, 0)]
    constructor
    · intro h
      refine ⟨hl, fun i hi => ?_⟩
      have := h i hi
      rw [Nat.zero_add] at this
      exact Prod.ext this.1 this.2
    · rintro ⟨_, h⟩ i hi
      rw [Nat.zero_add]
      have := h i hi
      exact ⟨congrArg Prod.fst this, congrArg Prod.snd this⟩
  · rw [ceq, if_neg hl, Eq.comm, decide_eq_false_iff_not]
    exact fun h => hl (by rw [h])
end Go.Proofs.YtnhlcadipkmhhaaGreat
