/- Lists of cells, and replies, compared: the walks of spec.l7Cells, slices.Equal, impl.sameReply, slices.EqualFunc, and of both SameReplies. -/
import Derived.Test.YtenglcgkachomaaRpa
namespace Go.Proofs.Ytenglcgkachomaa
open Go.ChangeShapes Go.WideShapes Go.ChangeAt Go.RowKit Go.Deep Go.Joins
set_option linter.unusedVariables false
set_option maxRecDepth 20000

/-- Are the cells from the i-th on, m of them, the same? -/
def ceqL (K V K' V' : Nat → Int) : Nat → Nat → Bool
  | 0, _ => true
  | m + 1, i => if K i = K' i ∧ V i = V' i then ceqL K V K' V' m (i + 1) else false
theorem ceqL_at {K V K' V' : Nat → Int} {n k : Nat} (h : k < n) : ceqL K V K' V' (n - k) k = if K k = K' k ∧ V k = V' k then ceqL K V K' V' (n - (k + 1)) (k + 1) else false := by
  obtain ⟨m, hm⟩ : ∃ m, n - k = m + 1 := ⟨n - k - 1, by omega⟩
  rw [hm, ceqL, show n - (k + 1) = m by omega]
def ceq (n : Nat) (K V : Nat → Int) (n' : Nat) (K' V' : Nat → Int) : Bool := if n = n' then ceqL K V K' V' n 0 else false
set_option maxHeartbeats 2000000 in
theorem l7Cells_any (n n' : Nat) (K V K' V' : Nat → Int) (a a' : Option Addr) (cap cap' : Nat) (w : World) (hn : n ≤ 140737488355328) (hn' : n' ≤ 140737488355328) (h : CellsAt w a n K V) (h' : CellsAt w a' n' K' V') :
    Calls Try.prog 37 #[.slice a n cap, .slice a' n' cap'] w fun e w' => e = .returned (.bool (ceq n K V n' K' V')) ∧ ∃ m, w' = w.drewN m := by
  by_cases hl : n = n'
  · subst hl
    have HE : Hid (ceq n K V n K' V' = ceqL K V K' V' n 0) := if_pos rfl
    have hne : ((n : Int) != (n : Int)) = false := by simp
    have HA : Hid (CellsAt w a n K V) := h
    have HD : Hid (CellsAt w a' n K' V') := h'
    clear h h'
    generalize ceq n K V n K' V' = C at *
    go_enter Try.func37, Try.ntmps37
    go_wp2_with fail
    go_loopw [5] (fun i wr => ∃ k : Nat, k ≤ n ∧ i = .int .i64 k ∧ Hid (C = ceqL K V K' V' (n - k) k) ∧ ∃ m, wr = w.drewN m) (fun i _ => n - (intOf i).toNat)
    case atStart => exact ⟨0, Nat.zero_le _, rfl, HE, 0, rfl⟩
    case round =>
      obtain ⟨k, hk, rfl, HC, m, rfl⟩ := hrel
      by_cases hlt : k < n
      · have hlt' : (k : Int) < (n : Int) := by omega
        have hk0 : (0 : Int) ≤ (k : Int) := by omega
        rcases HA.out with h | ⟨b, off, rfl, hl, hc, hv⟩
        · omega
        rcases HD.out with h | ⟨b', off', rfl, hl', hc', hv'⟩
        · omega
        have q0 := hc k hlt
        have q1 := hv k hlt
        have y0 := hc' k hlt
        have y1 := hv' k hlt
        clear hc hv hc' hv'
        have HN : Hid (C = _) := HC.out.trans (ceqL_at hlt)
        clear HC HE
        by_cases c1 : K k = K' k
        · by_cases c2 : V k = V' k
          · have HC : Hid (C = ceqL K V K' V' (n - (k + 1)) (k + 1)) := by refine HN.out.trans ?_; rw [if_pos ⟨c1, c2⟩]
            rw [← c1] at y0
            rw [← c2] at y1
            clear c1 c2 HN
            generalize K k = kk at *
            generalize V k = vv at *
            go_wp2_with fail
            go_quiet (fail)
            go_wp2
            go_roundw
            case rel => exact ⟨k + 1, hlt, by go_num, HC, _, by first | rfl | exact World.drewN_drewN _ _ _⟩
            case measure => simp [intOf]; omega
          · have HC : Hid (C = false) := by refine HN.out.trans ?_; rw [if_neg (fun h => c2 h.2)]
            have d2 : (V k == V' k) = false := by simpa using c2
            rw [← c1] at y0
            clear c1 c2 HN
            generalize K k = kk at *
            generalize V k = vv at *
            generalize V' k = vv' at *
            go_wp2_with fail
            go_quiet (fail)
            go_wp2
            go_ret
            exact ⟨ret_bool HC.out.symm, _, by first | rfl | exact World.drewN_drewN _ _ _⟩
        · have HC : Hid (C = false) := by refine HN.out.trans ?_; rw [if_neg (fun h => c1 h.1)]
          have d2 : (K k == K' k) = false := by simpa using c1
          clear c1 HN
          generalize K k = kk at *
          generalize V k = vv at *
          generalize K' k = kk' at *
          generalize V' k = vv' at *
          go_wp2_with fail
          go_quiet (fail)
          go_wp2
          go_ret
          exact ⟨ret_bool HC.out.symm, _, by first | rfl | exact World.drewN_drewN _ _ _⟩
      · have HC2 : Hid (C = true) := by refine HC.out.trans ?_; rw [show n - k = 0 by omega, ceqL]
        have hnl : ¬ ((k : Int) < (n : Int)) := by omega
        clear HC HE
        go_wp2_with fail
        go_ret
        exact ⟨ret_bool HC2.out.symm, _, rfl⟩
  · have HE : Hid (ceq n K V n' K' V' = false) := if_neg hl
    have hne : ((n : Int) != (n' : Int)) = true := by simp; omega
    clear h h' hl
    go_enter Try.func37, Try.ntmps37
    go_wp2_with fail
    go_ret
    exact ⟨ret_bool HE.out.symm, 0, rfl⟩
set_option maxHeartbeats 2000000 in
theorem sEqual_any (n n' : Nat) (K V K' V' : Nat → Int) (a a' : Option Addr) (cap cap' : Nat) (w : World) (hn : n ≤ 140737488355328) (hn' : n' ≤ 140737488355328) (h : CellsAt w a n K V) (h' : CellsAt w a' n' K' V') :
    Calls Try.prog 72 #[.slice a n cap, .slice a' n' cap'] w fun e w' => e = .returned (.bool (ceq n K V n' K' V')) ∧ ∃ m, w' = w.drewN m := by
  by_cases hl : n = n'
  · subst hl
    have HE : Hid (ceq n K V n K' V' = ceqL K V K' V' n 0) := if_pos rfl
    have hne : ((n : Int) != (n : Int)) = false := by simp
    have HA : Hid (CellsAt w a n K V) := h
    have HD : Hid (CellsAt w a' n K' V') := h'
    clear h h'
    generalize ceq n K V n K' V' = C at *
    go_enter Try.func72, Try.ntmps72
    go_wp2_with fail
    go_loopw [5, 13] (fun _ i wr => ∃ k : Nat, k ≤ n ∧ i = .int .i64 k ∧ Hid (C = ceqL K V K' V' (n - k) k) ∧ ∃ m, wr = w.drewN m) (fun _ i _ => n - (intOf i).toNat)
    case atStart => exact ⟨0, Nat.zero_le _, rfl, HE, 0, rfl⟩
    case round =>
      obtain ⟨k, hk, rfl, HC, m, rfl⟩ := hrel
      by_cases hlt : k < n
      · have hlt' : (k : Int) < (n : Int) := by omega
        have hk0 : (0 : Int) ≤ (k : Int) := by omega
        rcases HA.out with h | ⟨b, off, rfl, hl, hc, hv⟩
        · omega
        rcases HD.out with h | ⟨b', off', rfl, hl', hc', hv'⟩
        · omega
        have q0 := hc k hlt
        have q1 := hv k hlt
        have y0 := hc' k hlt
        have y1 := hv' k hlt
        clear hc hv hc' hv'
        have HN : Hid (C = _) := HC.out.trans (ceqL_at hlt)
        clear HC HE
        by_cases c1 : K k = K' k
        · by_cases c2 : V k = V' k
          · have HC : Hid (C = ceqL K V K' V' (n - (k + 1)) (k + 1)) := by refine HN.out.trans ?_; rw [if_pos ⟨c1, c2⟩]
            rw [← c1] at y0
            rw [← c2] at y1
            clear c1 c2 HN
            generalize K k = kk at *
            generalize V k = vv at *
            go_wp2_with fail
            go_quiet (fail)
            go_wp2
            go_roundw
            case rel => exact ⟨k + 1, hlt, by go_num, HC, _, by first | rfl | exact World.drewN_drewN _ _ _⟩
            case measure => simp [intOf]; omega
          · have HC : Hid (C = false) := by refine HN.out.trans ?_; rw [if_neg (fun h => c2 h.2)]
            have d2 : (V k == V' k) = false := by simpa using c2
            rw [← c1] at y0
            clear c1 c2 HN
            generalize K k = kk at *
            generalize V k = vv at *
            generalize V' k = vv' at *
            go_wp2_with fail
            go_quiet (fail)
            go_wp2
            go_ret
            exact ⟨ret_bool HC.out.symm, _, by first | rfl | exact World.drewN_drewN _ _ _⟩
        · have HC : Hid (C = false) := by refine HN.out.trans ?_; rw [if_neg (fun h => c1 h.1)]
          have d2 : (K k == K' k) = false := by simpa using c1
          clear c1 HN
          generalize K k = kk at *
          generalize V k = vv at *
          generalize K' k = kk' at *
          generalize V' k = vv' at *
          go_wp2_with fail
          go_quiet (fail)
          go_wp2
          go_ret
          exact ⟨ret_bool HC.out.symm, _, by first | rfl | exact World.drewN_drewN _ _ _⟩
      · have HC2 : Hid (C = true) := by refine HC.out.trans ?_; rw [show n - k = 0 by omega, ceqL]
        have hnl : ¬ ((k : Int) < (n : Int)) := by omega
        clear HC HE
        go_wp2_with fail
        go_ret
        exact ⟨ret_bool HC2.out.symm, _, rfl⟩
  · have HE : Hid (ceq n K V n' K' V' = false) := if_neg hl
    have hne : ((n : Int) != (n' : Int)) = true := by simp; omega
    clear h h' hl
    go_enter Try.func72, Try.ntmps72
    go_wp2_with fail
    go_ret
    exact ⟨ret_bool HE.out.symm, 0, rfl⟩
def req (t u : Rp) : Bool := decide (t.cd = u.cd) && (decide (t.vl = u.vl) && ceq t.cn t.cK t.cV u.cn u.cK u.cV)
def reqL (T U : Nat → Rp) : Nat → Nat → Bool
  | 0, _ => true
  | m + 1, i => if req (T i) (U i) = true then reqL T U m (i + 1) else false
theorem reqL_at {T U : Nat → Rp} {n k : Nat} (h : k < n) : reqL T U (n - k) k = if req (T k) (U k) = true then reqL T U (n - (k + 1)) (k + 1) else false := by
  obtain ⟨m, hm⟩ : ∃ m, n - k = m + 1 := ⟨n - k - 1, by omega⟩
  rw [hm, reqL, show n - (k + 1) = m by omega]
def rsq (n : Nat) (T : Nat → Rp) (n' : Nat) (U : Nat → Rp) : Bool := if n = n' then reqL T U n 0 else false
set_option maxHeartbeats 4000000 in
theorem specSr_any (n n' : Nat) (T U : Nat → Rp) (a a' : Option Addr) (cap cap' : Nat) (w : World) (hn : n ≤ 1048576) (hL : ∀ i, i < n → SmRp (T i)) (hL' : ∀ i, i < n' → SmRp (U i)) (h : RpsAt w a n T) (h' : RpsAt w a' n' U) :
    Calls Try.prog 14 #[.slice a n cap, .slice a' n' cap'] w fun e w' => e = .returned (.bool (rsq n T n' U)) ∧ Below w.heap.size w w' := by
  by_cases hl : n = n'
  · subst hl
    have HE : Hid (rsq n T n U = reqL T U n 0) := if_pos rfl
    have hne : ((n : Int) != (n : Int)) = false := by simp
    have HA : Hid (RpsAt w a n T) := h
    have HD : Hid (RpsAt w a' n U) := h'
    have HL : Hid (∀ i, i < n → SmRp (T i)) := hL
    have HL' : Hid (∀ i, i < n → SmRp (U i)) := hL'
    clear h h' hL hL'
    generalize rsq n T n U = C at *
    go_enter Try.func14, Try.ntmps14
    go_wp2_with fail
    go_loopw [5] (fun i wr => ∃ k : Nat, k ≤ n ∧ i = .int .i64 k ∧ Hid (C = reqL T U (n - k) k) ∧ Hid (Below w.heap.size w wr)) (fun i _ => n - (intOf i).toNat)
    case atStart => exact ⟨0, Nat.zero_le _, rfl, HE, Below.refl _ _⟩
    case round =>
      obtain ⟨k, hk, rfl, HC, HB⟩ := hrel
      by_cases hlt : k < n
      · have hlt' : (k : Int) < (n : Int) := by omega
        have hk0 : (0 : Int) ≤ (k : Int) := by omega
        rcases HA.out.below HB.out with h | ⟨b, off, rfl, hl, hc⟩
        · omega
        rcases HD.out.below HB.out with h | ⟨b', off', rfl, hl', hc'⟩
        · omega
        obtain ⟨a0, c0, ⟨q0, q1, q2⟩, hI, -⟩ := hc k hlt
        obtain ⟨d0, e0, ⟨y0, y1, y2⟩, hJ, -⟩ := hc' k hlt
        have HN : Hid (C = _) := HC.out.trans (reqL_at hlt)
        have HQ : Hid (∀ q, Calls Try.prog 37 #[.slice a0 (T k).cn c0, .slice d0 (U k).cn e0] (wr.drewN q) fun e w' => e = .returned (.bool (ceq (T k).cn (T k).cK (T k).cV (U k).cn (U k).cK (U k).cV)) ∧ ∃ m, w' = (wr.drewN q).drewN m) := fun q => l7Cells_any _ _ _ _ _ _ _ _ _ _ _ (by have := (HL.out k hlt).1; omega) (by have := (HL'.out k hlt).1; omega) (hI.1.below (below_drewN (Below.refl _ _) _)) (hJ.1.below (below_drewN (Below.refl _ _) _))
        have HR : Hid (req (T k) (U k) = (decide ((T k).cd = (U k).cd) && (decide ((T k).vl = (U k).vl) && ceq (T k).cn (T k).cK (T k).cV (U k).cn (U k).cK (U k).cV))) := rfl
        clear hc hc' hI hJ HC HE
        generalize req (T k) (U k) = R at *
        generalize ceq (T k).cn (T k).cK (T k).cV (U k).cn (U k).cK (U k).cV = Q at *
        generalize T k = t at *
        generalize U k = u at *
        by_cases c1 : t.cd = u.cd
        · by_cases c2 : t.vl = u.vl
          · cases Q with
            | true =>
              have HC : Hid (C = reqL T U (n - (k + 1)) (k + 1)) := by refine HN.out.trans ?_; rw [HR.out]; simp [c1, c2]
              have d1 : (t.cd != u.cd) = false := by simpa using c1
              have d2 : (t.vl != u.vl) = false := by simpa using c2
              clear c1 c2 HN HR
              go_wp2_with fail
              go_quiet (first | (go_at_call 37; exact Calls.quiet_of (HQ.out _)))
              go_wp2_with fail
              go_roundw
              case rel => exact ⟨k + 1, hlt, by go_num, HC, below_drewN HB.out _⟩
              case measure => simp [intOf]; omega
            | false =>
              have HC : Hid (C = false) := by refine HN.out.trans ?_; rw [HR.out]; simp
              have d1 : (t.cd != u.cd) = false := by simpa using c1
              have d2 : (t.vl != u.vl) = false := by simpa using c2
              clear c1 c2 HN HR
              go_wp2_with fail
              go_quiet (first | (go_at_call 37; exact Calls.quiet_of (HQ.out _)))
              go_wp2_with fail
              go_ret
              exact ⟨ret_bool HC.out.symm, below_drewN HB.out _⟩
          · have HC : Hid (C = false) := by refine HN.out.trans ?_; rw [HR.out]; simp [c2]
            have d1 : (t.cd != u.cd) = false := by simpa using c1
            have d2 : (t.vl != u.vl) = true := by simpa using c2
            clear c1 c2 HN HR
            go_wp2_with fail
            go_quiet (first | (go_at_call 37; exact Calls.quiet_of (HQ.out _)))
            go_wp2_with fail
            go_ret
            exact ⟨ret_bool HC.out.symm, below_drewN HB.out _⟩
        · have HC : Hid (C = false) := by refine HN.out.trans ?_; rw [HR.out]; simp [c1]
          have d1 : (t.cd != u.cd) = true := by simpa using c1
          clear c1 HN HR
          go_wp2_with fail
          go_quiet (first | (go_at_call 37; exact Calls.quiet_of (HQ.out _)))
          go_wp2_with fail
          go_ret
          exact ⟨ret_bool HC.out.symm, below_drewN HB.out _⟩
      · have HC2 : Hid (C = true) := by refine HC.out.trans ?_; rw [show n - k = 0 by omega, reqL]
        have hnl : ¬ ((k : Int) < (n : Int)) := by omega
        clear HC HE
        go_wp2_with fail
        go_ret
        exact ⟨ret_bool HC2.out.symm, HB.out⟩
  · have HE : Hid (rsq n T n' U = false) := if_neg hl
    have hne : ((n : Int) != (n' : Int)) = true := by simp; omega
    clear h h' hl hL hL'
    go_enter Try.func14, Try.ntmps14
    go_wp2_with fail
    go_ret
    exact ⟨ret_bool HE.out.symm, Below.refl _ _⟩
set_option maxHeartbeats 1000000 in
theorem sameReply_any (t u : Rp) (a0 : Option Addr) (c0 : Nat) (d0 : Option Addr) (e0 : Nat) (w : World) (hS : SmRp t) (hS' : SmRp u) (h : InRp w a0 t) (h' : InRp w d0 u) :
    Calls Try.prog 40 #[.agg #[.int .i64 t.cd, .int .i64 t.vl, .slice a0 t.cn c0], .agg #[.int .i64 u.cd, .int .i64 u.vl, .slice d0 u.cn e0]] w fun e w' => e = .returned (.bool (req t u)) ∧ Below w.heap.size w w' := by
  have hb0 : ∀ o1 o2, Below w.heap.size w ((w.alloc o1).alloc o2) := fun o1 o2 => (((Below.refl _ _).alloc (Nat.le_refl _) _).alloc (by simp) _)
  have HQ : Hid (∀ w', Below w.heap.size w w' → Calls Try.prog 72 #[.slice a0 t.cn c0, .slice d0 u.cn e0] w' fun e w2 => e = .returned (.bool (ceq t.cn t.cK t.cV u.cn u.cK u.cV)) ∧ ∃ m, w2 = w'.drewN m) := fun w' hb => sEqual_any _ _ _ _ _ _ _ _ _ _ _ (by have := hS.1; omega) (by have := hS'.1; omega) (h.1.below hb) (h'.1.below hb)
  have HR : Hid (req t u = (decide (t.cd = u.cd) && (decide (t.vl = u.vl) && ceq t.cn t.cK t.cV u.cn u.cK u.cV))) := rfl
  clear h h' hS hS'
  generalize req t u = R at *
  generalize ceq t.cn t.cK t.cV u.cn u.cK u.cV = Q at *
  by_cases c1 : t.cd = u.cd
  · by_cases c2 : t.vl = u.vl
    · have HC : Hid (R = Q) := by show R = Q; rw [HR.out]; simp [c1, c2]
      have d1 : (t.cd == u.cd) = true := by simpa using c1
      have d2 : (t.vl == u.vl) = true := by simpa using c2
      clear c1 c2 HR
      go_enter Try.func40, Try.ntmps40
      go_wp2_with fail
      refine (HQ.out _ (hb0 _ _)).mono ?_
      rintro e w1 ⟨rfl, m, rfl⟩
      go_wp2_with fail
      go_ret
      exact ⟨ret_bool HC.out.symm, below_drewN (hb0 _ _) _⟩
    · have HC : Hid (R = false) := by show R = false; rw [HR.out]; simp [c2]
      have d1 : (t.cd == u.cd) = true := by simpa using c1
      have d2 : (t.vl == u.vl) = false := by simpa using c2
      clear c1 c2 HR
      go_enter Try.func40, Try.ntmps40
      go_wp2_with fail
      go_ret
      exact ⟨ret_bool HC.out.symm, hb0 _ _⟩
  · have HC : Hid (R = false) := by show R = false; rw [HR.out]; simp [c1]
    have d1 : (t.cd == u.cd) = false := by simpa using c1
    clear c1 HR
    go_enter Try.func40, Try.ntmps40
    go_wp2_with fail
    go_ret
    exact ⟨ret_bool HC.out.symm, hb0 _ _⟩
set_option maxHeartbeats 4000000 in
theorem eqFunc_any (n n' : Nat) (T U : Nat → Rp) (a a' : Option Addr) (cap cap' : Nat) (w : World) (hn : n ≤ 1048576) (hL : ∀ i, i < n → SmRp (T i)) (hL' : ∀ i, i < n' → SmRp (U i)) (h : RpsAt w a n T) (h' : RpsAt w a' n' U) :
    Calls Try.prog 39 #[.slice a n cap, .slice a' n' cap', .func (.func 40) #[] #[]] w fun e w' => e = .returned (.bool (rsq n T n' U)) ∧ Below w.heap.size w w' := by
  by_cases hl : n = n'
  · subst hl
    have HE : Hid (rsq n T n U = reqL T U n 0) := if_pos rfl
    have hne : ((n : Int) != (n : Int)) = false := by simp
    have HA : Hid (RpsAt w a n T) := h
    have HD : Hid (RpsAt w a' n U) := h'
    have HL : Hid (∀ i, i < n → SmRp (T i)) := hL
    have HL' : Hid (∀ i, i < n → SmRp (U i)) := hL'
    clear h h' hL hL'
    generalize rsq n T n U = C at *
    go_enter Try.func39, Try.ntmps39
    go_wp2_with fail
    go_loopw [7, 8, 9, 17] (fun _ _ _ i wr => ∃ k : Nat, k ≤ n ∧ i = .int .i64 k ∧ Hid (C = reqL T U (n - k) k) ∧ Hid (Below w.heap.size w wr)) (fun _ _ _ i _ => n - (intOf i).toNat)
    case atStart => exact ⟨0, Nat.zero_le _, rfl, HE, Below.refl _ _⟩
    case round =>
      obtain ⟨k, hk, rfl, HC, HB⟩ := hrel
      by_cases hlt : k < n
      · have hlt' : (k : Int) < (n : Int) := by omega
        have hk0 : (0 : Int) ≤ (k : Int) := by omega
        rcases HA.out.below HB.out with h | ⟨b, off, rfl, hl, hc⟩
        · omega
        rcases HD.out.below HB.out with h | ⟨b', off', rfl, hl', hc'⟩
        · omega
        obtain ⟨a0, c0, ⟨q0, q1, q2⟩, hI, -⟩ := hc k hlt
        obtain ⟨d0, e0, ⟨y0, y1, y2⟩, hJ, -⟩ := hc' k hlt
        have HN : Hid (C = _) := HC.out.trans (reqL_at hlt)
        have hb0 : ∀ o1 o2, Below wr.heap.size wr ((wr.alloc o1).alloc o2) := fun o1 o2 => (((Below.refl _ _).alloc (Nat.le_refl _) _).alloc (by simp) _)
        have HQ : Hid (∀ w', Below wr.heap.size wr w' → Calls Try.prog 40 #[.agg #[.int .i64 (T k).cd, .int .i64 (T k).vl, .slice a0 (T k).cn c0], .agg #[.int .i64 (U k).cd, .int .i64 (U k).vl, .slice d0 (U k).cn e0]] w' fun e w2 => e = .returned (.bool (req (T k) (U k))) ∧ Below w'.heap.size w' w2) := fun w' hb => sameReply_any _ _ _ _ _ _ _ (HL.out k hlt) (HL'.out k hlt) (hI.below hb) (hJ.below hb)
        have hbn : b ≠ wr.heap.size := by omega
        have hbn' : b' ≠ wr.heap.size := by omega
        clear hc hc' hI hJ HC HE
        generalize req (T k) (U k) = R at *
        generalize T k = t at *
        generalize U k = u at *
        have y0a := fun o : Obj => cell_alloc y0 o
        have y1a := fun o : Obj => cell_alloc y1 o
        have y2a := fun o : Obj => cell_alloc y2 o
        cases R with
        | true =>
          have HC : Hid (C = reqL T U (n - (k + 1)) (k + 1)) := by refine HN.out.trans ?_; simp
          clear HN
          go_wp2_with fail
          refine (HQ.out _ (hb0 _ _)).mono ?_
          rintro e w1 ⟨rfl, hb1⟩
          have HB1 : Hid (Below w.heap.size w w1) := below_then HB.out (below_then (hb0 _ _) hb1)
          clear hb1
          go_wp2_with fail
          go_roundw
          case rel => exact ⟨k + 1, hlt, by go_num, HC, HB1.out⟩
          case measure => simp [intOf]; omega
        | false =>
          have HC : Hid (C = false) := by refine HN.out.trans ?_; simp
          clear HN
          go_wp2_with fail
          refine (HQ.out _ (hb0 _ _)).mono ?_
          rintro e w1 ⟨rfl, hb1⟩
          have HB1 : Hid (Below w.heap.size w w1) := below_then HB.out (below_then (hb0 _ _) hb1)
          clear hb1
          go_wp2_with fail
          go_ret
          exact ⟨ret_bool HC.out.symm, HB1.out⟩
      · have HC2 : Hid (C = true) := by refine HC.out.trans ?_; rw [show n - k = 0 by omega, reqL]
        have hnl : ¬ ((k : Int) < (n : Int)) := by omega
        clear HC HE
        go_wp2_with fail
        go_ret
        exact ⟨ret_bool HC2.out.symm, HB.out⟩
  · have HE : Hid (rsq n T n' U = false) := if_neg hl
    have hne : ((n : Int) != (n' : Int)) = true := by simp; omega
    clear h h' hl hL hL'
    go_enter Try.func39, Try.ntmps39
    go_wp2_with fail
    go_ret
    exact ⟨ret_bool HE.out.symm, Below.refl _ _⟩
theorem implSr_any (n n' : Nat) (T U : Nat → Rp) (a a' : Option Addr) (cap cap' : Nat) (w : World) (hn : n ≤ 1048576) (hL : ∀ i, i < n → SmRp (T i)) (hL' : ∀ i, i < n' → SmRp (U i)) (h : RpsAt w a n T) (h' : RpsAt w a' n' U) :
    Calls Try.prog 16 #[.slice a n cap, .slice a' n' cap'] w fun e w' => e = .returned (.bool (rsq n T n' U)) ∧ Below w.heap.size w w' := by
  go_enter Try.func16, Try.ntmps16
  go_wp2_with fail
  refine (eqFunc_any n n' T U a a' cap cap' _ hn hL hL' h h').mono ?_
  rintro e w1 ⟨rfl, hb1⟩
  go_wp2_with fail
  go_ret
  exact ⟨rfl, hb1⟩
end Go.Proofs.Ytenglcgkachomaa
