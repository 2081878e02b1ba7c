/- Lists of cells as arguments; spec.SameCells, impl.SameCells. -/
import Derived.Test.YtfhldkmbflbmbaaFault
import Derived.Lib.SmallJoins
import Derived.Deep.RegionLaw
import Derived.Deep.DeepCutAuto
import Derived.Laws.AppendOwn
import Derived.OwnWalk
import Derived.Deep.AppendLies
namespace Go.Proofs.Ytfhldkmbflbmbaa
open Go.ChangeShapes Go.WideShapes Go.ChangeAt Go.RowKit Go.Deep Go.Joins
set_option linter.unusedVariables false
set_option maxRecDepth 20000

theorem cellsI : Try.prog.cellsOf 2 = 1 := by kernel_rfl
theorem below_drewN0 {n : Nat} {w w1 : World} (h : Below n w w1) (m : Nat) : Below n w (w1.drewN m) := by
  obtain ⟨h1, h2, h3, h4, h5⟩ := h
  exact ⟨h1, h2, h3, h4, h5⟩
theorem cellsCell : Try.prog.cellsOf 31 = 2 := by kernel_rfl
theorem openCells {H : Type} {enc : TypeId × Value → H} {W : World} {fuel : Nat} {cs : List Value} {x : DataW H × List MemPlace}
    (h : DataW.trod enc Try.prog W 0 (fun _ => true) true fuel 22 cs = some x) :
    ∃ (a : Option Addr) (n cap : Nat) (K V : Nat → Int), cs = [.slice a n cap] ∧ n ≤ 9223372036854775807 ∧ CellsAt W a n K V := by
  rcases open_slice Try.underlying22 h with ⟨rfl, _⟩ | ⟨a, l, c, m, nn, D, Pl, rfl, _, hl, hm, hmm, _, hx⟩
  · exact ⟨none, 0, 0, fun _ => 0, fun _ => 0, rfl, by omega, .inl rfl⟩
  · have hmc : m = c := by simpa using hmm
    unfold maxLen at hm
    rw [cellsCell] at hx
    have each : ∀ i, i < l → ∃ q : Int × Int, W.cell? (a.add (i * 2)) = some (.int .i64 q.1) ∧ W.cell? (a.add (i * 2 + 1)) = some (.int .i64 q.2) := fun i hi => by
      obtain ⟨cs', h1, h2⟩ := hx i (by omega)
      obtain ⟨_, hlen, hcell⟩ := World.cells?_some h1
      obtain ⟨xs, k, hk, hxy, _, hxl, hf⟩ := DataW.trod_struct Try.underlying31 h2
      match xs, hxl, cs', hlen with
      | [y0, y1], _, [v0, v1], _ =>
        have g0 := hf 0 _ rfl
        have g1 := hf 1 _ rfl
        simp [cellsI] at g0 g1
        have e0 := hcell 0 (by omega)
        have e1 := hcell 1 (by omega)
        rw [add_add] at e0 e1
        obtain ⟨z0, f0, _, _⟩ := DataW.trod_int Try.underlying2 g0
        obtain ⟨z1, f1, _, _⟩ := DataW.trod_int Try.underlying2 g1
        simp at f0 f1
        subst f0 f1
        exact ⟨(z0, z1), by simpa using e0, by simpa using e1⟩
    obtain ⟨q, hq⟩ := choose_lt each
    refine ⟨some a, l, c, fun i => (q i).1, fun i => (q i).2, rfl, by omega, ?_⟩
    by_cases hz0 : l = 0
    · exact .inl hz0
    · obtain ⟨b, off, spot⟩ := a
      have hc0 := (hq 0 (by omega)).1
      have hspot : spot = none := by simpa [Addr.add] using World.cell?_spot hc0
      subst hspot
      refine .inr ⟨b, off, rfl, Go.block_lt_of_cell hc0, fun i hi => ?_, fun i hi => ?_⟩
      · have k0 := (hq i hi).1
        rw [add_plain] at k0
        exact k0
      · have k1 := (hq i hi).2
        rw [add_plain] at k1
        rw [Nat.add_assoc]; exact k1
/-- Are the cells from the i-th on, m of them, the same? -/
def ceqL (K V K' V' : Nat → Int) : Nat → Nat → Bool
  | 0, _ => true
  | m + 1, i => if K i = K' i ∧ V i = V' i then ceqL K V K' V' m (i + 1) else false
theorem ceqL_at {K V K' V' : Nat → Int} {n k : Nat} (h : k < n) : ceqL K V K' V' (n - k) k = if K k = K' k ∧ V k = V' k then ceqL K V K' V' (n - (k + 1)) (k + 1) else false := by
  obtain ⟨m, hm⟩ : ∃ m, n - k = m + 1 := ⟨n - k - 1, by omega⟩
  rw [hm, ceqL, show n - (k + 1) = m by omega]
def ceq (n : Nat) (K V : Nat → Int) (n' : Nat) (K' V' : Nat → Int) : Bool := if n = n' then ceqL K V K' V' n 0 else false
set_option maxHeartbeats 2000000 in
theorem l7Cells_any (n n' : Nat) (K V K' V' : Nat → Int) (a a' : Option Addr) (cap cap' : Nat) (w : World) (hn : n ≤ 140737488355328) (hn' : n' ≤ 140737488355328) (h : CellsAt w a n K V) (h' : CellsAt w a' n' K' V') :
    Calls Try.prog 9 #[.slice a n cap, .slice a' n' cap'] w fun e w' => e = .returned (.bool (ceq n K V n' K' V')) ∧ ∃ m, w' = w.drewN m := by
  by_cases hl : n = n'
  · subst hl
    have HE : Hid (ceq n K V n K' V' = ceqL K V K' V' n 0) := if_pos rfl
    have hne : ((n : Int) != (n : Int)) = false := by simp
    have HA : Hid (CellsAt w a n K V) := h
    have HD : Hid (CellsAt w a' n K' V') := h'
    clear h h'
    generalize ceq n K V n K' V' = C at *
    go_enter Try.func9, Try.ntmps9
    go_wp2_with fail
    go_loopw [5] (fun i wr => ∃ k : Nat, k ≤ n ∧ i = .int .i64 k ∧ Hid (C = ceqL K V K' V' (n - k) k) ∧ ∃ m, wr = w.drewN m) (fun i _ => n - (intOf i).toNat)
    case atStart => exact ⟨0, Nat.zero_le _, rfl, HE, 0, rfl⟩
    case round =>
      obtain ⟨k, hk, rfl, HC, m, rfl⟩ := hrel
      by_cases hlt : k < n
      · have hlt' : (k : Int) < (n : Int) := by omega
        have hk0 : (0 : Int) ≤ (k : Int) := by omega
        rcases HA.out with h | ⟨b, off, rfl, hl, hc, hv⟩
        · omega
        rcases HD.out with h | ⟨b', off', rfl, hl', hc', hv'⟩
        · omega
        have q0 := hc k hlt
        have q1 := hv k hlt
        have y0 := hc' k hlt
        have y1 := hv' k hlt
        clear hc hv hc' hv'
        have HN : Hid (C = _) := HC.out.trans (ceqL_at hlt)
        clear HC HE
        by_cases c1 : K k = K' k
        · by_cases c2 : V k = V' k
          · have HC : Hid (C = ceqL K V K' V' (n - (k + 1)) (k + 1)) := by refine HN.out.trans ?_; rw [if_pos ⟨c1, c2⟩]
            rw [← c1] at y0
            rw [← c2] at y1
            clear c1 c2 HN
            generalize K k = kk at *
            generalize V k = vv at *
            go_wp2_with fail
            go_quiet (fail)
            go_wp2
            go_roundw
            case rel => exact ⟨k + 1, hlt, by go_num, HC, _, by first | rfl | exact World.drewN_drewN _ _ _⟩
            case measure => simp [intOf]; omega
          · have HC : Hid (C = false) := by refine HN.out.trans ?_; rw [if_neg (fun h => c2 h.2)]
            have d2 : (V k == V' k) = false := by simpa using c2
            rw [← c1] at y0
            clear c1 c2 HN
            generalize K k = kk at *
            generalize V k = vv at *
            generalize V' k = vv' at *
            go_wp2_with fail
            go_quiet (fail)
            go_wp2
            go_ret
            exact ⟨ret_bool HC.out.symm, _, by first | rfl | exact World.drewN_drewN _ _ _⟩
        · have HC : Hid (C = false) := by refine HN.out.trans ?_; rw [if_neg (fun h => c1 h.1)]
          have d2 : (K k == K' k) = false := by simpa using c1
          clear c1 HN
          generalize K k = kk at *
          generalize V k = vv at *
          generalize K' k = kk' at *
          generalize V' k = vv' at *
          go_wp2_with fail
          go_quiet (fail)
          go_wp2
          go_ret
          exact ⟨ret_bool HC.out.symm, _, by first | rfl | exact World.drewN_drewN _ _ _⟩
      · have HC2 : Hid (C = true) := by refine HC.out.trans ?_; rw [show n - k = 0 by omega, ceqL]
        have hnl : ¬ ((k : Int) < (n : Int)) := by omega
        clear HC HE
        go_wp2_with fail
        go_ret
        exact ⟨ret_bool HC2.out.symm, _, rfl⟩
  · have HE : Hid (ceq n K V n' K' V' = false) := if_neg hl
    have hne : ((n : Int) != (n' : Int)) = true := by simp; omega
    clear h h' hl
    go_enter Try.func9, Try.ntmps9
    go_wp2_with fail
    go_ret
    exact ⟨ret_bool HE.out.symm, 0, rfl⟩
set_option maxHeartbeats 2000000 in
theorem sEqual_any (n n' : Nat) (K V K' V' : Nat → Int) (a a' : Option Addr) (cap cap' : Nat) (w : World) (hn : n ≤ 140737488355328) (hn' : n' ≤ 140737488355328) (h : CellsAt w a n K V) (h' : CellsAt w a' n' K' V') :
    Calls Try.prog 11 #[.slice a n cap, .slice a' n' cap'] w fun e w' => e = .returned (.bool (ceq n K V n' K' V')) ∧ ∃ m, w' = w.drewN m := by
  by_cases hl : n = n'
  · subst hl
    have HE : Hid (ceq n K V n K' V' = ceqL K V K' V' n 0) := if_pos rfl
    have hne : ((n : Int) != (n : Int)) = false := by simp
    have HA : Hid (CellsAt w a n K V) := h
    have HD : Hid (CellsAt w a' n K' V') := h'
    clear h h'
    generalize ceq n K V n K' V' = C at *
    go_enter Try.func11, Try.ntmps11
    go_wp2_with fail
    go_loopw [5, 13] (fun _ i wr => ∃ k : Nat, k ≤ n ∧ i = .int .i64 k ∧ Hid (C = ceqL K V K' V' (n - k) k) ∧ ∃ m, wr = w.drewN m) (fun _ i _ => n - (intOf i).toNat)
    case atStart => exact ⟨0, Nat.zero_le _, rfl, HE, 0, rfl⟩
    case round =>
      obtain ⟨k, hk, rfl, HC, m, rfl⟩ := hrel
      by_cases hlt : k < n
      · have hlt' : (k : Int) < (n : Int) := by omega
        have hk0 : (0 : Int) ≤ (k : Int) := by omega
        rcases HA.out with h | ⟨b, off, rfl, hl, hc, hv⟩
        · omega
        rcases HD.out with h | ⟨b', off', rfl, hl', hc', hv'⟩
        · omega
        have q0 := hc k hlt
        have q1 := hv k hlt
        have y0 := hc' k hlt
        have y1 := hv' k hlt
        clear hc hv hc' hv'
        have HN : Hid (C = _) := HC.out.trans (ceqL_at hlt)
        clear HC HE
        by_cases c1 : K k = K' k
        · by_cases c2 : V k = V' k
          · have HC : Hid (C = ceqL K V K' V' (n - (k + 1)) (k + 1)) := by refine HN.out.trans ?_; rw [if_pos ⟨c1, c2⟩]
            rw [← c1] at y0
            rw [← c2] at y1
            clear c1 c2 HN
            generalize K k = kk at *
            generalize V k = vv at *
            go_wp2_with fail
            go_quiet (fail)
            go_wp2
            go_roundw
            case rel => exact ⟨k + 1, hlt, by go_num, HC, _, by first | rfl | exact World.drewN_drewN _ _ _⟩
            case measure => simp [intOf]; omega
          · have HC : Hid (C = false) := by refine HN.out.trans ?_; rw [if_neg (fun h => c2 h.2)]
            have d2 : (V k == V' k) = false := by simpa using c2
            rw [← c1] at y0
            clear c1 c2 HN
            generalize K k = kk at *
            generalize V k = vv at *
            generalize V' k = vv' at *
            go_wp2_with fail
            go_quiet (fail)
            go_wp2
            go_ret
            exact ⟨ret_bool HC.out.symm, _, by first | rfl | exact World.drewN_drewN _ _ _⟩
        · have HC : Hid (C = false) := by refine HN.out.trans ?_; rw [if_neg (fun h => c1 h.1)]
          have d2 : (K k == K' k) = false := by simpa using c1
          clear c1 HN
          generalize K k = kk at *
          generalize V k = vv at *
          generalize K' k = kk' at *
          generalize V' k = vv' at *
          go_wp2_with fail
          go_quiet (fail)
          go_wp2
          go_ret
          exact ⟨ret_bool HC.out.symm, _, by first | rfl | exact World.drewN_drewN _ _ _⟩
      · have HC2 : Hid (C = true) := by refine HC.out.trans ?_; rw [show n - k = 0 by omega, ceqL]
        have hnl : ¬ ((k : Int) < (n : Int)) := by omega
        clear HC HE
        go_wp2_with fail
        go_ret
        exact ⟨ret_bool HC2.out.symm, _, rfl⟩
  · have HE : Hid (ceq n K V n' K' V' = false) := if_neg hl
    have hne : ((n : Int) != (n' : Int)) = true := by simp; omega
    clear h h' hl
    go_enter Try.func11, Try.ntmps11
    go_wp2_with fail
    go_ret
    exact ⟨ret_bool HE.out.symm, 0, rfl⟩
theorem szCellS_at (n : Nat) (a : Option Addr) (cap : Nat) (x : Int) (w : World) (hn : n ≤ 9223372036854775807) (h0 : 0 ≤ x) (hx : x ≤ 1048576) :
    Calls Try.prog 4 #[.slice a n cap, .int .i64 x] w fun e w' => e = .returned (.int .i64 (if (n : Int) ≤ x then x - n else -1)) ∧ w' = w := by
  by_cases h : (n : Int) ≤ x
  · rw [if_pos h]
    go_enter Try.func4, Try.ntmps4
    go_wp2
    go_ret
    exact ⟨rfl, rfl⟩
  · rw [if_neg h]
    go_enter Try.func4, Try.ntmps4
    go_wp2
    go_ret
    exact ⟨rfl, rfl⟩
theorem cells_at_row {w : World} {b n : Nat} {K V : Nat → Int} (h : w.rowIs b 29 (n * 2) (cv K V)) : CellsAt w (some ⟨b, 0, none⟩) n K V := (Own.of_row h).at
set_option maxHeartbeats 2000000 in
theorem specSmc_any (n n' : Nat) (K V K' V' : Nat → Int) (a a' : Option Addr) (cap cap' : Nat) (w : World) (hn : n ≤ 140737488355328) (hn' : n' ≤ 140737488355328) (h : CellsAt w a n K V) (h' : CellsAt w a' n' K' V') :
    Calls Try.prog 5 #[.slice a n cap, .slice a' n' cap'] w fun e w' => e = .returned (.bool (ceq n K V n' K' V')) ∧ Below w.heap.size w w' := by
  have HD := l7Cells_any n n' K V K' V' a a' cap cap' w hn hn' h h'
  clear h h'
  generalize ceq n K V n' K' V' = C at *
  have HD : Hid _ := HD
  go_enter Try.func5, Try.ntmps5
  go_wp2_with fail
  refine Calls.mono HD.out ?_
  rintro e w1 ⟨rfl, m, rfl⟩
  go_wp2_with fail
  go_ret
  exact ⟨rfl, below_drewN0 (Below.refl _ _) _⟩
set_option maxHeartbeats 2000000 in
theorem implSmc_any (n n' : Nat) (K V K' V' : Nat → Int) (a a' : Option Addr) (cap cap' : Nat) (w : World) (hn : n ≤ 140737488355328) (hn' : n' ≤ 140737488355328) (h : CellsAt w a n K V) (h' : CellsAt w a' n' K' V') :
    Calls Try.prog 7 #[.slice a n cap, .slice a' n' cap'] w fun e w' => e = .returned (.bool (ceq n K V n' K' V')) ∧ Below w.heap.size w w' := by
  have HD := sEqual_any n n' K V K' V' a a' cap cap' w hn hn' h h'
  clear h h'
  generalize ceq n K V n' K' V' = C at *
  have HD : Hid _ := HD
  go_enter Try.func7, Try.ntmps7
  go_wp2_with fail
  refine Calls.mono HD.out ?_
  rintro e w1 ⟨rfl, m, rfl⟩
  go_wp2_with fail
  go_ret
  exact ⟨rfl, below_drewN0 (Below.refl _ _) _⟩
end Go.Proofs.Ytfhldkmbflbmbaa
