/- spec.PageFault: the walk. -/
import Derived.Test.YtnplheilojhpmaaGreatQFault
namespace Go.Proofs.YtnplheilojhpmaaGreat
open Go.RowKit Go.Deep
set_option linter.unusedVariables false

set_option maxHeartbeats 2000000 in
theorem specFault_some (id lsn : Int) (n : Nat) (K V : Nat → Int) (b off cap : Nat) (w : World) (hn : n ≤ 12) (hbl : b < w.heap.size)
    (hk : ∀ i, i < n → w.cell? ⟨b, off + i * 2, none⟩ = some (.int .i64 (K i))) (hv : ∀ i, i < n → w.cell? ⟨b, off + i * 2 + 1, none⟩ = some (.int .i64 (V i)))
    (hi1 : inB id 0 7 = true) (hi2 : inB lsn 0 1000000 = true) :
    Calls Tryz.prog 80 #[.agg #[.int .i64 id, .int .i64 lsn, .slice (some ⟨b, off, none⟩) n cap]] w fun e w' => e = .returned (.int .i64 (cff K V n 0)) ∧ Below w.heap.size w w' := by
  have hk2 : ∀ (o : Obj) (i : Nat), i < n → (w.alloc o).cell? ⟨b, off + i * 2, none⟩ = some (.int .i64 (K i)) := fun o i hi => cell_alloc (hk i hi) o
  have hv2 : ∀ (o : Obj) (i : Nat), i < n → (w.alloc o).cell? ⟨b, off + i * 2 + 1, none⟩ = some (.int .i64 (V i)) := fun o i hi => cell_alloc (hv i hi) o
  have HK : Hid (∀ (o : Obj) (i : Nat), i < n → (w.alloc o).cell? ⟨b, off + i * 2, none⟩ = some (.int .i64 (K i))) := hk2
  have HV : Hid (∀ (o : Obj) (i : Nat), i < n → (w.alloc o).cell? ⟨b, off + i * 2 + 1, none⟩ = some (.int .i64 (V i))) := hv2
  have hn' : ¬ (12 < n) := by omega
  clear hk hv hk2 hv2
  go_enter Tryz.func80, Tryz.ntmps80
  go_wp2_with (first | (go_at_call 82; refine (l1Key_any _ _).mono ?_; rintro e w' ⟨rfl, rfl⟩) | (go_at_call 84; refine (l1Value_any _ _).mono ?_; rintro e w' ⟨rfl, rfl⟩) | (go_at_call 79; refine (l1In_any _ _ _ _).mono ?_; rintro e w' ⟨rfl, rfl⟩) | (go_at_call 111; refine (l1Lsn_any _ _).mono ?_; rintro e w' ⟨rfl, rfl⟩))
  go_loopw [3] (fun i wr => ∃ k : Nat, k ≤ n ∧ i = .int .i64 k ∧ Hid (cff K V n 0 = cff K V (n - k) k) ∧ ∃ m, wr = (w.alloc (.cells #[.int .i64 id, .int .i64 lsn, .slice (some ⟨b, off, none⟩) n cap] 98)).drewN m) (fun i _ => n - (intOf i).toNat)
  case atStart => exact ⟨0, Nat.zero_le _, rfl, rfl, 0, rfl⟩
  case round =>
    obtain ⟨k, hk0, rfl, HC, m, rfl⟩ := hrel
    by_cases hlt : k < n
    · have h1 := fun o => HK.out o k hlt
      have h2 := fun o => HV.out o k hlt
      have hlt' : (k : Int) < (n : Int) := by omega
      have HA : Hid (cff K V n 0 = _) := HC.out.trans (cff_at hlt)
      clear HC
      by_cases hc1 : inB (K k) 0 31 = true
      · by_cases hc2 : inB (V k) 0 9999 = true
        · rcases Nat.eq_zero_or_pos k with hk9 | hpos
          · have hd : decide (0 < k) = false := by simp; omega
            have HC : Hid (cff K V n 0 = cff K V (n - (k + 1)) (k + 1)) := by
              refine HA.out.trans ?_
              rw [if_neg (by simp [hc1, hc2]), if_neg (by omega)]
            clear HA hk9
            go_wp2_with (first | (go_at_call 82; refine (l1Key_any _ _).mono ?_; rintro e w' ⟨rfl, rfl⟩) | (go_at_call 84; refine (l1Value_any _ _).mono ?_; rintro e w' ⟨rfl, rfl⟩) | (go_at_call 79; refine (l1In_any _ _ _ _).mono ?_; rintro e w' ⟨rfl, rfl⟩) | (go_at_call 111; refine (l1Lsn_any _ _).mono ?_; rintro e w' ⟨rfl, rfl⟩))
            go_quiet (fail)
            go_wp2
            go_roundw
            case rel => exact ⟨k + 1, hlt, by go_num, HC, _, rfl⟩
            case measure => simp [intOf]; omega
          · obtain ⟨j, rfl⟩ : ∃ j, k = j + 1 := ⟨k - 1, by omega⟩
            have h3 := fun o => HK.out o j (by omega)
            have hj1 : (j : Int) < (n : Int) := by omega
            have hj2 : j < n := by omega
            have hwj : IntKind.i64.wrap (j : Int) = (j : Int) := by rw [IntKind.wrap_i64]; omega
            by_cases hc3 : K (j + 1) ≤ K j
            · have HC : Hid (cff K V n 0 = 1) := by
                refine HA.out.trans ?_
                rw [if_neg (by simp [hc1, hc2]), if_pos ⟨by omega, by simpa using hc3⟩]
              clear HA
              go_wp2_with (first | (go_at_call 82; refine (l1Key_any _ _).mono ?_; rintro e w' ⟨rfl, rfl⟩) | (go_at_call 84; refine (l1Value_any _ _).mono ?_; rintro e w' ⟨rfl, rfl⟩) | (go_at_call 79; refine (l1In_any _ _ _ _).mono ?_; rintro e w' ⟨rfl, rfl⟩) | (go_at_call 111; refine (l1Lsn_any _ _).mono ?_; rintro e w' ⟨rfl, rfl⟩))
              go_quiet (fail)
              go_wp2
              go_ret
              exact ⟨ret_int HC.out.symm, by repeat (first | exact below_new _ _ | refine below_drewN ?_ _)⟩
            · have HC : Hid (cff K V n 0 = cff K V (n - (j + 1 + 1)) (j + 1 + 1)) := by
                refine HA.out.trans ?_
                rw [if_neg (by simp [hc1, hc2]), if_neg (by simp; omega)]
              have hc4 : decide (K (j + 1) ≤ K j) = false := by simp; omega
              clear HA
              go_wp2_with (first | (go_at_call 82; refine (l1Key_any _ _).mono ?_; rintro e w' ⟨rfl, rfl⟩) | (go_at_call 84; refine (l1Value_any _ _).mono ?_; rintro e w' ⟨rfl, rfl⟩) | (go_at_call 79; refine (l1In_any _ _ _ _).mono ?_; rintro e w' ⟨rfl, rfl⟩) | (go_at_call 111; refine (l1Lsn_any _ _).mono ?_; rintro e w' ⟨rfl, rfl⟩))
              go_quiet (fail)
              go_wp2
              go_roundw
              case rel => exact ⟨j + 1 + 1, hlt, by go_num, HC, _, rfl⟩
              case measure => simp [intOf]; omega
        · have hc4 : inB (V k) 0 9999 = false := by simpa using hc2
          have HC : Hid (cff K V n 0 = 3) := by
            refine HA.out.trans ?_
            rw [if_pos (.inr hc4)]
          clear HA hc2
          go_wp2_with (first | (go_at_call 82; refine (l1Key_any _ _).mono ?_; rintro e w' ⟨rfl, rfl⟩) | (go_at_call 84; refine (l1Value_any _ _).mono ?_; rintro e w' ⟨rfl, rfl⟩) | (go_at_call 79; refine (l1In_any _ _ _ _).mono ?_; rintro e w' ⟨rfl, rfl⟩) | (go_at_call 111; refine (l1Lsn_any _ _).mono ?_; rintro e w' ⟨rfl, rfl⟩))
          go_ret
          exact ⟨ret_int HC.out.symm, by repeat (first | exact below_new _ _ | refine below_drewN ?_ _)⟩
      · have hc4 : inB (K k) 0 31 = false := by simpa using hc1
        have HC : Hid (cff K V n 0 = 3) := by
          refine HA.out.trans ?_
          rw [if_pos (.inl hc4)]
        clear HA hc1
        go_wp2_with (first | (go_at_call 82; refine (l1Key_any _ _).mono ?_; rintro e w' ⟨rfl, rfl⟩) | (go_at_call 84; refine (l1Value_any _ _).mono ?_; rintro e w' ⟨rfl, rfl⟩) | (go_at_call 79; refine (l1In_any _ _ _ _).mono ?_; rintro e w' ⟨rfl, rfl⟩) | (go_at_call 111; refine (l1Lsn_any _ _).mono ?_; rintro e w' ⟨rfl, rfl⟩))
        go_ret
        exact ⟨ret_int HC.out.symm, by repeat (first | exact below_new _ _ | refine below_drewN ?_ _)⟩
    · have HC2 : Hid (cff K V n 0 = 0) := by
        refine HC.out.trans ?_
        rw [show n - k = 0 by omega, cff]
      clear HC
      go_wp2
      go_ret
      exact ⟨ret_int HC2.out.symm, by repeat (first | exact below_new _ _ | refine below_drewN ?_ _)⟩
theorem specFault_zero (id lsn : Int) (K V : Nat → Int) (a : Option Addr) (cap : Nat) (w : World) (hi1 : inB id 0 7 = true) (hi2 : inB lsn 0 1000000 = true) :
    Calls Tryz.prog 80 #[.agg #[.int .i64 id, .int .i64 lsn, .slice a 0 cap]] w fun e w' => e = .returned (.int .i64 (cff K V 0 0)) ∧ Below w.heap.size w w' := by
  go_enter Tryz.func80, Tryz.ntmps80
  go_wp2_with (first | (go_at_call 82; refine (l1Key_any _ _).mono ?_; rintro e w' ⟨rfl, rfl⟩) | (go_at_call 84; refine (l1Value_any _ _).mono ?_; rintro e w' ⟨rfl, rfl⟩) | (go_at_call 79; refine (l1In_any _ _ _ _).mono ?_; rintro e w' ⟨rfl, rfl⟩) | (go_at_call 111; refine (l1Lsn_any _ _).mono ?_; rintro e w' ⟨rfl, rfl⟩))
  go_loop [3] (fun i => i = .int .i64 0) (fun _ => 0)
  case atStart => exact rfl
  case round =>
    obtain rfl := hrel
    go_wp2
    go_ret
    exact ⟨rfl, below_new _ _⟩
theorem specFault_any (id lsn : Int) (n : Nat) (K V : Nat → Int) (a : Option Addr) (cap : Nat) (w : World) (hn : n ≤ 140737488355328) (h : CellsAt w a n K V) :
    Calls Tryz.prog 80 #[.agg #[.int .i64 id, .int .i64 lsn, .slice a n cap]] w fun e w' => e = .returned (.int .i64 (pf id lsn n K V)) ∧ Below w.heap.size w w' := by
  unfold pf
  by_cases h1 : inB id 0 7 = true
  · by_cases h2 : inB lsn 0 1000000 = true
    · rw [if_neg (by simp [h1, h2])]
      by_cases h3 : 12 < n
      · rw [if_pos h3]
        clear h
        go_enter Tryz.func80, Tryz.ntmps80
        go_wp2_with (first | (go_at_call 82; refine (l1Key_any _ _).mono ?_; rintro e w' ⟨rfl, rfl⟩) | (go_at_call 84; refine (l1Value_any _ _).mono ?_; rintro e w' ⟨rfl, rfl⟩) | (go_at_call 79; refine (l1In_any _ _ _ _).mono ?_; rintro e w' ⟨rfl, rfl⟩) | (go_at_call 111; refine (l1Lsn_any _ _).mono ?_; rintro e w' ⟨rfl, rfl⟩))
        go_ret
        exact ⟨rfl, below_new _ _⟩
      · rw [if_neg h3]
        rcases h with rfl | ⟨b, off, rfl, hbl, hk, hv⟩
        · exact specFault_zero id lsn K V a cap w h1 h2
        · exact specFault_some id lsn n K V b off cap w (by omega) hbl hk hv h1 h2
    · rw [if_pos (.inr (by simpa using h2))]
      have h4 : inB lsn 0 1000000 = false := by simpa using h2
      clear h2 h
      go_enter Tryz.func80, Tryz.ntmps80
      go_wp2_with (first | (go_at_call 82; refine (l1Key_any _ _).mono ?_; rintro e w' ⟨rfl, rfl⟩) | (go_at_call 84; refine (l1Value_any _ _).mono ?_; rintro e w' ⟨rfl, rfl⟩) | (go_at_call 79; refine (l1In_any _ _ _ _).mono ?_; rintro e w' ⟨rfl, rfl⟩) | (go_at_call 111; refine (l1Lsn_any _ _).mono ?_; rintro e w' ⟨rfl, rfl⟩))
      go_ret
      exact ⟨rfl, below_new _ _⟩
  · rw [if_pos (.inl (by simpa using h1))]
    have h4 : inB id 0 7 = false := by simpa using h1
    clear h1 h
    go_enter Tryz.func80, Tryz.ntmps80
    go_wp2_with (first | (go_at_call 82; refine (l1Key_any _ _).mono ?_; rintro e w' ⟨rfl, rfl⟩) | (go_at_call 84; refine (l1Value_any _ _).mono ?_; rintro e w' ⟨rfl, rfl⟩) | (go_at_call 79; refine (l1In_any _ _ _ _).mono ?_; rintro e w' ⟨rfl, rfl⟩) | (go_at_call 111; refine (l1Lsn_any _ _).mono ?_; rintro e w' ⟨rfl, rfl⟩))
    go_ret
    exact ⟨rfl, below_new _ _⟩
end Go.Proofs.YtnplheilojhpmaaGreat
