/- Where a key stands among cells: the walks of spec.l1Find, impl.placeOfKey and impl.hasCell. -/
import Derived.Test.YtfmpmhppjikadaaGreatQCel
namespace Go.Proofs.YtfmpmhppjikadaaGreat
open Go.RowKit Go.Deep
set_option linter.unusedVariables false
set_option maxRecDepth 20000

/-! ### the walks -/
set_option maxHeartbeats 1000000 in
theorem place_some (n : Nat) (K : Nat → Int) (key : Int) (b off cap : Nat) (w : World) (hn : n ≤ 140737488355328)
    (hk : ∀ i, i < n → w.cell? ⟨b, off + i * 2, none⟩ = some (.int .i64 (K i))) :
    Calls Tryz.prog 186 #[.slice (some ⟨b, off, none⟩) n cap, .int .i64 key] w fun e w' => e = .returned (.int .i64 (pl K key n)) ∧ w' = w := by
  go_enter Tryz.func186, Tryz.ntmps186
  go_wp2
  go_loop [5] (fun i => ∃ k : Nat, k ≤ n ∧ i = .int .i64 k ∧ Hid (pl K key n = plc K key (n - k) k)) (fun i => n - (intOf i).toNat)
  case atStart => exact ⟨0, Nat.zero_le _, rfl, rfl⟩
  case round =>
    obtain ⟨k, hk0, rfl, HC⟩ := hrel
    by_cases hlt : k < n
    · have h1 := hk k hlt
      have hlt' : (k : Int) < (n : Int) := by omega
      have HA : Hid (pl K key n = _) := HC.out.trans (plc_at hlt)
      clear HC hk
      by_cases hc : K k < key
      · have HC : Hid (pl K key n = plc K key (n - (k + 1)) (k + 1)) := by refine HA.out.trans ?_; rw [if_pos hc]
        clear HA
        go_wp2
        go_round
        case rel => exact ⟨k + 1, hlt, by go_num, HC⟩
        case measure => simp [intOf]; omega
      · have HC : Hid (pl K key n = k) := by refine HA.out.trans ?_; rw [if_neg hc]
        have hd : decide (K k < key) = false := by simp; omega
        clear HA
        go_wp2
        go_ret
        exact ⟨ret_int (by rw [HC.out]), rfl⟩
    · have HC2 : Hid (pl K key n = k) := by refine HC.out.trans ?_; rw [show n - k = 0 by omega, plc]
      have hd : decide ((k : Int) < (n : Int)) = false := by simp; omega
      clear HC hk
      go_wp2
      go_ret
      exact ⟨ret_int (by rw [HC2.out]), rfl⟩
theorem place_zero (K : Nat → Int) (key : Int) (a : Option Addr) (cap : Nat) (w : World) :
    Calls Tryz.prog 186 #[.slice a 0 cap, .int .i64 key] w fun e w' => e = .returned (.int .i64 (pl K key 0)) ∧ w' = w := by
  go_enter Tryz.func186, Tryz.ntmps186
  go_wp2
  go_loop [5] (fun i => i = .int .i64 0) (fun _ => 0)
  case atStart => exact rfl
  case round =>
    obtain rfl := hrel
    go_wp2
    go_ret
    exact ⟨rfl, rfl⟩
theorem place_any (n : Nat) (K V : Nat → Int) (key : Int) (a : Option Addr) (cap : Nat) (w : World) (hn : n ≤ 140737488355328) (h : CellsAt w a n K V) :
    Calls Tryz.prog 186 #[.slice a n cap, .int .i64 key] w fun e w' => e = .returned (.int .i64 (pl K key n)) ∧ w' = w := by
  rcases h with rfl | ⟨b, off, rfl, hbl, hk, hv⟩
  · exact place_zero K key a cap w
  · exact place_some n K key b off cap w hn hk
set_option maxHeartbeats 1000000 in
theorem find_some (n : Nat) (K : Nat → Int) (key : Int) (b off cap : Nat) (w : World) (hn : n ≤ 140737488355328)
    (hk : ∀ i, i < n → w.cell? ⟨b, off + i * 2, none⟩ = some (.int .i64 (K i))) :
    Calls Tryz.prog 62 #[.slice (some ⟨b, off, none⟩) n cap, .int .i64 key] w fun e w' => e = .returned (.int .i64 (fnd K key n 0)) ∧ w' = w := by
  go_enter Tryz.func62, Tryz.ntmps62
  go_wp2
  go_loop [5] (fun i => ∃ k : Nat, k ≤ n ∧ i = .int .i64 k ∧ Hid (fnd K key n 0 = fnd K key (n - k) k)) (fun i => n - (intOf i).toNat)
  case atStart => exact ⟨0, Nat.zero_le _, rfl, rfl⟩
  case round =>
    obtain ⟨k, hk0, rfl, HC⟩ := hrel
    by_cases hlt : k < n
    · have h1 := hk k hlt
      have hlt' : (k : Int) < (n : Int) := by omega
      have HA : Hid (fnd K key n 0 = _) := HC.out.trans (fnd_at hlt)
      clear HC hk
      by_cases hc : K k = key
      · have HC : Hid (fnd K key n 0 = k) := by refine HA.out.trans ?_; rw [if_pos hc]
        have hd : (K k == key) = true := by simpa using hc
        clear HA hc
        go_wp2
        go_ret
        exact ⟨ret_int HC.out.symm, rfl⟩
      · have HC : Hid (fnd K key n 0 = fnd K key (n - (k + 1)) (k + 1)) := by refine HA.out.trans ?_; rw [if_neg hc]
        have hd : (K k == key) = false := by simpa using hc
        clear HA hc
        go_wp2
        go_round
        case rel => exact ⟨k + 1, hlt, by go_num, HC⟩
        case measure => simp [intOf]; omega
    · have HC2 : Hid (fnd K key n 0 = -1) := by refine HC.out.trans ?_; rw [show n - k = 0 by omega, fnd]
      clear HC hk
      go_wp2
      go_ret
      exact ⟨ret_int HC2.out.symm, rfl⟩
theorem find_zero (K : Nat → Int) (key : Int) (a : Option Addr) (cap : Nat) (w : World) :
    Calls Tryz.prog 62 #[.slice a 0 cap, .int .i64 key] w fun e w' => e = .returned (.int .i64 (fnd K key 0 0)) ∧ w' = w := by
  go_enter Tryz.func62, Tryz.ntmps62
  go_wp2
  go_loop [5] (fun i => i = .int .i64 0) (fun _ => 0)
  case atStart => exact rfl
  case round =>
    obtain rfl := hrel
    go_wp2
    go_ret
    exact ⟨rfl, rfl⟩
theorem find_any (n : Nat) (K V : Nat → Int) (key : Int) (a : Option Addr) (cap : Nat) (w : World) (hn : n ≤ 140737488355328) (h : CellsAt w a n K V) :
    Calls Tryz.prog 62 #[.slice a n cap, .int .i64 key] w fun e w' => e = .returned (.int .i64 (fnd K key n 0)) ∧ w' = w := by
  rcases h with rfl | ⟨b, off, rfl, hbl, hk, hv⟩
  · exact find_zero K key a cap w
  · exact find_some n K key b off cap w hn hk
set_option maxHeartbeats 1000000 in
theorem hasCell_any (n : Nat) (K V : Nat → Int) (key : Int) (a : Option Addr) (cap : Nat) (w : World) (hn : n ≤ 140737488355328) (h : CellsAt w a n K V) :
    Calls Tryz.prog 185 #[.slice a n cap, .int .i64 key] w fun e w' => e = .returned (.bool (has K key n)) ∧ w' = w := by
  have hp := pl_le K key n
  have hh : has K key n = (decide (pl K key n < n) && decide (K (pl K key n) = key)) := rfl
  have hpa := place_any n K V key a cap w hn h
  generalize pl K key n = p at hp hh hpa
  by_cases h1 : p < n
  · rcases h with rfl | ⟨b, off, rfl, hbl, hk, hv⟩
    · omega
    · have hc := hk p h1
      have h1' : (p : Int) < (n : Int) := by omega
      by_cases h2 : K p = key
      · have hd : (K p == key) = true := by simpa using h2
        have HH : Hid (has K key n = true) := by show has K key n = true; rw [hh]; simp [h1, h2]
        have HP : Hid (Calls Tryz.prog 186 #[.slice (some ⟨b, off, none⟩) n cap, .int .i64 key] w fun e w' => e = .returned (.int .i64 p) ∧ w' = w) := hpa
        clear hk hv hh hpa h2
        go_enter Tryz.func185, Tryz.ntmps185
        go_wp2_with (go_at_call 186; refine HP.out.mono ?_; rintro e w' ⟨rfl, rfl⟩)
        go_ret
        exact ⟨ret_bool HH.out.symm, rfl⟩
      · have hd : (K p == key) = false := by simpa using h2
        have HH : Hid (has K key n = false) := by show has K key n = false; rw [hh]; simp [h2]
        have HP : Hid (Calls Tryz.prog 186 #[.slice (some ⟨b, off, none⟩) n cap, .int .i64 key] w fun e w' => e = .returned (.int .i64 p) ∧ w' = w) := hpa
        clear hk hv hh hpa h2
        go_enter Tryz.func185, Tryz.ntmps185
        go_wp2_with (go_at_call 186; refine HP.out.mono ?_; rintro e w' ⟨rfl, rfl⟩)
        go_ret
        exact ⟨ret_bool HH.out.symm, rfl⟩
  · have hd : decide (p < n) = false := by simpa using h1
    have HH : Hid (has K key n = false) := by show has K key n = false; rw [hh]; simp [h1]
    have HP : Hid (Calls Tryz.prog 186 #[.slice a n cap, .int .i64 key] w fun e w' => e = .returned (.int .i64 p) ∧ w' = w) := hpa
    clear h hh hpa
    go_enter Tryz.func185, Tryz.ntmps185
    go_wp2_with (go_at_call 186; refine HP.out.mono ?_; rintro e w' ⟨rfl, rfl⟩)
    go_ret
    exact ⟨ret_bool HH.out.symm, rfl⟩
end Go.Proofs.YtfmpmhppjikadaaGreat
