/- SumBytes: the walks. -/
import Derived.Test.YtnhkjdcbaphfcaaBase
namespace Go.Proofs.Ytnhkjdcbaphfcaa
open Go.RowKit Go.Deep

/-! ### spec.SumBytes -/
set_option maxHeartbeats 400000 in
theorem specSum_some (n : Nat) (z : Nat → Int) (b off cap : Nat) (w : World) (hn : n ≤ 140737488355328) (hz : Byt n z) (hc : ∀ i, i < n → w.cell? ⟨b, off + i, none⟩ = some (.int .u8 (z i))) :
    Calls Try.prog 37 #[.slice (some ⟨b, off, none⟩) n cap] w fun e w' => e = .returned (.int .i64 (sumB z n)) ∧ w' = w := by
  go_enter Try.func37, Try.ntmps37
  go_wp2
  go_loop [3, 4] (fun h i => ∃ k : Nat, k ≤ n ∧ i = .int .i64 k ∧ h = .int .i64 (sumB z k)) (fun _ i => n - (intOf i).toNat)
  case atStart => exact ⟨0, Nat.zero_le _, rfl, rfl⟩
  case round =>
    obtain ⟨k, hk, rfl, rfl⟩ := hrel
    have hbd := sumB_bd z k
    obtain ⟨hb1, hb2⟩ := hbd
    by_cases hlt : k < n
    · have hcell := hc k hlt
      obtain ⟨hz1, hz2⟩ := hz k hlt
      have HS : Hid (sumB z (k + 1) = (sumB z k * 269 + z k + 1) % 65521) := rfl
      clear hc hz
      go_wp2
      go_round
      case rel => exact ⟨k + 1, hlt, by go_num, by rw [HS.out]⟩
      case measure => simp [intOf]; omega
    · have hkn : k = n := by omega
      clear hc hz
      go_wp2
      go_ret
      exact ⟨rfl, rfl⟩
theorem specSum_zero (z : Nat → Int) (a : Option Addr) (cap : Nat) (w : World) :
    Calls Try.prog 37 #[.slice a 0 cap] w fun e w' => e = .returned (.int .i64 (sumB z 0)) ∧ w' = w := by
  go_enter Try.func37, Try.ntmps37
  go_wp2
  go_loop [3, 4] (fun h i => i = .int .i64 0 ∧ h = .int .i64 9) (fun _ _ => 0)
  case atStart => exact ⟨rfl, rfl⟩
  case round =>
    obtain ⟨rfl, rfl⟩ := hrel
    go_wp2
    go_ret
    exact ⟨rfl, rfl⟩
theorem specSum_any (n : Nat) (z : Nat → Int) (a : Option Addr) (cap : Nat) (w : World) (hn : n ≤ 140737488355328) (hz : Byt n z) (h : BytesAt w a n z) :
    Calls Try.prog 37 #[.slice a n cap] w fun e w' => e = .returned (.int .i64 (sumB z n)) ∧ w' = w := by
  rcases h with rfl | ⟨b, off, rfl, _, hc⟩
  · exact specSum_zero z a cap w
  · exact specSum_some n z b off cap w hn hz hc

/-! ### impl.SumBytes -/
set_option maxHeartbeats 400000 in
theorem implSum_some (n : Nat) (z : Nat → Int) (b off cap : Nat) (w : World) (hn : n ≤ 140737488355328) (hz : Byt n z) (hc : ∀ i, i < n → w.cell? ⟨b, off + i, none⟩ = some (.int .u8 (z i))) :
    Calls Try.prog 32 #[.slice (some ⟨b, off, none⟩) n cap] w fun e w' => e = .returned (.int .i64 (sumB z n)) ∧ w' = w := by
  go_enter Try.func32, Try.ntmps32
  go_wp2
  go_loop [3, 5, 8] (fun h _ i => ∃ k : Nat, k ≤ n ∧ i = .int .i64 k ∧ h = .int .i64 (sumB z k)) (fun _ _ i => n - (intOf i).toNat)
  case atStart => exact ⟨0, Nat.zero_le _, rfl, rfl⟩
  case round =>
    obtain ⟨k, hk, rfl, rfl⟩ := hrel
    have hbd := sumB_bd z k
    obtain ⟨hb1, hb2⟩ := hbd
    by_cases hlt : k < n
    · have hcell := hc k hlt
      obtain ⟨hz1, hz2⟩ := hz k hlt
      have HS : Hid (sumB z (k + 1) = (sumB z k * 269 + z k + 1) % 65521) := rfl
      clear hc hz
      go_wp2
      go_round
      case rel => exact ⟨k + 1, hlt, by go_num, by rw [HS.out]⟩
      case measure => simp [intOf]; omega
    · have hkn : k = n := by omega
      clear hc hz
      go_wp2
      go_ret
      exact ⟨rfl, rfl⟩
theorem implSum_zero (z : Nat → Int) (a : Option Addr) (cap : Nat) (w : World) :
    Calls Try.prog 32 #[.slice a 0 cap] w fun e w' => e = .returned (.int .i64 (sumB z 0)) ∧ w' = w := by
  go_enter Try.func32, Try.ntmps32
  go_wp2
  go_loop [3, 5, 8] (fun h _ i => i = .int .i64 0 ∧ h = .int .i64 9) (fun _ _ _ => 0)
  case atStart => exact ⟨rfl, rfl⟩
  case round =>
    obtain ⟨rfl, rfl⟩ := hrel
    go_wp2
    go_ret
    exact ⟨rfl, rfl⟩
theorem implSum_any (n : Nat) (z : Nat → Int) (a : Option Addr) (cap : Nat) (w : World) (hn : n ≤ 140737488355328) (hz : Byt n z) (h : BytesAt w a n z) :
    Calls Try.prog 32 #[.slice a n cap] w fun e w' => e = .returned (.int .i64 (sumB z n)) ∧ w' = w := by
  rcases h with rfl | ⟨b, off, rfl, _, hc⟩
  · exact implSum_zero z a cap w
  · exact implSum_some n z b off cap w hn hz hc

/-! ### laws.toByteS -/
/-! ### laws.eqByteS: two rows of the same bytes -/
end Go.Proofs.Ytnhkjdcbaphfcaa
