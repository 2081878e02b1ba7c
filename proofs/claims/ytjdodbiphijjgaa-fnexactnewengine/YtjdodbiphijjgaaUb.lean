/- Rows of undos: marked, held, opened. -/
import Derived.Test.YtjdodbiphijjgaaUa
namespace Go.Proofs.Ytjdodbiphijjgaa
open Go.ChangeShapes Go.WideShapes Go.ChangeAt Go.RowKit Go.Deep Go.Joins
set_option linter.unusedVariables false
set_option maxRecDepth 20000

def mU (m : Int) (i : Nat) : Ud := ⟨m + i * 4, (m + i * 4 + 1) % 3 == 0, (m + i * 4 + 2) % 3 == 0, m + i * 4 + 3⟩
def mkU (m : Int) (R : Nat → Ud) (j i : Nat) : Ud := if i < j then mU m i else R i
theorem mkU_step (m : Int) (R : Nat → Ud) (k i : Nat) : (if i = k then mU m k else mkU m R k i) = mkU m R (k + 1) i := by
  unfold mkU
  by_cases e : i = k
  · subst e; simp
  · rw [if_neg e]
    have : (i < k + 1) ↔ (i < k) := by omega
    simp only [this]
set_option maxHeartbeats 4000000 in
theorem markUndoS_some (n : Nat) (R : Nat → Ud) (b off cap lo hi : Nat) (m : Int) (w : World) (hn : n ≤ 1048576) (hm1 : 0 ≤ m) (hm2 : m ≤ 8796093022208) (hlo : lo ≤ b) (hhi : b < hi) (hr : RowU w b off n R) :
    Calls Try.prog 34 #[.slice (some ⟨b, off, none⟩) n cap, .int .i64 m] w fun e w' =>
      e = .returned (.int .i64 (m + n * 4)) ∧ Writes lo hi w w' ∧ RowU w' b off n (mkU m R n) := by
  have HR0 : Hid (RowU w b off n (mkU m R 0)) := ⟨fun i h => by have := hr.1 i h; simpa [mkU] using this, hr.2⟩
  clear hr
  go_enter Try.func34, Try.ntmps34
  go_wp2_with fail
  go_loopw [1, 5] (fun q i wr => ∃ k : Nat, k ≤ n ∧ i = .int .i64 k ∧ q = .int .i64 (m + k * 4) ∧ Hid (Writes lo hi w wr) ∧ Hid (RowU wr b off n (mkU m R k))) (fun _ i _ => n - (intOf i).toNat)
  case atStart => exact ⟨0, Nat.zero_le _, rfl, by go_num, Writes.refl _ _ _, HR0⟩
  case round =>
    obtain ⟨k, hk0, rfl, rfl, HB, HR⟩ := hrel
    by_cases hlt : k < n
    · obtain ⟨h0, h1, h2, h3⟩ := HR.out.1 k hlt
      have hf := HR.out.2
      generalize mkU m R k k = r at *
      have hk' : (k : Int) < (n : Int) := by omega
      have hk1 : (0 : Int) ≤ (k : Int) := by omega
      have g1 : IntKind.i64.wrap (m + k * 4 + 1) = m + k * 4 + 1 := by rw [IntKind.wrap_i64]; omega
      have g2 : IntKind.i64.wrap (m + k * 4 + 1 + 1) = m + k * 4 + 2 := by rw [IntKind.wrap_i64]; omega
      have g3 : IntKind.i64.wrap (m + k * 4 + 2 + 1) = m + k * 4 + 3 := by rw [IntKind.wrap_i64]; omega
      have g4 : IntKind.i64.wrap (m + k * 4 + 3 + 1) = m + k * 4 + 4 := by rw [IntKind.wrap_i64]; omega
      go_wp2_with fail
      go_roundw
      case rel => exact ⟨k + 1, hlt, by go_num, by go_num, setU_writes (r := mU m k) (o := off + k * 4) HB.out hlo hhi, rowU_congr (rowU_set (r := mU m k) hlt HR.out) (fun i _ => mkU_step m R k i)⟩
      case measure => simp [intOf]; omega
    · have hkn : k = n := by omega
      have HR1 : Hid (RowU wr b off n (mkU m R n)) := by have h := HR.out; rw [hkn] at h; exact h
      have hnl : ¬ ((k : Int) < (n : Int)) := by omega
      go_wp2_with fail
      go_ret
      exact ⟨rfl, HB.out, HR1.out⟩
theorem markUndoS_zero (a : Option Addr) (cap : Nat) (m : Int) (w : World) : Calls Try.prog 34 #[.slice a 0 cap, .int .i64 m] w fun e w' => e = .returned (.int .i64 m) ∧ w' = w := by
  go_enter Try.func34, Try.ntmps34
  go_wp2
  go_loop [1, 5] (fun q i => q = .int .i64 m ∧ i = .int .i64 0) (fun _ _ => 0)
  case atStart => exact ⟨rfl, rfl⟩
  case round =>
    obtain ⟨rfl, rfl⟩ := hrel
    go_wp2
    go_ret
    exact ⟨rfl, rfl⟩
theorem markUndoS_any (n : Nat) (R : Nat → Ud) (a : Option Addr) (cap lo hi : Nat) (m : Int) (w : World) (hn : n ≤ 1048576) (hm1 : 0 ≤ m) (hm2 : m ≤ 8796093022208) (h : OwnU w lo hi a n R) :
    Calls Try.prog 34 #[.slice a n cap, .int .i64 m] w fun e w' => e = .returned (.int .i64 (m + n * 4)) ∧ Writes lo hi w w' ∧ OwnU w' lo hi a n (mU m) := by
  obtain ⟨h0, rfl | ⟨b, off, rfl, hlo, hhi, hr⟩⟩ := h
  · refine (markUndoS_zero a cap m w).mono ?_
    rintro e w' ⟨rfl, rfl⟩
    exact ⟨ret_int (by omega), Writes.refl _ _ _, h0, .inl rfl⟩
  · refine (markUndoS_some n R b off cap lo hi m w hn hm1 hm2 hlo hhi hr).mono ?_
    rintro e w' ⟨rfl, hw, h1, h2⟩
    exact ⟨rfl, hw, Nat.le_trans h0 hw.size, .inr ⟨b, off, rfl, hlo, hhi, fun i hi => by have := h1 i hi; simpa [mkU, hi] using this, h2⟩⟩
/-! ### held -/
set_option maxHeartbeats 4000000 in
theorem heldUndoS_some (n b off cap : Nat) (m : Int) (w : World) (hn : n ≤ 1048576) (hm1 : 0 ≤ m) (hm2 : m ≤ 8796093022208) (hc : ∀ i, i < n → CU w b (off + i * 4) (mU m i)) :
    Calls Try.prog 36 #[.slice (some ⟨b, off, none⟩) n cap, .int .i64 m] w fun e w' => e = .returned (.int .i64 (m + n * 4)) ∧ w' = w := by
  have HC : Hid (∀ i, i < n → CU w b (off + i * 4) (mU m i)) := hc
  clear hc
  go_enter Try.func36, Try.ntmps36
  go_wp2_with fail
  go_loop [1, 5] (fun q i => ∃ k : Nat, k ≤ n ∧ i = .int .i64 k ∧ q = .int .i64 (m + k * 4)) (fun _ i => n - (intOf i).toNat)
  case atStart => exact ⟨0, Nat.zero_le _, rfl, by go_num⟩
  case round =>
    obtain ⟨k, hk0, rfl, rfl⟩ := hrel
    by_cases hlt : k < n
    · obtain ⟨h0, h1, h2, h3⟩ := HC.out k hlt
      simp only [mU] at h0 h1 h2 h3
      have hk' : (k : Int) < (n : Int) := by omega
      have hk1 : (0 : Int) ≤ (k : Int) := by omega
      have g1 : IntKind.i64.wrap (m + k * 4 + 1) = m + k * 4 + 1 := by rw [IntKind.wrap_i64]; omega
      have g2 : IntKind.i64.wrap (m + k * 4 + 1 + 1) = m + k * 4 + 2 := by rw [IntKind.wrap_i64]; omega
      have g3 : IntKind.i64.wrap (m + k * 4 + 2 + 1) = m + k * 4 + 3 := by rw [IntKind.wrap_i64]; omega
      have g4 : IntKind.i64.wrap (m + k * 4 + 3 + 1) = m + k * 4 + 4 := by rw [IntKind.wrap_i64]; omega
      have e2 : (((m + k * 4 + 1) % 3 == 0) != ((m + k * 4 + 1) % 3 == 0)) = false := by simp
      have e3 : (((m + k * 4 + 2) % 3 == 0) != ((m + k * 4 + 2) % 3 == 0)) = false := by simp
      go_wp2_with fail
      go_round
      case rel => exact ⟨k + 1, hlt, by go_num, by go_num⟩
      case measure => simp [intOf]; omega
    · have hkn : k = n := by omega
      have hnl : ¬ ((k : Int) < (n : Int)) := by omega
      go_wp2_with fail
      go_ret
      exact ⟨rfl, rfl⟩
theorem heldUndoS_zero (a : Option Addr) (cap : Nat) (m : Int) (w : World) : Calls Try.prog 36 #[.slice a 0 cap, .int .i64 m] w fun e w' => e = .returned (.int .i64 m) ∧ w' = w := by
  go_enter Try.func36, Try.ntmps36
  go_wp2
  go_loop [1, 5] (fun q i => q = .int .i64 m ∧ i = .int .i64 0) (fun _ _ => 0)
  case atStart => exact ⟨rfl, rfl⟩
  case round =>
    obtain ⟨rfl, rfl⟩ := hrel
    go_wp2
    go_ret
    exact ⟨rfl, rfl⟩
theorem heldUndoS_any (n : Nat) (a : Option Addr) (cap : Nat) (m : Int) (w : World) (hn : n ≤ 1048576) (hm1 : 0 ≤ m) (hm2 : m ≤ 8796093022208) (h : UndsAt w a n (mU m)) :
    Calls Try.prog 36 #[.slice a n cap, .int .i64 m] w fun e w' => e = .returned (.int .i64 (m + n * 4)) ∧ w' = w := by
  rcases h with rfl | ⟨b, off, rfl, _, hc⟩
  · refine (heldUndoS_zero a cap m w).mono ?_
    rintro e w' ⟨rfl, rfl⟩
    exact ⟨ret_int (by omega), rfl⟩
  · exact heldUndoS_some n b off cap m w hn hm1 hm2 hc
end Go.Proofs.Ytjdodbiphijjgaa
