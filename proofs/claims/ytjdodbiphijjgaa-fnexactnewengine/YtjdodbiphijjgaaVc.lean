/- Rows of versions: marked, held; answers that are chains; arguments that are chains and views, opened. -/
import Derived.Test.YtjdodbiphijjgaaVb
namespace Go.Proofs.Ytjdodbiphijjgaa
open Go.ChangeShapes Go.WideShapes Go.ChangeAt Go.RowKit Go.Deep Go.Joins
set_option linter.unusedVariables false
set_option maxRecDepth 20000

def mV (m : Int) (i : Nat) : Vr := ⟨m + i * 4, m + i * 4 + 1, (m + i * 4 + 2) % 3 == 0, m + i * 4 + 3⟩
def mkV (m : Int) (R : Nat → Vr) (j i : Nat) : Vr := if i < j then mV m i else R i
theorem mkV_step (m : Int) (R : Nat → Vr) (k i : Nat) : (if i = k then mV m k else mkV m R k i) = mkV m R (k + 1) i := by
  unfold mkV
  by_cases e : i = k
  · subst e; simp
  · rw [if_neg e]
    have : (i < k + 1) ↔ (i < k) := by omega
    simp only [this]
set_option maxHeartbeats 4000000 in
theorem markVersionS_some (n : Nat) (R : Nat → Vr) (b off cap lo hi : Nat) (m : Int) (w : World) (hn : n ≤ 1048576) (hm1 : 0 ≤ m) (hm2 : m ≤ 8796093022208) (hlo : lo ≤ b) (hhi : b < hi) (hr : Row4 w b off n R) :
    Calls Try.prog 35 #[.slice (some ⟨b, off, none⟩) n cap, .int .i64 m] w fun e w' =>
      e = .returned (.int .i64 (m + n * 4)) ∧ Writes lo hi w w' ∧ Row4 w' b off n (mkV m R n) := by
  have HR0 : Hid (Row4 w b off n (mkV m R 0)) := ⟨fun i h => by have := hr.1 i h; simpa [mkV] using this, hr.2⟩
  clear hr
  go_enter Try.func35, Try.ntmps35
  go_wp2_with fail
  go_loopw [1, 5] (fun q i wr => ∃ k : Nat, k ≤ n ∧ i = .int .i64 k ∧ q = .int .i64 (m + k * 4) ∧ Hid (Writes lo hi w wr) ∧ Hid (Row4 wr b off n (mkV m R k))) (fun _ i _ => n - (intOf i).toNat)
  case atStart => exact ⟨0, Nat.zero_le _, rfl, by go_num, Writes.refl _ _ _, HR0⟩
  case round =>
    obtain ⟨k, hk0, rfl, rfl, HB, HR⟩ := hrel
    by_cases hlt : k < n
    · obtain ⟨h0, h1, h2, h3⟩ := HR.out.1 k hlt
      have hf := HR.out.2
      generalize mkV m R k k = r at *
      have hk' : (k : Int) < (n : Int) := by omega
      have hk1 : (0 : Int) ≤ (k : Int) := by omega
      have g1 : IntKind.i64.wrap (m + k * 4 + 1) = m + k * 4 + 1 := by rw [IntKind.wrap_i64]; omega
      have g2 : IntKind.i64.wrap (m + k * 4 + 1 + 1) = m + k * 4 + 2 := by rw [IntKind.wrap_i64]; omega
      have g3 : IntKind.i64.wrap (m + k * 4 + 2 + 1) = m + k * 4 + 3 := by rw [IntKind.wrap_i64]; omega
      have g4 : IntKind.i64.wrap (m + k * 4 + 3 + 1) = m + k * 4 + 4 := by rw [IntKind.wrap_i64]; omega
      go_wp2_with fail
      go_roundw
      case rel => exact ⟨k + 1, hlt, by go_num, by go_num, set4_writes (r := mV m k) (o := off + k * 4) HB.out hlo hhi, row4_congr (row4_set (r := mV m k) hlt HR.out) (fun i _ => mkV_step m R k i)⟩
      case measure => simp [intOf]; omega
    · have hkn : k = n := by omega
      have HR1 : Hid (Row4 wr b off n (mkV m R n)) := by have h := HR.out; rw [hkn] at h; exact h
      have hnl : ¬ ((k : Int) < (n : Int)) := by omega
      go_wp2_with fail
      go_ret
      exact ⟨rfl, HB.out, HR1.out⟩
theorem markVersionS_zero (a : Option Addr) (cap : Nat) (m : Int) (w : World) : Calls Try.prog 35 #[.slice a 0 cap, .int .i64 m] w fun e w' => e = .returned (.int .i64 m) ∧ w' = w := by
  go_enter Try.func35, Try.ntmps35
  go_wp2
  go_loop [1, 5] (fun q i => q = .int .i64 m ∧ i = .int .i64 0) (fun _ _ => 0)
  case atStart => exact ⟨rfl, rfl⟩
  case round =>
    obtain ⟨rfl, rfl⟩ := hrel
    go_wp2
    go_ret
    exact ⟨rfl, rfl⟩
theorem markVersionS_any (n : Nat) (R : Nat → Vr) (a : Option Addr) (cap lo hi : Nat) (m : Int) (w : World) (hn : n ≤ 1048576) (hm1 : 0 ≤ m) (hm2 : m ≤ 8796093022208) (h : Own4 w lo hi a n R) :
    Calls Try.prog 35 #[.slice a n cap, .int .i64 m] w fun e w' => e = .returned (.int .i64 (m + n * 4)) ∧ Writes lo hi w w' ∧ Own4 w' lo hi a n (mV m) := by
  obtain ⟨h0, rfl | ⟨b, off, rfl, hlo, hhi, hr⟩⟩ := h
  · refine (markVersionS_zero a cap m w).mono ?_
    rintro e w' ⟨rfl, rfl⟩
    exact ⟨ret_int (by omega), Writes.refl _ _ _, h0, .inl rfl⟩
  · refine (markVersionS_some n R b off cap lo hi m w hn hm1 hm2 hlo hhi hr).mono ?_
    rintro e w' ⟨rfl, hw, h1, h2⟩
    exact ⟨rfl, hw, Nat.le_trans h0 hw.size, .inr ⟨b, off, rfl, hlo, hhi, fun i hi => by have := h1 i hi; simpa [mkV, hi] using this, h2⟩⟩
/-! ### held -/
set_option maxHeartbeats 4000000 in
theorem heldVersionS_some (n b off cap : Nat) (m : Int) (w : World) (hn : n ≤ 1048576) (hm1 : 0 ≤ m) (hm2 : m ≤ 8796093022208) (hc : ∀ i, i < n → C4 w b (off + i * 4) (mV m i)) :
    Calls Try.prog 37 #[.slice (some ⟨b, off, none⟩) n cap, .int .i64 m] w fun e w' => e = .returned (.int .i64 (m + n * 4)) ∧ w' = w := by
  have HC : Hid (∀ i, i < n → C4 w b (off + i * 4) (mV m i)) := hc
  clear hc
  go_enter Try.func37, Try.ntmps37
  go_wp2_with fail
  go_loop [1, 5] (fun q i => ∃ k : Nat, k ≤ n ∧ i = .int .i64 k ∧ q = .int .i64 (m + k * 4)) (fun _ i => n - (intOf i).toNat)
  case atStart => exact ⟨0, Nat.zero_le _, rfl, by go_num⟩
  case round =>
    obtain ⟨k, hk0, rfl, rfl⟩ := hrel
    by_cases hlt : k < n
    · obtain ⟨h0, h1, h2, h3⟩ := HC.out k hlt
      simp only [mV] at h0 h1 h2 h3
      have hk' : (k : Int) < (n : Int) := by omega
      have hk1 : (0 : Int) ≤ (k : Int) := by omega
      have g1 : IntKind.i64.wrap (m + k * 4 + 1) = m + k * 4 + 1 := by rw [IntKind.wrap_i64]; omega
      have g2 : IntKind.i64.wrap (m + k * 4 + 1 + 1) = m + k * 4 + 2 := by rw [IntKind.wrap_i64]; omega
      have g3 : IntKind.i64.wrap (m + k * 4 + 2 + 1) = m + k * 4 + 3 := by rw [IntKind.wrap_i64]; omega
      have g4 : IntKind.i64.wrap (m + k * 4 + 3 + 1) = m + k * 4 + 4 := by rw [IntKind.wrap_i64]; omega
      have e3 : (((m + k * 4 + 2) % 3 == 0) != ((m + k * 4 + 2) % 3 == 0)) = false := by simp
      go_wp2_with fail
      go_round
      case rel => exact ⟨k + 1, hlt, by go_num, by go_num⟩
      case measure => simp [intOf]; omega
    · have hkn : k = n := by omega
      have hnl : ¬ ((k : Int) < (n : Int)) := by omega
      go_wp2_with fail
      go_ret
      exact ⟨rfl, rfl⟩
theorem heldVersionS_zero (a : Option Addr) (cap : Nat) (m : Int) (w : World) : Calls Try.prog 37 #[.slice a 0 cap, .int .i64 m] w fun e w' => e = .returned (.int .i64 m) ∧ w' = w := by
  go_enter Try.func37, Try.ntmps37
  go_wp2
  go_loop [1, 5] (fun q i => q = .int .i64 m ∧ i = .int .i64 0) (fun _ _ => 0)
  case atStart => exact ⟨rfl, rfl⟩
  case round =>
    obtain ⟨rfl, rfl⟩ := hrel
    go_wp2
    go_ret
    exact ⟨rfl, rfl⟩
theorem heldVersionS_any (n : Nat) (a : Option Addr) (cap : Nat) (m : Int) (w : World) (hn : n ≤ 1048576) (hm1 : 0 ≤ m) (hm2 : m ≤ 8796093022208) (h : VersAt w a n (mV m)) :
    Calls Try.prog 37 #[.slice a n cap, .int .i64 m] w fun e w' => e = .returned (.int .i64 (m + n * 4)) ∧ w' = w := by
  rcases h with rfl | ⟨b, off, rfl, _, hc⟩
  · refine (heldVersionS_zero a cap m w).mono ?_
    rintro e w' ⟨rfl, rfl⟩
    exact ⟨ret_int (by omega), rfl⟩
  · exact heldVersionS_some n b off cap m w hn hm1 hm2 hc
/-! ### answers that are chains -/
/-! ### arguments, opened -/
theorem cellsI : Try.prog.cellsOf 2 = 1 := by kernel_rfl
theorem cellsB : Try.prog.cellsOf 4 = 1 := by kernel_rfl
end Go.Proofs.Ytjdodbiphijjgaa
