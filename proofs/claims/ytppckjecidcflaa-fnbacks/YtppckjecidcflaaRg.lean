/- Rows of records: marked, held; answers that are records. -/
import Derived.Test.YtppckjecidcflaaRe
namespace Go.Proofs.Ytppckjecidcflaa
open Go.RowKit Go.Deep
set_option linter.unusedVariables false
set_option maxRecDepth 20000

set_option maxHeartbeats 4000000 in
theorem markRecS_some (n : Nat) (R : Nat → Rc) (b off cap lo hi : Nat) (m : Int) (w : World) (hn : n ≤ 1048576) (hm1 : 0 ≤ m) (hm2 : m ≤ 8796093022208) (hlo : lo ≤ b) (hhi : b < hi) (hr : Row8 w b off n R) :
    Calls Try.prog 22 #[.slice (some ⟨b, off, none⟩) n cap, .int .i64 m] w fun e w' =>
      e = .returned (.int .i64 (m + n * 8)) ∧ Writes lo hi w w' ∧ Row8 w' b off n (mkR m R n) := by
  have HR0 : Hid (Row8 w b off n (mkR m R 0)) := ⟨fun i h => by have := hr.1 i h; simpa [mkR] using this, hr.2⟩
  clear hr
  go_enter Try.func22, Try.ntmps22
  go_wp2_with fail
  go_loopw [1, 5] (fun q i wr => ∃ k : Nat, k ≤ n ∧ i = .int .i64 k ∧ q = .int .i64 (m + k * 8) ∧ Hid (Writes lo hi w wr) ∧ Hid (Row8 wr b off n (mkR m R k))) (fun _ i _ => n - (intOf i).toNat)
  case atStart => exact ⟨0, Nat.zero_le _, rfl, by go_num, Writes.refl _ _ _, HR0⟩
  case round =>
    obtain ⟨k, hk0, rfl, rfl, HB, HR⟩ := hrel
    by_cases hlt : k < n
    · obtain ⟨h0, h1, h2, h3, h4, h5, h6, h7⟩ := HR.out.1 k hlt
      have hf := HR.out.2
      generalize mkR m R k k = r at *
      have hk' : (k : Int) < (n : Int) := by omega
      have hk1 : (0 : Int) ≤ (k : Int) := by omega
      have g1 : IntKind.i64.wrap (m + k * 8 + 1) = m + k * 8 + 1 := by rw [IntKind.wrap_i64]; omega
      have g2 : IntKind.i64.wrap (m + k * 8 + 1 + 1) = m + k * 8 + 2 := by rw [IntKind.wrap_i64]; omega
      have g3 : IntKind.i64.wrap (m + k * 8 + 2 + 1) = m + k * 8 + 3 := by rw [IntKind.wrap_i64]; omega
      have g4 : IntKind.i64.wrap (m + k * 8 + 3 + 1) = m + k * 8 + 4 := by rw [IntKind.wrap_i64]; omega
      have g5 : IntKind.i64.wrap (m + k * 8 + 4 + 1) = m + k * 8 + 5 := by rw [IntKind.wrap_i64]; omega
      have g6 : IntKind.i64.wrap (m + k * 8 + 5 + 1) = m + k * 8 + 6 := by rw [IntKind.wrap_i64]; omega
      have g7 : IntKind.i64.wrap (m + k * 8 + 6 + 1) = m + k * 8 + 7 := by rw [IntKind.wrap_i64]; omega
      have g8 : IntKind.i64.wrap (m + k * 8 + 7 + 1) = m + k * 8 + 8 := by rw [IntKind.wrap_i64]; omega
      go_wp2_with fail
      go_roundw
      case rel => exact ⟨k + 1, hlt, by go_num, by go_num, set8_writes (r := mR m k) (o := off + k * 8) HB.out hlo hhi, row8_step hlt HR.out⟩
      case measure => simp [intOf]; omega
    · have hkn : k = n := by omega
      have HR1 : Hid (Row8 wr b off n (mkR m R n)) := by have h := HR.out; rw [hkn] at h; exact h
      have hnl : ¬ ((k : Int) < (n : Int)) := by omega
      go_wp2_with fail
      go_ret
      exact ⟨rfl, HB.out, HR1.out⟩
theorem markRecS_zero (a : Option Addr) (cap : Nat) (m : Int) (w : World) : Calls Try.prog 22 #[.slice a 0 cap, .int .i64 m] w fun e w' => e = .returned (.int .i64 m) ∧ w' = w := by
  go_enter Try.func22, Try.ntmps22
  go_wp2
  go_loop [1, 5] (fun q i => q = .int .i64 m ∧ i = .int .i64 0) (fun _ _ => 0)
  case atStart => exact ⟨rfl, rfl⟩
  case round =>
    obtain ⟨rfl, rfl⟩ := hrel
    go_wp2
    go_ret
    exact ⟨rfl, rfl⟩
theorem markRecS_any (n : Nat) (R : Nat → Rc) (a : Option Addr) (cap lo hi : Nat) (m : Int) (w : World) (hn : n ≤ 1048576) (hm1 : 0 ≤ m) (hm2 : m ≤ 8796093022208) (h : Own8 w lo hi a n R) :
    Calls Try.prog 22 #[.slice a n cap, .int .i64 m] w fun e w' => e = .returned (.int .i64 (m + n * 8)) ∧ Writes lo hi w w' ∧ Own8 w' lo hi a n (mR m) := by
  obtain ⟨h0, rfl | ⟨b, off, rfl, hlo, hhi, hr⟩⟩ := h
  · refine (markRecS_zero a cap m w).mono ?_
    rintro e w' ⟨rfl, rfl⟩
    exact ⟨ret_int (by omega), Writes.refl _ _ _, h0, .inl rfl⟩
  · refine (markRecS_some n R b off cap lo hi m w hn hm1 hm2 hlo hhi hr).mono ?_
    rintro e w' ⟨rfl, hw, h1, h2⟩
    exact ⟨rfl, hw, Nat.le_trans h0 hw.size, .inr ⟨b, off, rfl, hlo, hhi, fun i hi => by have := h1 i hi; simpa [mkR, hi] using this, h2⟩⟩
/-! ### held -/
/-! ### answers that are records -/
/-! ### the records that bytes tell -/
def zR (z : Nat → Int) : Rc := ⟨num z 0 1, num z 1 2, num z 3 1, hdB z, num z 5 2, hsB z, num z 7 2, num z 9 2⟩
theorem rvs_len (z : Nat → Int) : ∀ k, (rvs z k).length = 8 * k
  | 0 => rfl
  | k + 1 => by simp only [rvs, List.length_append, rvs_len z k]; simp [rvl]; omega
theorem rvs_get (z : Nat → Int) : ∀ k i j, i < k → j < 8 → (rvs z k)[8 * i + j]? = (rvl (sh z (13 * i)))[j]?
  | 0, i, j, h, _ => by omega
  | k + 1, i, j, h, hj => by
    simp only [rvs]
    by_cases e : i = k
    · subst e
      rw [List.getElem?_append_right (by rw [rvs_len]; omega), rvs_len]
      congr 1; omega
    · rw [List.getElem?_append_left (by rw [rvs_len]; omega)]
      exact rvs_get z k i j (by omega) hj
theorem own8_of_row {w : World} {base n : Nat} {a : Option Addr} {cap : Nat} {z : Nat → Int} (h : w.ownsRow base 33 8 (.slice a n cap) n (rvs z n)) : Own8 w base w.heap.size a n (fun i => zR (sh z (13 * i))) := by
  rcases h.2 with ⟨e, h0⟩ | ⟨g, cap', cur, e, hbg, hg, _⟩
  · exact ⟨Nat.le_refl _, .inl h0⟩
  · simp only [Value.slice.injEq, true_and] at e
    obtain ⟨rfl, rfl⟩ := e
    have hlt : g < w.heap.size := by
      obtain ⟨hlt, _⟩ := Array.getElem?_eq_some_iff.1 hg
      exact hlt
    refine ⟨Nat.le_refl _, .inr ⟨g, 0, rfl, hbg, hlt, fun i hi => ?_, fun i => h.frozenAt _⟩⟩
    have c : ∀ j v, j < 8 → (rvl (sh z (13 * i)))[j]? = some v → w.cell? ⟨g, 0 + i * 8 + j, none⟩ = some v := fun j v hj hv => by
      rw [h.cellAt (0 + i * 8 + j) (by omega), show 0 + i * 8 + j = 8 * i + j by omega, rvs_get z n i j hi hj, hv]
    exact ⟨c 0 _ (by omega) rfl, c 1 _ (by omega) rfl, c 2 _ (by omega) rfl, c 3 _ (by omega) rfl, c 4 _ (by omega) rfl, c 5 _ (by omega) rfl, c 6 _ (by omega) rfl, c 7 _ (by omega) rfl⟩
end Go.Proofs.Ytppckjecidcflaa
