/- Rows of records: marked, held; answers that are records. -/
import Derived.Test.YtdanabecpmhjhaaRe
namespace Go.Proofs.Ytdanabecpmhjhaa
open Go.RowKit Go.Deep
set_option linter.unusedVariables false
set_option maxRecDepth 20000

set_option maxHeartbeats 4000000 in
theorem markRecS_some (n : Nat) (R : Nat → Rc) (b off cap lo hi : Nat) (m : Int) (w : World) (hn : n ≤ 1048576) (hm1 : 0 ≤ m) (hm2 : m ≤ 8796093022208) (hlo : lo ≤ b) (hhi : b < hi) (hr : Row8 w b off n R) :
    Calls Try.prog 43 #[.slice (some ⟨b, off, none⟩) n cap, .int .i64 m] w fun e w' =>
      e = .returned (.int .i64 (m + n * 8)) ∧ Writes lo hi w w' ∧ Row8 w' b off n (mkR m R n) := by
  have HR0 : Hid (Row8 w b off n (mkR m R 0)) := ⟨fun i h => by have := hr.1 i h; simpa [mkR] using this, hr.2⟩
  clear hr
  go_enter Try.func43, Try.ntmps43
  go_wp2_with fail
  go_loopw [1, 5] (fun q i wr => ∃ k : Nat, k ≤ n ∧ i = .int .i64 k ∧ q = .int .i64 (m + k * 8) ∧ Hid (Writes lo hi w wr) ∧ Hid (Row8 wr b off n (mkR m R k))) (fun _ i _ => n - (intOf i).toNat)
  case atStart => exact ⟨0, Nat.zero_le _, rfl, by go_num, Writes.refl _ _ _, HR0⟩
  case round =>
    obtain ⟨k, hk0, rfl, rfl, HB, HR⟩ := hrel
    by_cases hlt : k < n
    · obtain ⟨h0, h1, h2, h3, h4, h5, h6, h7⟩ := HR.out.1 k hlt
      have hf := HR.out.2
      generalize mkR m R k k = r at *
      have hk' : (k : Int) < (n : Int) := by omega
      have hk1 : (0 : Int) ≤ (k : Int) := by omega
      have g1 : IntKind.i64.wrap (m + k * 8 + 1) = m + k * 8 + 1 := by rw [IntKind.wrap_i64]; omega
      have g2 : IntKind.i64.wrap (m + k * 8 + 1 + 1) = m + k * 8 + 2 := by rw [IntKind.wrap_i64]; omega
      have g3 : IntKind.i64.wrap (m + k * 8 + 2 + 1) = m + k * 8 + 3 := by rw [IntKind.wrap_i64]; omega
      have g4 : IntKind.i64.wrap (m + k * 8 + 3 + 1) = m + k * 8 + 4 := by rw [IntKind.wrap_i64]; omega
      have g5 : IntKind.i64.wrap (m + k * 8 + 4 + 1) = m + k * 8 + 5 := by rw [IntKind.wrap_i64]; omega
      have g6 : IntKind.i64.wrap (m + k * 8 + 5 + 1) = m + k * 8 + 6 := by rw [IntKind.wrap_i64]; omega
      have g7 : IntKind.i64.wrap (m + k * 8 + 6 + 1) = m + k * 8 + 7 := by rw [IntKind.wrap_i64]; omega
      have g8 : IntKind.i64.wrap (m + k * 8 + 7 + 1) = m + k * 8 + 8 := by rw [IntKind.wrap_i64]; omega
      go_wp2_with fail
      go_roundw
      case rel => exact ⟨k + 1, hlt, by go_num, by go_num, set8_writes (r := mR m k) (o := off + k * 8) HB.out hlo hhi, row8_step hlt HR.out⟩
      case measure => simp [intOf]; omega
    · have hkn : k = n := by omega
      have HR1 : Hid (Row8 wr b off n (mkR m R n)) := by have h := HR.out; rw [hkn] at h; exact h
      have hnl : ¬ ((k : Int) < (n : Int)) := by omega
      go_wp2_with fail
      go_ret
      exact ⟨rfl, HB.out, HR1.out⟩
theorem markRecS_zero (a : Option Addr) (cap : Nat) (m : Int) (w : World) : Calls Try.prog 43 #[.slice a 0 cap, .int .i64 m] w fun e w' => e = .returned (.int .i64 m) ∧ w' = w := by
  go_enter Try.func43, Try.ntmps43
  go_wp2
  go_loop [1, 5] (fun q i => q = .int .i64 m ∧ i = .int .i64 0) (fun _ _ => 0)
  case atStart => exact ⟨rfl, rfl⟩
  case round =>
    obtain ⟨rfl, rfl⟩ := hrel
    go_wp2
    go_ret
    exact ⟨rfl, rfl⟩
theorem markRecS_any (n : Nat) (R : Nat → Rc) (a : Option Addr) (cap lo hi : Nat) (m : Int) (w : World) (hn : n ≤ 1048576) (hm1 : 0 ≤ m) (hm2 : m ≤ 8796093022208) (h : Own8 w lo hi a n R) :
    Calls Try.prog 43 #[.slice a n cap, .int .i64 m] w fun e w' => e = .returned (.int .i64 (m + n * 8)) ∧ Writes lo hi w w' ∧ Own8 w' lo hi a n (mR m) := by
  obtain ⟨h0, rfl | ⟨b, off, rfl, hlo, hhi, hr⟩⟩ := h
  · refine (markRecS_zero a cap m w).mono ?_
    rintro e w' ⟨rfl, rfl⟩
    exact ⟨ret_int (by omega), Writes.refl _ _ _, h0, .inl rfl⟩
  · refine (markRecS_some n R b off cap lo hi m w hn hm1 hm2 hlo hhi hr).mono ?_
    rintro e w' ⟨rfl, hw, h1, h2⟩
    exact ⟨rfl, hw, Nat.le_trans h0 hw.size, .inr ⟨b, off, rfl, hlo, hhi, fun i hi => by have := h1 i hi; simpa [mkR, hi] using this, h2⟩⟩
/-! ### held -/
set_option maxHeartbeats 4000000 in
theorem heldRecS_some (n b off cap : Nat) (m : Int) (w : World) (hn : n ≤ 1048576) (hm1 : 0 ≤ m) (hm2 : m ≤ 8796093022208) (hc : ∀ i, i < n → C8 w b (off + i * 8) (mR m i)) :
    Calls Try.prog 52 #[.slice (some ⟨b, off, none⟩) n cap, .int .i64 m] w fun e w' => e = .returned (.int .i64 (m + n * 8)) ∧ w' = w := by
  have HC : Hid (∀ i, i < n → C8 w b (off + i * 8) (mR m i)) := hc
  clear hc
  go_enter Try.func52, Try.ntmps52
  go_wp2_with fail
  go_loop [1, 5] (fun q i => ∃ k : Nat, k ≤ n ∧ i = .int .i64 k ∧ q = .int .i64 (m + k * 8)) (fun _ i => n - (intOf i).toNat)
  case atStart => exact ⟨0, Nat.zero_le _, rfl, by go_num⟩
  case round =>
    obtain ⟨k, hk0, rfl, rfl⟩ := hrel
    by_cases hlt : k < n
    · obtain ⟨h0, h1, h2, h3, h4, h5, h6, h7⟩ := HC.out k hlt
      simp only [mR] at h0 h1 h2 h3 h4 h5 h6 h7
      have hk' : (k : Int) < (n : Int) := by omega
      have hk1 : (0 : Int) ≤ (k : Int) := by omega
      have g1 : IntKind.i64.wrap (m + k * 8 + 1) = m + k * 8 + 1 := by rw [IntKind.wrap_i64]; omega
      have g2 : IntKind.i64.wrap (m + k * 8 + 1 + 1) = m + k * 8 + 2 := by rw [IntKind.wrap_i64]; omega
      have g3 : IntKind.i64.wrap (m + k * 8 + 2 + 1) = m + k * 8 + 3 := by rw [IntKind.wrap_i64]; omega
      have g4 : IntKind.i64.wrap (m + k * 8 + 3 + 1) = m + k * 8 + 4 := by rw [IntKind.wrap_i64]; omega
      have g5 : IntKind.i64.wrap (m + k * 8 + 4 + 1) = m + k * 8 + 5 := by rw [IntKind.wrap_i64]; omega
      have g6 : IntKind.i64.wrap (m + k * 8 + 5 + 1) = m + k * 8 + 6 := by rw [IntKind.wrap_i64]; omega
      have g7 : IntKind.i64.wrap (m + k * 8 + 6 + 1) = m + k * 8 + 7 := by rw [IntKind.wrap_i64]; omega
      have g8 : IntKind.i64.wrap (m + k * 8 + 7 + 1) = m + k * 8 + 8 := by rw [IntKind.wrap_i64]; omega
      have e3 : (((m + k * 8) % 3 == 0) != ((m + k * 8) % 3 == 0)) = false := by simp
      have e5 : (((m + k * 8 + 5) % 3 == 0) != ((m + k * 8 + 5) % 3 == 0)) = false := by simp
      go_wp2_with fail
      go_round
      case rel => exact ⟨k + 1, hlt, by go_num, by go_num⟩
      case measure => simp [intOf]; omega
    · have hkn : k = n := by omega
      have hnl : ¬ ((k : Int) < (n : Int)) := by omega
      go_wp2_with fail
      go_ret
      exact ⟨rfl, rfl⟩
theorem heldRecS_zero (a : Option Addr) (cap : Nat) (m : Int) (w : World) : Calls Try.prog 52 #[.slice a 0 cap, .int .i64 m] w fun e w' => e = .returned (.int .i64 m) ∧ w' = w := by
  go_enter Try.func52, Try.ntmps52
  go_wp2
  go_loop [1, 5] (fun q i => q = .int .i64 m ∧ i = .int .i64 0) (fun _ _ => 0)
  case atStart => exact ⟨rfl, rfl⟩
  case round =>
    obtain ⟨rfl, rfl⟩ := hrel
    go_wp2
    go_ret
    exact ⟨rfl, rfl⟩
theorem heldRecS_any (n : Nat) (a : Option Addr) (cap : Nat) (m : Int) (w : World) (hn : n ≤ 1048576) (hm1 : 0 ≤ m) (hm2 : m ≤ 8796093022208) (h : RecsAt w a n (mR m)) :
    Calls Try.prog 52 #[.slice a n cap, .int .i64 m] w fun e w' => e = .returned (.int .i64 (m + n * 8)) ∧ w' = w := by
  rcases h with rfl | ⟨b, off, rfl, _, hc⟩
  · refine (heldRecS_zero a cap m w).mono ?_
    rintro e w' ⟨rfl, rfl⟩
    exact ⟨ret_int (by omega), rfl⟩
  · exact heldRecS_some n b off cap m w hn hm1 hm2 hc
/-! ### answers that are records -/
theorem eqRecsResult_same (c u : Int) (n : Nat) (R : Nat → Rc) (a a' : Option Addr) (cap cap' : Nat) (w : World) (hn : n ≤ 1048576) (h : RecsAt w a n R) (h' : RecsAt w a' n R) :
    Calls Try.prog 14 #[.agg #[.int .i64 c, .int .i64 u, .slice a n cap], .agg #[.int .i64 c, .int .i64 u, .slice a' n cap']] w fun e w' => e = .returned (.bool true) ∧ Below w.heap.size w w' := by
  go_enter Try.func14, Try.ntmps14
  go_wp2_with fail
  have hb0 : ∀ o1 o2, Below w.heap.size w ((w.alloc o1).alloc o2) := fun o1 o2 => ((Below.refl _ _).alloc (Nat.le_refl _) _).alloc (by simp) _
  refine (eqRecS_any n R a a' cap cap' _ hn (h.below (hb0 _ _)) (h'.below (hb0 _ _))).mono ?_
  rintro e w1 ⟨rfl, hb1⟩
  go_wp2_with fail
  go_ret
  exact ⟨rfl, below_then (hb0 _ _) hb1⟩
theorem markRecsResult_any (c u : Int) (n : Nat) (R : Nat → Rc) (a : Option Addr) (cap lo hi : Nat) (w : World) (hn : n ≤ 1048576) (h : Own8 w lo hi a n R) :
    Calls Try.prog 17 #[.agg #[.int .i64 c, .int .i64 u, .slice a n cap], .int .i64 1] w fun e w' => e = .returned (.int .i64 (1 + n * 8)) ∧ Writes lo hi w w' ∧ Own8 w' lo hi a n (mR 1) := by
  have HO : Hid (Own8 w lo hi a n R) := h
  clear h
  go_enter Try.func17, Try.ntmps17
  go_wp2_with fail
  refine (markRecS_any n R a cap lo hi 1 _ hn (by omega) (by omega) (HO.out.below (below_new _ _))).mono ?_
  rintro e w1 ⟨rfl, hw, ho⟩
  go_wp2_with fail
  go_ret
  exact ⟨rfl, (Writes.of_below (below_new _ _)).trans hw, ho⟩
theorem heldRecsResult_any (c u : Int) (n : Nat) (a : Option Addr) (cap : Nat) (w : World) (hn : n ≤ 1048576) (h : RecsAt w a n (mR 1)) :
    Calls Try.prog 18 #[.agg #[.int .i64 c, .int .i64 u, .slice a n cap], .int .i64 1] w fun e w' => e = .returned (.int .i64 (1 + n * 8)) ∧ Below w.heap.size w w' := by
  have HO : Hid (RecsAt w a n (mR 1)) := h
  have hneg : ¬ ((1 : Int) + (n : Int) * 8 < 0) := by omega
  clear h
  go_enter Try.func18, Try.ntmps18
  go_wp2_with fail
  refine (heldRecS_any n a cap 1 _ hn (by omega) (by omega) (HO.out.below (below_new _ _))).mono ?_
  rintro e w1 ⟨rfl, rfl⟩
  go_wp2_with fail
  go_ret
  exact ⟨rfl, below_new _ _⟩
/-! ### the records that bytes tell -/
def zR (z : Nat → Int) : Rc := ⟨num z 0 1, num z 1 2, num z 3 1, hdB z, num z 5 2, hsB z, num z 7 2, num z 9 2⟩
theorem rvs_len (z : Nat → Int) : ∀ k, (rvs z k).length = 8 * k
  | 0 => rfl
  | k + 1 => by simp only [rvs, List.length_append, rvs_len z k]; simp [rvl]; omega
theorem rvs_get (z : Nat → Int) : ∀ k i j, i < k → j < 8 → (rvs z k)[8 * i + j]? = (rvl (sh z (13 * i)))[j]?
  | 0, i, j, h, _ => by omega
  | k + 1, i, j, h, hj => by
    simp only [rvs]
    by_cases e : i = k
    · subst e
      rw [List.getElem?_append_right (by rw [rvs_len]; omega), rvs_len]
      congr 1; omega
    · rw [List.getElem?_append_left (by rw [rvs_len]; omega)]
      exact rvs_get z k i j (by omega) hj
theorem own8_of_row {w : World} {base n : Nat} {a : Option Addr} {cap : Nat} {z : Nat → Int} (h : w.ownsRow base 46 8 (.slice a n cap) n (rvs z n)) : Own8 w base w.heap.size a n (fun i => zR (sh z (13 * i))) := by
  rcases h.2 with ⟨e, h0⟩ | ⟨g, cap', cur, e, hbg, hg, _⟩
  · exact ⟨Nat.le_refl _, .inl h0⟩
  · simp only [Value.slice.injEq, true_and] at e
    obtain ⟨rfl, rfl⟩ := e
    have hlt : g < w.heap.size := by
      obtain ⟨hlt, _⟩ := Array.getElem?_eq_some_iff.1 hg
      exact hlt
    refine ⟨Nat.le_refl _, .inr ⟨g, 0, rfl, hbg, hlt, fun i hi => ?_, fun i => h.frozenAt _⟩⟩
    have c : ∀ j v, j < 8 → (rvl (sh z (13 * i)))[j]? = some v → w.cell? ⟨g, 0 + i * 8 + j, none⟩ = some v := fun j v hj hv => by
      rw [h.cellAt (0 + i * 8 + j) (by omega), show 0 + i * 8 + j = 8 * i + j by omega, rvs_get z n i j hi hj, hv]
    exact ⟨c 0 _ (by omega) rfl, c 1 _ (by omega) rfl, c 2 _ (by omega) rfl, c 3 _ (by omega) rfl, c 4 _ (by omega) rfl, c 5 _ (by omega) rfl, c 6 _ (by omega) rfl, c 7 _ (by omega) rfl⟩
end Go.Proofs.Ytdanabecpmhjhaa
