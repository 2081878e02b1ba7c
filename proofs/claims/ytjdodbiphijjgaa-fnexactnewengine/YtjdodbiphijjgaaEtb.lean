/- Transactions: equal, marked, held, opened. -/
import Derived.Test.YtjdodbiphijjgaaEta
namespace Go.Proofs.Ytjdodbiphijjgaa
open Go.ChangeShapes Go.WideShapes Go.ChangeAt Go.RowKit Go.Deep Go.Joins
set_option linter.unusedVariables false
set_option maxRecDepth 20000

/-! ### equal -/
theorem eqTxn_same (id am st dn : Int) (n : Nat) (R : Nat → Ud) (a a' : Option Addr) (cap cap' : Nat) (w : World) (hn : n ≤ 1048576) (h : UndsAt w a n R) (h' : UndsAt w a' n R) :
    Calls Try.prog 32 #[.agg #[.int .i64 id, .int .i64 am, .int .i64 st, .int .i64 dn, .slice a n cap], .agg #[.int .i64 id, .int .i64 am, .int .i64 st, .int .i64 dn, .slice a' n cap']] w fun e w' => e = .returned (.bool true) ∧ Below w.heap.size w w' := by
  have HA : Hid (UndsAt w a n R) := h
  have HA' : Hid (UndsAt w a' n R) := h'
  clear h h'
  go_enter Try.func32, Try.ntmps32
  go_wp2_with fail
  have hb0 : ∀ o1 o2, Below w.heap.size w ((w.alloc o1).alloc o2) := fun o1 o2 => (((Below.refl _ _).alloc (Nat.le_refl _) _).alloc (by simp) _)
  refine (eqUndoS_any n R a a' cap cap' _ hn (HA.out.below (hb0 _ _)) (HA'.out.below (hb0 _ _))).mono ?_
  rintro e w' ⟨rfl, hb⟩
  have HB : Hid (Below w.heap.size w w') := below_then (hb0 _ _) hb
  clear hb hb0
  go_wp2_with fail
  go_ret
  exact ⟨rfl, HB.out⟩
set_option maxHeartbeats 2000000 in
theorem eqTxnS_any (n : Nat) (T : Nat → Tx) (a a' : Option Addr) (cap cap' : Nat) (w : World) (hn : n ≤ 1048576) (hL : ∀ i, i < n → (T i).n ≤ 1048576) (h : TxsAt w a n T) (h' : TxsAt w a' n T) :
    Calls Try.prog 25 #[.slice a n cap, .slice a' n cap'] w fun e w' => e = .returned (.bool true) ∧ Below w.heap.size w w' := by
  have HL : Hid (∀ i, i < n → (T i).n ≤ 1048576) := hL
  have HA : Hid (TxsAt w a n T) := h
  have HA' : Hid (TxsAt w a' n T) := h'
  have hne : ((n : Int) != (n : Int)) = false := by simp
  clear hL h h'
  go_enter Try.func25, Try.ntmps25
  go_wp2_with fail
  go_loopw [5] (fun i wr => ∃ k : Nat, k ≤ n ∧ i = .int .i64 k ∧ Hid (Below w.heap.size w wr)) (fun i _ => n - (intOf i).toNat)
  case atStart => exact ⟨0, Nat.zero_le _, rfl, Below.refl _ _⟩
  case round =>
    obtain ⟨k, hk, rfl, HB⟩ := hrel
    by_cases hlt : k < n
    · have hlt' : (k : Int) < (n : Int) := by omega
      have hk0 : (0 : Int) ≤ (k : Int) := by omega
      rcases HA.out.below HB.out with h | ⟨b, off, rfl, hl, hc⟩
      · omega
      rcases HA'.out.below HB.out with h | ⟨b', off', rfl, hl', hc'⟩
      · omega
      obtain ⟨ai, ci, ⟨q0, q1, q2, q3, q4⟩, hy, -⟩ := hc k hlt
      obtain ⟨ai', ci', ⟨y0, y1, y2, y3, y4⟩, hy', -⟩ := hc' k hlt
      have HY : Hid (UndsAt wr ai (T k).n (T k).U) := hy
      have HY' : Hid (UndsAt wr ai' (T k).n (T k).U) := hy'
      have HN : Hid ((T k).n ≤ 1048576) := HL.out k hlt
      clear hc hc' hy hy'
      generalize T k = t at *
      go_wp2_with fail
      go_region_law (first | (go_simp; go_at_call 32; refine (eqTxn_same t.id t.am t.st t.dn t.n t.U ai ai' ci ci' _ HN.out (HY.out.below ((Below.refl _ _).drew)) (HY'.out.below ((Below.refl _ _).drew))).mono ?_; rintro e w1 ⟨rfl, hb1⟩; have HB1 : Hid (Below w.heap.size w w1) := below_then HB.out (drewB6 hb1)))
      all_goals
        go_wp2_with fail
        go_roundw
        case rel => exact ⟨k + 1, hlt, by go_num, HB1⟩
        case measure => simp [intOf]; omega
    · have hnl : ¬ ((k : Int) < (n : Int)) := by omega
      go_wp2_with fail
      go_ret
      exact ⟨rfl, HB.out⟩
/-! ### marked, held -/
def sTx (T : Nat → Tx) (i : Nat) : Nat := smf (fun i => (T i).n * 4 + 4) i
theorem sTx_eq (T : Nat → Tx) (i : Nat) : sTx T i = smTx T i * 4 + i * 4 := smf_add _ _ _ _
def mTx (m : Int) (T : Nat → Tx) (i : Nat) : Tx := ⟨m + sTx T i, m + sTx T i + 1, m + sTx T i + 2, m + sTx T i + 3, (T i).n, mU (m + sTx T i + 4)⟩
set_option maxHeartbeats 2000000 in
theorem markTxnS_any (n : Nat) (T : Nat → Tx) (a : Option Addr) (cap lo hi : Nat) (m : Int) (w : World) (hn : n ≤ 1048576) (hs : smTx T n ≤ 1048576) (hm1 : 0 ≤ m) (hm2 : m ≤ 16777216) (h : OwnTx w lo hi a n T) :
    Calls Try.prog 27 #[.slice a n cap, .int .i64 m] w fun e w' => e = .returned (.int .i64 (m + sTx T n)) ∧ Writes lo hi w w' ∧ OwnTx w' lo hi a n (mTx m T) := by
  have HO : Hid (OwnTx w lo hi a n T) := h
  clear h
  go_enter Try.func27, Try.ntmps27
  go_wp2
  go_loopw [1, 5] (fun q i wr => ∃ k : Nat, k ≤ n ∧ i = .int .i64 k ∧ q = .int .i64 (m + sTx T k) ∧ Hid (Writes lo hi w wr) ∧ Hid (OwnTx wr lo hi a n (pref (mTx m T) T k))) (fun _ i _ => n - (intOf i).toNat)
  case atStart => exact ⟨0, Nat.zero_le _, rfl, by simp [sTx, smf], Writes.refl _ _ _, by rw [pref_zero]; exact HO⟩
  case round =>
    obtain ⟨k, hk0, rfl, rfl, HB, HP⟩ := hrel
    by_cases hlt : k < n
    · obtain ⟨b, off, ai, ci, l, h, rfl, hb1, hb2, hf, hC, hci, hbd, hr, hO, hU⟩ := HP.out.pick hlt
      rw [pref_at] at hC hci hO hU
      have hLk := smf_ge (fun i => (T i).n) n k hlt
      have hsk := smf_le (fun i => (T i).n) (n := n) (i := k) (by omega)
      have hstep : (sTx T (k + 1) : Int) = sTx T k + (T k).n * 4 + 4 := by simp [sTx, smf]; omega
      have hbS : sTx T k = smTx T k * 4 + k * 4 := sTx_eq T k
      have HM : Hid (mTx m T k = ⟨m + sTx T k, m + sTx T k + 1, m + sTx T k + 2, m + sTx T k + 3, (T k).n, mU (m + sTx T k + 4)⟩) := rfl
      have hSb : (sTx T k : Int) ≤ 8388608 := by unfold smTx at *; omega
      have hS0 : 0 ≤ (sTx T k : Int) := by omega
      have hTk : (T k).n ≤ 1048576 := by unfold smTx at *; omega
      generalize hS : (sTx T k : Int) = S at *
      have HU : Hid (∀ t w1, t.n = (T k).n → Writes l h (hdTx wr b (off + k * 5) t) w1 → OwnU w1 l h ai t.n t.U → OwnTx w1 lo hi (some ⟨b, off, none⟩) n (upf (pref (mTx m T) T k) k t)) := hU
      have HO2 : Hid (OwnU (hdTx wr b (off + k * 5) ⟨m + S, m + S + 1, m + S + 2, m + S + 3, (T k).n, mU (m + S + 4)⟩) l h ai (T k).n (T k).U) := hO.writes (hdTx_writes (Writes.refl _ _ _) (Nat.le_refl _) (Nat.lt_succ_self _)) (by omega)
      have HG : Hid (lo ≤ b ∧ b < hi ∧ (b < l ∨ h ≤ b) ∧ (h = 0 ∨ lo ≤ l ∧ h ≤ hi)) := ⟨hb1, hb2, hbd, hr⟩
      obtain ⟨q0, q1, q2, q3, q4⟩ := hC
      have g1 : IntKind.i64.wrap (m + S + 1) = m + S + 1 := by rw [IntKind.wrap_i64]; omega
      have g2 : IntKind.i64.wrap (m + S + 1 + 1) = m + S + 2 := by rw [IntKind.wrap_i64]; omega
      have g3 : IntKind.i64.wrap (m + S + 2 + 1) = m + S + 3 := by rw [IntKind.wrap_i64]; omega
      have g4 : IntKind.i64.wrap (m + S + 3 + 1) = m + S + 4 := by rw [IntKind.wrap_i64]; omega
      clear HP hO hU hb1 hb2 hbd hr hbS hS hLk hsk
      go_wp2_with fail
      refine (markUndoS_any (T k).n (T k).U ai ci l h (m + S + 4) _ (by omega) (by omega) (by omega) HO2.out).mono ?_
      rintro e w1 ⟨rfl, hw, hr⟩
      have HW : Hid (Writes l h (hdTx wr b (off + k * 5) ⟨m + S, m + S + 1, m + S + 2, m + S + 3, (T k).n, mU (m + S + 4)⟩) w1) := hw
      have HR1 : Hid (OwnU w1 l h ai (T k).n (mU (m + S + 4))) := hr
      clear hw hr
      go_wp2_with fail
      go_roundw
      case rel =>
        have H := HU.out ⟨m + S, m + S + 1, m + S + 2, m + S + 3, (T k).n, mU (m + S + 4)⟩ w1 rfl HW.out HR1.out
        rw [← HM.out, pref_upf] at H
        obtain ⟨g1, g2, g3, g4⟩ := HG.out
        refine ⟨k + 1, hlt, by go_num, by rw [hstep]; go_num, HB.out.trans ((hdTx_writes (w := wr) (wr := wr) (b := b) (o := off + k * 5) (t := ⟨m + S, m + S + 1, m + S + 2, m + S + 3, (T k).n, mU (m + S + 4)⟩) (Writes.refl _ _ _) g1 g2).trans ?_), H⟩
        exact ⟨HW.out.os, HW.out.tape, HW.out.output, HW.out.size, fun q hq hd => HW.out.block q hq (by omega)⟩
      case measure => simp [intOf]; omega
    · have hkn : k = n := by omega
      have HO2 : Hid (OwnTx wr lo hi a n (mTx m T)) := HP.out.congr fun i hi => pref_lt _ _ (by omega)
      have hnl : ¬ ((k : Int) < (n : Int)) := by omega
      go_wp2_with fail
      go_ret
      exact ⟨ret_int (by first | rfl | rw [hkn]), HB.out, HO2.out⟩
set_option maxHeartbeats 2000000 in
theorem heldTxnS_any (n : Nat) (T : Nat → Tx) (a : Option Addr) (cap : Nat) (m : Int) (w : World) (hn : n ≤ 1048576) (hs : smTx T n ≤ 1048576) (hm1 : 0 ≤ m) (hm2 : m ≤ 16777216) (h : TxsAt w a n (mTx m T)) :
    Calls Try.prog 29 #[.slice a n cap, .int .i64 m] w fun e w' => e = .returned (.int .i64 (m + sTx T n)) ∧ w' = w := by
  have HA : Hid (TxsAt w a n (mTx m T)) := h
  clear h
  go_enter Try.func29, Try.ntmps29
  go_wp2
  go_loop [1, 5] (fun q i => ∃ k : Nat, k ≤ n ∧ i = .int .i64 k ∧ q = .int .i64 (m + sTx T k)) (fun _ i => n - (intOf i).toNat)
  case atStart => exact ⟨0, Nat.zero_le _, rfl, by simp [sTx, smf]⟩
  case round =>
    obtain ⟨k, hk0, rfl, rfl⟩ := hrel
    by_cases hlt : k < n
    · rcases HA.out with h | ⟨b, off, rfl, hl, hc⟩
      · omega
      obtain ⟨ai, ci, ⟨q0, q1, q2, q3, q4⟩, hy, -⟩ := hc k hlt
      unfold mTx at q0 q1 q2 q3 q4
      dsimp only at q0 q1 q2 q3 q4
      have HY : Hid (UndsAt w ai (T k).n (mU (m + sTx T k + 4))) := hy
      have hLk := smf_ge (fun i => (T i).n) n k hlt
      have hsk := smf_le (fun i => (T i).n) (n := n) (i := k) (by omega)
      have hstep : (sTx T (k + 1) : Int) = sTx T k + (T k).n * 4 + 4 := by simp [sTx, smf]; omega
      have hbS : sTx T k = smTx T k * 4 + k * 4 := sTx_eq T k
      have hSb : (sTx T k : Int) ≤ 8388608 := by unfold smTx at *; omega
      have hS0 : 0 ≤ (sTx T k : Int) := by omega
      have hTk : (T k).n ≤ 1048576 := by unfold smTx at *; omega
      generalize hS : (sTx T k : Int) = S at *
      have hneg : ¬ (m + S + 4 + ((T k).n : Int) * 4 < 0) := by omega
      have g1 : IntKind.i64.wrap (m + S + 1) = m + S + 1 := by rw [IntKind.wrap_i64]; omega
      have g2 : IntKind.i64.wrap (m + S + 1 + 1) = m + S + 2 := by rw [IntKind.wrap_i64]; omega
      have g3 : IntKind.i64.wrap (m + S + 2 + 1) = m + S + 3 := by rw [IntKind.wrap_i64]; omega
      have g4 : IntKind.i64.wrap (m + S + 3 + 1) = m + S + 4 := by rw [IntKind.wrap_i64]; omega
      clear hc hy hbS hS hLk hsk
      go_wp2_with fail
      refine (heldUndoS_any (T k).n ai ci (m + S + 4) _ (by omega) (by omega) (by omega) HY.out).mono ?_
      rintro e w' ⟨rfl, rfl⟩
      go_wp2_with fail
      go_round
      case rel => exact ⟨k + 1, hlt, by go_num, by rw [hstep]; go_num⟩
      case measure => simp [intOf]; omega
    · have hkn : k = n := by omega
      have hnl : ¬ ((k : Int) < (n : Int)) := by omega
      go_wp2_with fail
      go_ret
      exact ⟨ret_int (by first | rfl | rw [hkn]), rfl⟩
/-! ### opened -/
end Go.Proofs.Ytjdodbiphijjgaa
