/- Transactions: equal, marked, held, opened. -/
import Derived.Test.YtaelpjjabkkhcaaGreatDoorEta
namespace Go.Proofs.YtaelpjjabkkhcaaGreatDoor
open Go.ChangeShapes Go.WideShapes Go.ChangeAt Go.RowKit Go.Deep Go.Joins
set_option linter.unusedVariables false
set_option maxRecDepth 20000

theorem openUnds_cap {H : Type} {enc : TypeId × Value → H} {W : World} {fuel : Nat} {cs : List Value} {x : DataW H × List MemPlace}
    (h : DataW.trod enc Tryz.prog W 0 (fun _ => true) true fuel 61 cs = some x) :
    ∃ (a : Option Addr) (n cap : Nat) (R : Nat → Ud), cs = [.slice a n cap] ∧ n ≤ 9223372036854775807 ∧ UndsAt W a n R ∧ n ≤ cap := by
  rcases open_slice Tryz.underlying61 h with ⟨rfl, _⟩ | ⟨a, l, c, m, nn, D, Pl, rfl, _, hl, hm, hmm, _, hx⟩
  · exact ⟨none, 0, 0, fun _ => zU, rfl, by omega, .inl rfl, Nat.le_refl _⟩
  · have hmc : m = c := by simpa using hmm
    unfold maxLen at hm
    rw [cellsUnd] at hx
    have each : ∀ i, i < l → ∃ q : (Int × Bool) × (Bool × Int), W.cell? (a.add (i * 4)) = some (.int .i64 q.1.1) ∧ W.cell? (a.add (i * 4 + 1)) = some (.bool q.1.2) ∧ W.cell? (a.add (i * 4 + 2)) = some (.bool q.2.1) ∧ W.cell? (a.add (i * 4 + 3)) = some (.int .i64 q.2.2) := fun i hi => by
      obtain ⟨cs', h1, h2⟩ := hx i (by omega)
      obtain ⟨_, hlen, hcell⟩ := World.cells?_some h1
      obtain ⟨xs, k, hk, hxy, _, hxl, hf⟩ := DataW.trod_struct Tryz.underlying112 h2
      match xs, hxl, cs', hlen with
      | [y0, y1, y2, y3], _, [v0, v1, v2, v3], _ =>
        have g0 := hf 0 _ rfl
        have g1 := hf 1 _ rfl
        have g2 := hf 2 _ rfl
        have g3 := hf 3 _ rfl
        simp [cellsI, cellsB] at g0 g1 g2 g3
        have e0 := hcell 0 (by omega)
        have e1 := hcell 1 (by omega)
        have e2 := hcell 2 (by omega)
        have e3 := hcell 3 (by omega)
        rw [add_add] at e0 e1 e2 e3
        obtain ⟨z0, f0, _, _⟩ := DataW.trod_int Tryz.underlying2 g0
        obtain ⟨z1, f1, _⟩ := DataW.trod_bool Tryz.underlying4 g1
        obtain ⟨z2, f2, _⟩ := DataW.trod_bool Tryz.underlying4 g2
        obtain ⟨z3, f3, _, _⟩ := DataW.trod_int Tryz.underlying2 g3
        simp at f0 f1 f2 f3
        subst f0 f1 f2 f3
        exact ⟨((z0, z1), (z2, z3)), by simpa using e0, by simpa using e1, by simpa using e2, by simpa using e3⟩
    obtain ⟨q, hq⟩ := choose_lt each
    refine ⟨some a, l, c, fun i => ⟨(q i).1.1, (q i).1.2, (q i).2.1, (q i).2.2⟩, rfl, by omega, ?_, hl⟩
    by_cases hz0 : l = 0
    · exact .inl hz0
    · obtain ⟨b, off, spot⟩ := a
      have hc0 := (hq 0 (by omega)).1
      have hspot : spot = none := by simpa [Addr.add] using World.cell?_spot hc0
      subst hspot
      refine .inr ⟨b, off, rfl, Go.block_lt_of_cell hc0, fun i hi => ?_⟩
      obtain ⟨k0, k1, k2, k3⟩ := hq i hi
      rw [add_plain] at k0 k1 k2 k3
      exact ⟨k0, by rw [Nat.add_assoc]; exact k1, by rw [Nat.add_assoc]; exact k2, by rw [Nat.add_assoc]; exact k3⟩
/-! ### equal -/
theorem eqTxn_same (id am st dn : Int) (n : Nat) (R : Nat → Ud) (a a' : Option Addr) (cap cap' : Nat) (w : World) (hn : n ≤ 1048576) (h : UndsAt w a n R) (h' : UndsAt w a' n R) :
    Calls Tryz.prog 39 #[.agg #[.int .i64 id, .int .i64 am, .int .i64 st, .int .i64 dn, .slice a n cap], .agg #[.int .i64 id, .int .i64 am, .int .i64 st, .int .i64 dn, .slice a' n cap']] w fun e w' => e = .returned (.bool true) ∧ Below w.heap.size w w' := by
  have HA : Hid (UndsAt w a n R) := h
  have HA' : Hid (UndsAt w a' n R) := h'
  clear h h'
  go_enter Tryz.func39, Tryz.ntmps39
  go_wp2_with fail
  have hb0 : ∀ o1 o2, Below w.heap.size w ((w.alloc o1).alloc o2) := fun o1 o2 => (((Below.refl _ _).alloc (Nat.le_refl _) _).alloc (by simp) _)
  refine (eqUndoS_any n R a a' cap cap' _ hn (HA.out.below (hb0 _ _)) (HA'.out.below (hb0 _ _))).mono ?_
  rintro e w' ⟨rfl, hb⟩
  have HB : Hid (Below w.heap.size w w') := below_then (hb0 _ _) hb
  clear hb hb0
  go_wp2_with fail
  go_ret
  exact ⟨rfl, HB.out⟩
set_option maxHeartbeats 2000000 in
theorem eqTxnS_any (n : Nat) (T : Nat → Tx) (a a' : Option Addr) (cap cap' : Nat) (w : World) (hn : n ≤ 1048576) (hL : ∀ i, i < n → (T i).n ≤ 1048576) (h : TxsAt w a n T) (h' : TxsAt w a' n T) :
    Calls Tryz.prog 21 #[.slice a n cap, .slice a' n cap'] w fun e w' => e = .returned (.bool true) ∧ Below w.heap.size w w' := by
  have HL : Hid (∀ i, i < n → (T i).n ≤ 1048576) := hL
  have HA : Hid (TxsAt w a n T) := h
  have HA' : Hid (TxsAt w a' n T) := h'
  have hne : ((n : Int) != (n : Int)) = false := by simp
  clear hL h h'
  go_enter Tryz.func21, Tryz.ntmps21
  go_wp2_with fail
  go_loopw [5] (fun i wr => ∃ k : Nat, k ≤ n ∧ i = .int .i64 k ∧ Hid (Below w.heap.size w wr)) (fun i _ => n - (intOf i).toNat)
  case atStart => exact ⟨0, Nat.zero_le _, rfl, Below.refl _ _⟩
  case round =>
    obtain ⟨k, hk, rfl, HB⟩ := hrel
    by_cases hlt : k < n
    · have hlt' : (k : Int) < (n : Int) := by omega
      have hk0 : (0 : Int) ≤ (k : Int) := by omega
      rcases HA.out.below HB.out with h | ⟨b, off, rfl, hl, hc⟩
      · omega
      rcases HA'.out.below HB.out with h | ⟨b', off', rfl, hl', hc'⟩
      · omega
      obtain ⟨ai, ci, ⟨q0, q1, q2, q3, q4⟩, hy, -⟩ := hc k hlt
      obtain ⟨ai', ci', ⟨y0, y1, y2, y3, y4⟩, hy', -⟩ := hc' k hlt
      have HY : Hid (UndsAt wr ai (T k).n (T k).U) := hy
      have HY' : Hid (UndsAt wr ai' (T k).n (T k).U) := hy'
      have HN : Hid ((T k).n ≤ 1048576) := HL.out k hlt
      clear hc hc' hy hy'
      generalize T k = t at *
      go_wp2_with fail
      go_region_law (first | (go_simp; go_at_call 39; refine (eqTxn_same t.id t.am t.st t.dn t.n t.U ai ai' ci ci' _ HN.out (HY.out.below ((Below.refl _ _).drew)) (HY'.out.below ((Below.refl _ _).drew))).mono ?_; rintro e w1 ⟨rfl, hb1⟩; have HB1 : Hid (Below w.heap.size w w1) := below_then HB.out (drewB6 hb1)))
      all_goals
        go_wp2_with fail
        go_roundw
        case rel => exact ⟨k + 1, hlt, by go_num, HB1⟩
        case measure => simp [intOf]; omega
    · have hnl : ¬ ((k : Int) < (n : Int)) := by omega
      go_wp2_with fail
      go_ret
      exact ⟨rfl, HB.out⟩
/-! ### marked, held -/
def sTx (T : Nat → Tx) (i : Nat) : Nat := smf (fun i => (T i).n * 4 + 4) i
theorem sTx_eq (T : Nat → Tx) (i : Nat) : sTx T i = smTx T i * 4 + i * 4 := smf_add _ _ _ _
def mTx (m : Int) (T : Nat → Tx) (i : Nat) : Tx := ⟨m + sTx T i, m + sTx T i + 1, m + sTx T i + 2, m + sTx T i + 3, (T i).n, mU (m + sTx T i + 4)⟩
/-! ### opened -/
theorem cellsTx : Tryz.prog.cellsOf 63 = 5 := by kernel_rfl
theorem cellsInTx : Tryz.prog.cellsOf 61 = 1 := by kernel_rfl
theorem openTxs {H : Type} {enc : TypeId × Value → H} {W : World} {fuel : Nat} {cs : List Value} {x : DataW H × List MemPlace}
    (h : DataW.trod enc Tryz.prog W 0 (fun _ => true) true fuel 22 cs = some x) :
    ∃ (a : Option Addr) (n cap : Nat) (T : Nat → Tx), cs = [.slice a n cap] ∧ n ≤ 9223372036854775807 ∧ (∀ i, i < n → (T i).n ≤ 9223372036854775807) ∧ TxsAt W a n T := by
  rcases open_slice Tryz.underlying22 h with ⟨rfl, _⟩ | ⟨a, l, c, m, nn, D, Pl, rfl, _, hl, hm, hmm, _, hx⟩
  · exact ⟨none, 0, 0, fun _ => zTx, rfl, by omega, fun i hi => by omega, .inl rfl⟩
  · have hmc : m = c := by simpa using hmm
    unfold maxLen at hm
    rw [cellsTx] at hx
    have each : ∀ i, i < l → ∃ q : (Int × Int × Int × Int) × (Option Addr × Nat) × (Nat × (Nat → Ud)), W.cell? (a.add (i * 5)) = some (.int .i64 q.1.1) ∧ W.cell? (a.add (i * 5 + 1)) = some (.int .i64 q.1.2.1) ∧ W.cell? (a.add (i * 5 + 2)) = some (.int .i64 q.1.2.2.1) ∧ W.cell? (a.add (i * 5 + 3)) = some (.int .i64 q.1.2.2.2) ∧ W.cell? (a.add (i * 5 + 4)) = some (.slice q.2.1.1 q.2.2.1 q.2.1.2) ∧ q.2.2.1 ≤ 9223372036854775807 ∧ UndsAt W q.2.1.1 q.2.2.1 q.2.2.2 ∧ q.2.2.1 ≤ q.2.1.2 := fun i hi => by
      obtain ⟨cs', h1, h2⟩ := hx i (by omega)
      obtain ⟨_, hlen, hcell⟩ := World.cells?_some h1
      obtain ⟨xs, k, hk, hxy, _, hxl, hf⟩ := DataW.trod_struct Tryz.underlying63 h2
      match xs, hxl, cs', hlen with
      | [y0, y1, y2, y3, y4], _, [v0, v1, v2, v3, v4], _ =>
        have g0 := hf 0 _ rfl
        have g1 := hf 1 _ rfl
        have g2 := hf 2 _ rfl
        have g3 := hf 3 _ rfl
        have g4 := hf 4 _ rfl
        simp [cellsI, cellsInTx] at g0 g1 g2 g3 g4
        have e0 := hcell 0 (by omega)
        have e1 := hcell 1 (by omega)
        have e2 := hcell 2 (by omega)
        have e3 := hcell 3 (by omega)
        have e4 := hcell 4 (by omega)
        rw [add_add] at e0 e1 e2 e3 e4
        obtain ⟨z0, f0, _, _⟩ := DataW.trod_int Tryz.underlying2 g0
        obtain ⟨z1, f1, _, _⟩ := DataW.trod_int Tryz.underlying2 g1
        obtain ⟨z2, f2, _, _⟩ := DataW.trod_int Tryz.underlying2 g2
        obtain ⟨z3, f3, _, _⟩ := DataW.trod_int Tryz.underlying2 g3
        obtain ⟨a', n', c', z', f4, k1, k2, k4⟩ := openUnds_cap g4
        simp at f0 f1 f2 f3 f4
        subst f0 f1 f2 f3 f4
        exact ⟨((z0, z1, z2, z3), (a', c'), (n', z')), by simpa using e0, by simpa using e1, by simpa using e2, by simpa using e3, by simpa using e4, k1, k2, k4⟩
    have nonE : Inhabited Ud := ⟨zU⟩
    obtain ⟨q, hq⟩ := choose_lt each
    refine ⟨some a, l, c, fun i => ⟨(q i).1.1, (q i).1.2.1, (q i).1.2.2.1, (q i).1.2.2.2, (q i).2.2.1, (q i).2.2.2⟩, rfl, by omega, fun i hi => (hq i hi).2.2.2.2.2.1, ?_⟩
    by_cases hz0 : l = 0
    · exact .inl hz0
    · obtain ⟨b, off, spot⟩ := a
      have hc0 := (hq 0 (by omega)).1
      have hspot : spot = none := by simpa [Addr.add] using World.cell?_spot hc0
      subst hspot
      refine .inr ⟨b, off, rfl, Go.block_lt_of_cell hc0, fun i hi => ?_⟩
      obtain ⟨k0, k1, k2, k3, k4, _, kb, kc⟩ := hq i hi
      rw [add_plain] at k0 k1 k2 k3 k4
      exact ⟨(q i).2.1.1, (q i).2.1.2, ⟨k0, by rw [Nat.add_assoc]; exact k1, by rw [Nat.add_assoc]; exact k2, by rw [Nat.add_assoc]; exact k3, by rw [Nat.add_assoc]; exact k4⟩, kb, kc⟩
end Go.Proofs.YtaelpjjabkkhcaaGreatDoor
