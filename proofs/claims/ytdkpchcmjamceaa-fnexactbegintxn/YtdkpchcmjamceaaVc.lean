/- Rows of versions: marked, held; answers that are chains; arguments that are chains and views, opened. -/
import Derived.Test.YtdkpchcmjamceaaVb
namespace Go.Proofs.Ytdkpchcmjamceaa
open Go.ChangeShapes Go.WideShapes Go.ChangeAt Go.RowKit Go.Deep Go.Joins
set_option linter.unusedVariables false
set_option maxRecDepth 20000

def mV (m : Int) (i : Nat) : Vr := ⟨m + i * 4, m + i * 4 + 1, (m + i * 4 + 2) % 3 == 0, m + i * 4 + 3⟩
def mkV (m : Int) (R : Nat → Vr) (j i : Nat) : Vr := if i < j then mV m i else R i
theorem mkV_step (m : Int) (R : Nat → Vr) (k i : Nat) : (if i = k then mV m k else mkV m R k i) = mkV m R (k + 1) i := by
  unfold mkV
  by_cases e : i = k
  · subst e; simp
  · rw [if_neg e]
    have : (i < k + 1) ↔ (i < k) := by omega
    simp only [this]
set_option maxHeartbeats 4000000 in
theorem markVersionS_some (n : Nat) (R : Nat → Vr) (b off cap lo hi : Nat) (m : Int) (w : World) (hn : n ≤ 1048576) (hm1 : 0 ≤ m) (hm2 : m ≤ 8796093022208) (hlo : lo ≤ b) (hhi : b < hi) (hr : Row4 w b off n R) :
    Calls Try.prog 20 #[.slice (some ⟨b, off, none⟩) n cap, .int .i64 m] w fun e w' =>
      e = .returned (.int .i64 (m + n * 4)) ∧ Writes lo hi w w' ∧ Row4 w' b off n (mkV m R n) := by
  have HR0 : Hid (Row4 w b off n (mkV m R 0)) := ⟨fun i h => by have := hr.1 i h; simpa [mkV] using this, hr.2⟩
  clear hr
  go_enter Try.func20, Try.ntmps20
  go_wp2_with fail
  go_loopw [1, 5] (fun q i wr => ∃ k : Nat, k ≤ n ∧ i = .int .i64 k ∧ q = .int .i64 (m + k * 4) ∧ Hid (Writes lo hi w wr) ∧ Hid (Row4 wr b off n (mkV m R k))) (fun _ i _ => n - (intOf i).toNat)
  case atStart => exact ⟨0, Nat.zero_le _, rfl, by go_num, Writes.refl _ _ _, HR0⟩
  case round =>
    obtain ⟨k, hk0, rfl, rfl, HB, HR⟩ := hrel
    by_cases hlt : k < n
    · obtain ⟨h0, h1, h2, h3⟩ := HR.out.1 k hlt
      have hf := HR.out.2
      generalize mkV m R k k = r at *
      have hk' : (k : Int) < (n : Int) := by omega
      have hk1 : (0 : Int) ≤ (k : Int) := by omega
      have g1 : IntKind.i64.wrap (m + k * 4 + 1) = m + k * 4 + 1 := by rw [IntKind.wrap_i64]; omega
      have g2 : IntKind.i64.wrap (m + k * 4 + 1 + 1) = m + k * 4 + 2 := by rw [IntKind.wrap_i64]; omega
      have g3 : IntKind.i64.wrap (m + k * 4 + 2 + 1) = m + k * 4 + 3 := by rw [IntKind.wrap_i64]; omega
      have g4 : IntKind.i64.wrap (m + k * 4 + 3 + 1) = m + k * 4 + 4 := by rw [IntKind.wrap_i64]; omega
      go_wp2_with fail
      go_roundw
      case rel => exact ⟨k + 1, hlt, by go_num, by go_num, set4_writes (r := mV m k) (o := off + k * 4) HB.out hlo hhi, row4_congr (row4_set (r := mV m k) hlt HR.out) (fun i _ => mkV_step m R k i)⟩
      case measure => simp [intOf]; omega
    · have hkn : k = n := by omega
      have HR1 : Hid (Row4 wr b off n (mkV m R n)) := by have h := HR.out; rw [hkn] at h; exact h
      have hnl : ¬ ((k : Int) < (n : Int)) := by omega
      go_wp2_with fail
      go_ret
      exact ⟨rfl, HB.out, HR1.out⟩
theorem markVersionS_zero (a : Option Addr) (cap : Nat) (m : Int) (w : World) : Calls Try.prog 20 #[.slice a 0 cap, .int .i64 m] w fun e w' => e = .returned (.int .i64 m) ∧ w' = w := by
  go_enter Try.func20, Try.ntmps20
  go_wp2
  go_loop [1, 5] (fun q i => q = .int .i64 m ∧ i = .int .i64 0) (fun _ _ => 0)
  case atStart => exact ⟨rfl, rfl⟩
  case round =>
    obtain ⟨rfl, rfl⟩ := hrel
    go_wp2
    go_ret
    exact ⟨rfl, rfl⟩
theorem markVersionS_any (n : Nat) (R : Nat → Vr) (a : Option Addr) (cap lo hi : Nat) (m : Int) (w : World) (hn : n ≤ 1048576) (hm1 : 0 ≤ m) (hm2 : m ≤ 8796093022208) (h : Own4 w lo hi a n R) :
    Calls Try.prog 20 #[.slice a n cap, .int .i64 m] w fun e w' => e = .returned (.int .i64 (m + n * 4)) ∧ Writes lo hi w w' ∧ Own4 w' lo hi a n (mV m) := by
  obtain ⟨h0, rfl | ⟨b, off, rfl, hlo, hhi, hr⟩⟩ := h
  · refine (markVersionS_zero a cap m w).mono ?_
    rintro e w' ⟨rfl, rfl⟩
    exact ⟨ret_int (by omega), Writes.refl _ _ _, h0, .inl rfl⟩
  · refine (markVersionS_some n R b off cap lo hi m w hn hm1 hm2 hlo hhi hr).mono ?_
    rintro e w' ⟨rfl, hw, h1, h2⟩
    exact ⟨rfl, hw, Nat.le_trans h0 hw.size, .inr ⟨b, off, rfl, hlo, hhi, fun i hi => by have := h1 i hi; simpa [mkV, hi] using this, h2⟩⟩
/-! ### held -/
set_option maxHeartbeats 4000000 in
theorem heldVersionS_some (n b off cap : Nat) (m : Int) (w : World) (hn : n ≤ 1048576) (hm1 : 0 ≤ m) (hm2 : m ≤ 8796093022208) (hc : ∀ i, i < n → C4 w b (off + i * 4) (mV m i)) :
    Calls Try.prog 71 #[.slice (some ⟨b, off, none⟩) n cap, .int .i64 m] w fun e w' => e = .returned (.int .i64 (m + n * 4)) ∧ w' = w := by
  have HC : Hid (∀ i, i < n → C4 w b (off + i * 4) (mV m i)) := hc
  clear hc
  go_enter Try.func71, Try.ntmps71
  go_wp2_with fail
  go_loop [1, 5] (fun q i => ∃ k : Nat, k ≤ n ∧ i = .int .i64 k ∧ q = .int .i64 (m + k * 4)) (fun _ i => n - (intOf i).toNat)
  case atStart => exact ⟨0, Nat.zero_le _, rfl, by go_num⟩
  case round =>
    obtain ⟨k, hk0, rfl, rfl⟩ := hrel
    by_cases hlt : k < n
    · obtain ⟨h0, h1, h2, h3⟩ := HC.out k hlt
      simp only [mV] at h0 h1 h2 h3
      have hk' : (k : Int) < (n : Int) := by omega
      have hk1 : (0 : Int) ≤ (k : Int) := by omega
      have g1 : IntKind.i64.wrap (m + k * 4 + 1) = m + k * 4 + 1 := by rw [IntKind.wrap_i64]; omega
      have g2 : IntKind.i64.wrap (m + k * 4 + 1 + 1) = m + k * 4 + 2 := by rw [IntKind.wrap_i64]; omega
      have g3 : IntKind.i64.wrap (m + k * 4 + 2 + 1) = m + k * 4 + 3 := by rw [IntKind.wrap_i64]; omega
      have g4 : IntKind.i64.wrap (m + k * 4 + 3 + 1) = m + k * 4 + 4 := by rw [IntKind.wrap_i64]; omega
      have e3 : (((m + k * 4 + 2) % 3 == 0) != ((m + k * 4 + 2) % 3 == 0)) = false := by simp
      go_wp2_with fail
      go_round
      case rel => exact ⟨k + 1, hlt, by go_num, by go_num⟩
      case measure => simp [intOf]; omega
    · have hkn : k = n := by omega
      have hnl : ¬ ((k : Int) < (n : Int)) := by omega
      go_wp2_with fail
      go_ret
      exact ⟨rfl, rfl⟩
theorem heldVersionS_zero (a : Option Addr) (cap : Nat) (m : Int) (w : World) : Calls Try.prog 71 #[.slice a 0 cap, .int .i64 m] w fun e w' => e = .returned (.int .i64 m) ∧ w' = w := by
  go_enter Try.func71, Try.ntmps71
  go_wp2
  go_loop [1, 5] (fun q i => q = .int .i64 m ∧ i = .int .i64 0) (fun _ _ => 0)
  case atStart => exact ⟨rfl, rfl⟩
  case round =>
    obtain ⟨rfl, rfl⟩ := hrel
    go_wp2
    go_ret
    exact ⟨rfl, rfl⟩
theorem heldVersionS_any (n : Nat) (a : Option Addr) (cap : Nat) (m : Int) (w : World) (hn : n ≤ 1048576) (hm1 : 0 ≤ m) (hm2 : m ≤ 8796093022208) (h : VersAt w a n (mV m)) :
    Calls Try.prog 71 #[.slice a n cap, .int .i64 m] w fun e w' => e = .returned (.int .i64 (m + n * 4)) ∧ w' = w := by
  rcases h with rfl | ⟨b, off, rfl, _, hc⟩
  · refine (heldVersionS_zero a cap m w).mono ?_
    rintro e w' ⟨rfl, rfl⟩
    exact ⟨ret_int (by omega), rfl⟩
  · exact heldVersionS_some n b off cap m w hn hm1 hm2 hc
/-! ### answers that are chains -/
theorem eqChainResult_same (c : Int) (n : Nat) (R : Nat → Vr) (a a' : Option Addr) (cap cap' : Nat) (w : World) (hn : n ≤ 1048576) (h : VersAt w a n R) (h' : VersAt w a' n R) :
    Calls Try.prog 18 #[.agg #[.int .i64 c, .slice a n cap], .agg #[.int .i64 c, .slice a' n cap']] w fun e w' => e = .returned (.bool true) ∧ Below w.heap.size w w' := by
  go_enter Try.func18, Try.ntmps18
  go_wp2_with fail
  have hb0 : ∀ o1 o2, Below w.heap.size w ((w.alloc o1).alloc o2) := fun o1 o2 => ((Below.refl _ _).alloc (Nat.le_refl _) _).alloc (by simp) _
  refine (eqVersionS_any n R a a' cap cap' _ hn (h.below (hb0 _ _)) (h'.below (hb0 _ _))).mono ?_
  rintro e w1 ⟨rfl, hb1⟩
  go_wp2_with fail
  go_ret
  exact ⟨rfl, below_then (hb0 _ _) hb1⟩
theorem markChainResult_any (c : Int) (n : Nat) (R : Nat → Vr) (a : Option Addr) (cap lo hi : Nat) (w : World) (hn : n ≤ 1048576) (h : Own4 w lo hi a n R) :
    Calls Try.prog 21 #[.agg #[.int .i64 c, .slice a n cap], .int .i64 1] w fun e w' => e = .returned (.int .i64 (1 + n * 4)) ∧ Writes lo hi w w' ∧ Own4 w' lo hi a n (mV 1) := by
  have HO : Hid (Own4 w lo hi a n R) := h
  clear h
  go_enter Try.func21, Try.ntmps21
  go_wp2_with fail
  refine (markVersionS_any n R a cap lo hi 1 _ hn (by omega) (by omega) (HO.out.below (below_new _ _))).mono ?_
  rintro e w1 ⟨rfl, hw, ho⟩
  go_wp2_with fail
  go_ret
  exact ⟨rfl, (Writes.of_below (below_new _ _)).trans hw, ho⟩
theorem heldChainResult_any (c : Int) (n : Nat) (a : Option Addr) (cap : Nat) (w : World) (hn : n ≤ 1048576) (h : VersAt w a n (mV 1)) :
    Calls Try.prog 22 #[.agg #[.int .i64 c, .slice a n cap], .int .i64 1] w fun e w' => e = .returned (.int .i64 (1 + n * 4)) ∧ Below w.heap.size w w' := by
  have HO : Hid (VersAt w a n (mV 1)) := h
  have hneg : ¬ ((1 : Int) + (n : Int) * 4 < 0) := by omega
  clear h
  go_enter Try.func22, Try.ntmps22
  go_wp2_with fail
  refine (heldVersionS_any n a cap 1 _ hn (by omega) (by omega) (HO.out.below (below_new _ _))).mono ?_
  rintro e w1 ⟨rfl, rfl⟩
  go_wp2_with fail
  go_ret
  exact ⟨rfl, below_new _ _⟩
theorem eqIntResult_same (c v : Int) (w : World) :
    Calls Try.prog 47 #[.agg #[.int .i64 c, .int .i64 v], .agg #[.int .i64 c, .int .i64 v]] w fun e w' => e = .returned (.bool true) ∧ Below w.heap.size w w' := by
  have hb0 : ∀ o1 o2, Below w.heap.size w ((w.alloc o1).alloc o2) := fun o1 o2 => ((Below.refl _ _).alloc (Nat.le_refl _) _).alloc (by simp) _
  go_enter Try.func47, Try.ntmps47
  go_wp2_with fail
  go_ret
  exact ⟨rfl, hb0 _ _⟩
/-! ### arguments, opened -/
theorem cellsVer : Try.prog.cellsOf 93 = 4 := by kernel_rfl
theorem cellsView : Try.prog.cellsOf 24 = 2 := by kernel_rfl
theorem cellsI : Try.prog.cellsOf 2 = 1 := by kernel_rfl
theorem cellsB : Try.prog.cellsOf 4 = 1 := by kernel_rfl
theorem openVers {H : Type} {enc : TypeId × Value → H} {W : World} {fuel : Nat} {cs : List Value} {x : DataW H × List MemPlace}
    (h : DataW.trod enc Try.prog W 0 (fun _ => true) true fuel 22 cs = some x) :
    ∃ (a : Option Addr) (n cap : Nat) (R : Nat → Vr), cs = [.slice a n cap] ∧ n ≤ 9223372036854775807 ∧ VersAt W a n R := by
  rcases open_slice Try.underlying22 h with ⟨rfl, _⟩ | ⟨a, l, c, m, nn, D, Pl, rfl, _, hl, hm, hmm, _, hx⟩
  · exact ⟨none, 0, 0, fun _ => zV, rfl, by omega, .inl rfl⟩
  · have hmc : m = c := by simpa using hmm
    unfold maxLen at hm
    rw [cellsVer] at hx
    have each : ∀ i, i < l → ∃ q : (Int × Int) × (Bool × Int), W.cell? (a.add (i * 4)) = some (.int .i64 q.1.1) ∧ W.cell? (a.add (i * 4 + 1)) = some (.int .i64 q.1.2) ∧ W.cell? (a.add (i * 4 + 2)) = some (.bool q.2.1) ∧ W.cell? (a.add (i * 4 + 3)) = some (.int .i64 q.2.2) := fun i hi => by
      obtain ⟨cs', h1, h2⟩ := hx i (by omega)
      obtain ⟨_, hlen, hcell⟩ := World.cells?_some h1
      obtain ⟨xs, k, hk, hxy, _, hxl, hf⟩ := DataW.trod_struct Try.underlying93 h2
      match xs, hxl, cs', hlen with
      | [y0, y1, y2, y3], _, [v0, v1, v2, v3], _ =>
        have g0 := hf 0 _ rfl
        have g1 := hf 1 _ rfl
        have g2 := hf 2 _ rfl
        have g3 := hf 3 _ rfl
        simp [cellsI, cellsB] at g0 g1 g2 g3
        have e0 := hcell 0 (by omega)
        have e1 := hcell 1 (by omega)
        have e2 := hcell 2 (by omega)
        have e3 := hcell 3 (by omega)
        rw [add_add] at e0 e1 e2 e3
        obtain ⟨z0, f0, _, _⟩ := DataW.trod_int Try.underlying2 g0
        obtain ⟨z1, f1, _, _⟩ := DataW.trod_int Try.underlying2 g1
        obtain ⟨z2, f2, _⟩ := DataW.trod_bool Try.underlying4 g2
        obtain ⟨z3, f3, _, _⟩ := DataW.trod_int Try.underlying2 g3
        simp at f0 f1 f2 f3
        subst f0 f1 f2 f3
        exact ⟨((z0, z1), (z2, z3)), by simpa using e0, by simpa using e1, by simpa using e2, by simpa using e3⟩
    obtain ⟨q, hq⟩ := choose_lt each
    refine ⟨some a, l, c, fun i => ⟨(q i).1.1, (q i).1.2, (q i).2.1, (q i).2.2⟩, rfl, by omega, ?_⟩
    by_cases hz0 : l = 0
    · exact .inl hz0
    · obtain ⟨b, off, spot⟩ := a
      have hc0 := (hq 0 (by omega)).1
      have hspot : spot = none := by simpa [Addr.add] using World.cell?_spot hc0
      subst hspot
      refine .inr ⟨b, off, rfl, Go.block_lt_of_cell hc0, fun i hi => ?_⟩
      obtain ⟨k0, k1, k2, k3⟩ := hq i hi
      rw [add_plain] at k0 k1 k2 k3
      exact ⟨k0, by rw [Nat.add_assoc]; exact k1, by rw [Nat.add_assoc]; exact k2, by rw [Nat.add_assoc]; exact k3⟩
theorem openView {H : Type} {enc : TypeId × Value → H} {W : World} {r : Reach} {b0 : Nat} {v : Value} {d : DataW H} {p : List MemPlace}
    (hv : Value.okWide Try.prog W r b0 24 v) (h : DataW.Trod enc Try.prog W 0 (fun _ => true) true 24 v d p) :
    ∃ (x o : Int), v = .agg #[.int .i64 x, .int .i64 o] := by
  obtain ⟨c0, c1, y0, y1, m, rfl, rfl, rfl, h0, h1⟩ := open_agg2 Try.underlying24 (by kernel_rfl) cellsView hv h
  obtain ⟨x0, e0, _, _⟩ := DataW.trod_int Try.underlying2 h0
  obtain ⟨x1, e1, _, _⟩ := DataW.trod_int Try.underlying2 h1
  simp at e0 e1
  subst e0 e1
  exact ⟨x0, x1, rfl⟩
end Go.Proofs.Ytdkpchcmjamceaa
