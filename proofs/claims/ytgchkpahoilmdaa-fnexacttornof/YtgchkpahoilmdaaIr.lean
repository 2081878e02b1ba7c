/- Answers that are a list of numbers: equal, marked, held; rows of numbers that are appended. -/
import Derived.Test.YtgchkpahoilmdaaIa
namespace Go.Proofs.Ytgchkpahoilmdaa
open Go.RowKit Go.Deep
set_option linter.unusedVariables false
set_option maxRecDepth 20000

set_option maxHeartbeats 400000 in
theorem heldInt64S_some (n b off cap : Nat) (m : Int) (w : World) (hn : n ≤ 1048576) (hm1 : 0 ≤ m) (hm2 : m ≤ 8796093022208) (hc : ∀ i, i < n → w.cell? ⟨b, off + i, none⟩ = some (.int .i64 (ik m i))) :
    Calls Try.prog 70 #[.slice (some ⟨b, off, none⟩) n cap, .int .i64 m] w fun e w' => e = .returned (.int .i64 (m + n)) ∧ w' = w := by
  go_enter Try.func70, Try.ntmps70
  go_wp2
  go_loop [1, 5] (fun q i => ∃ k : Nat, k ≤ n ∧ i = .int .i64 k ∧ q = .int .i64 (m + k)) (fun _ i => n - (intOf i).toNat)
  case atStart => exact ⟨0, Nat.zero_le _, rfl, by go_num⟩
  case round =>
    obtain ⟨k, hk0, rfl, rfl⟩ := hrel
    by_cases hlt : k < n
    · have h1 : w.cell? ⟨b, off + k, none⟩ = some (.int .i64 (m + k)) := hc k hlt
      have hw : IntKind.i64.wrap (m + k) = m + k := by rw [IntKind.wrap_i64]; omega
      clear hc
      go_wp2
      go_round
      case rel => exact ⟨k + 1, hlt, by go_num, by go_num⟩
      case measure => simp [intOf]; omega
    · have hkn : k = n := by omega
      clear hc
      go_wp2
      go_ret
      exact ⟨rfl, rfl⟩
theorem heldInt64S_zero (a : Option Addr) (cap : Nat) (m : Int) (w : World) : Calls Try.prog 70 #[.slice a 0 cap, .int .i64 m] w fun e w' => e = .returned (.int .i64 m) ∧ w' = w := by
  go_enter Try.func70, Try.ntmps70
  go_wp2
  go_loop [1, 5] (fun q i => q = .int .i64 m ∧ i = .int .i64 0) (fun _ _ => 0)
  case atStart => exact ⟨rfl, rfl⟩
  case round =>
    obtain ⟨rfl, rfl⟩ := hrel
    go_wp2
    go_ret
    exact ⟨rfl, rfl⟩
theorem heldInt64S_any (n : Nat) (a : Option Addr) (cap : Nat) (m : Int) (w : World) (hn : n ≤ 1048576) (hm1 : 0 ≤ m) (hm2 : m ≤ 8796093022208) (h : IntsAt w a n (ik m)) :
    Calls Try.prog 70 #[.slice a n cap, .int .i64 m] w fun e w' => e = .returned (.int .i64 (m + n)) ∧ w' = w := by
  rcases h with rfl | ⟨b, off, rfl, _, hc⟩
  · refine (heldInt64S_zero a cap m w).mono ?_
    rintro e w' ⟨rfl, rfl⟩
    exact ⟨ret_int (by omega), rfl⟩
  · exact heldInt64S_some n b off cap m w hn hm1 hm2 hc
theorem eqIntsResult_same (c : Int) (n : Nat) (z : Nat → Int) (a a' : Option Addr) (cap cap' : Nat) (w : World) (hn : n ≤ 1048576) (h : IntsAt w a n z) (h' : IntsAt w a' n z) :
    Calls Try.prog 29 #[.agg #[.int .i64 c, .slice a n cap], .agg #[.int .i64 c, .slice a' n cap']] w fun e w' => e = .returned (.bool true) ∧ Below w.heap.size w w' := by
  go_enter Try.func29, Try.ntmps29
  go_wp2_with fail
  have hb0 : ∀ o1 o2, Below w.heap.size w ((w.alloc o1).alloc o2) := fun o1 o2 => ((Below.refl _ _).alloc (Nat.le_refl _) _).alloc (by simp) _
  refine (eqInt64S_any n z a a' cap cap' _ hn (h.below (hb0 _ _)) (h'.below (hb0 _ _))).mono ?_
  rintro e w1 ⟨rfl, hb1⟩
  go_wp2_with fail
  go_ret
  exact ⟨rfl, below_then (hb0 _ _) hb1⟩
theorem markIntsResult_any (c : Int) (n : Nat) (z : Nat → Int) (a : Option Addr) (cap lo hi : Nat) (w : World) (hn : n ≤ 1048576) (h : OwnI w lo hi a n z) :
    Calls Try.prog 30 #[.agg #[.int .i64 c, .slice a n cap], .int .i64 1] w fun e w' => e = .returned (.int .i64 (1 + n)) ∧ Writes lo hi w w' ∧ OwnI w' lo hi a n (ik 1) := by
  have HO : Hid (OwnI w lo hi a n z) := h
  clear h
  go_enter Try.func30, Try.ntmps30
  go_wp2_with fail
  refine (markInt64S_any n z a cap lo hi 1 _ hn (by omega) (by omega) (HO.out.below (below_new _ _))).mono ?_
  rintro e w1 ⟨rfl, hw, ho⟩
  go_wp2_with fail
  go_ret
  exact ⟨rfl, (Writes.of_below (below_new _ _)).trans hw, ho⟩
theorem heldIntsResult_any (c : Int) (n : Nat) (a : Option Addr) (cap : Nat) (w : World) (hn : n ≤ 1048576) (h : IntsAt w a n (ik 1)) :
    Calls Try.prog 31 #[.agg #[.int .i64 c, .slice a n cap], .int .i64 1] w fun e w' => e = .returned (.int .i64 (1 + n)) ∧ Below w.heap.size w w' := by
  have HO : Hid (IntsAt w a n (ik 1)) := h
  have hneg : ¬ ((1 : Int) + (n : Int) < 0) := by omega
  clear h
  go_enter Try.func31, Try.ntmps31
  go_wp2_with fail
  refine (heldInt64S_any n a cap 1 _ hn (by omega) (by omega) (HO.out.below (below_new _ _))).mono ?_
  rintro e w1 ⟨rfl, rfl⟩
  go_wp2_with fail
  go_ret
  exact ⟨rfl, below_new _ _⟩
/-! ### a list of numbers that grows -/
def il (zs : List Int) : List Value := zs.map (Value.int .i64)
theorem il_len (zs : List Int) : (il zs).length = zs.length := by simp [il]
theorem il_app (zs ys : List Int) : il (zs ++ ys) = il zs ++ il ys := by simp [il]
def zI (zs : List Int) (i : Nat) : Int := zs.getD i 0
theorem ownI_of_row {w : World} {base : Nat} {v : Value} {zs : List Int} (h : w.ownsRow base 2 1 v zs.length (il zs)) : ∃ a cap, v = .slice a zs.length cap ∧ OwnI w base w.heap.size a zs.length (zI zs) := by
  rcases h.2 with ⟨rfl, h0⟩ | ⟨g, cap, cur, rfl, hbg, hg, hnc, hcm, hcs, htake⟩
  · exact ⟨none, 0, by rw [h0], Nat.le_refl _, .inl h0⟩
  · have hlt : g < w.heap.size := by
      obtain ⟨hlt, _⟩ := Array.getElem?_eq_some_iff.1 hg
      exact hlt
    refine ⟨some ⟨g, 0, none⟩, cap, rfl, Nat.le_refl _, .inr ⟨g, 0, rfl, hbg, hlt, fun i hi => ?_, fun i hi => h.frozenAt _⟩⟩
    have := h.cellAt i (by omega)
    rw [Nat.zero_add, this]
    simp [il, hi, zI]
/-- An answer that is a list of numbers (or a code). -/
def IRes (c : Int) (zs : List Int) (w : World) (e : Ending) (w' : World) : Prop :=
  ∃ a cap, e = .returned (.agg #[.int .i64 c, .slice a (if c = 0 then zs else []).length cap]) ∧ Below w.heap.size w w' ∧ OwnI w' w.heap.size w'.heap.size a (if c = 0 then zs else []).length (zI (if c = 0 then zs else []))
theorem ires_bad {c : Int} {zs : List Int} {w w' : World} (hb : Below w.heap.size w w') (hc : c ≠ 0) : IRes c zs w (.returned (.agg #[.int .i64 c, .slice none 0 0])) w' := by
  rw [IRes]
  simp only [if_neg hc]
  exact ⟨none, 0, rfl, hb, Nat.le_refl _, .inl rfl⟩
theorem ires_ok {c : Int} {zs : List Int} {w wq w' : World} {v : Value} {lo l h : Nat} (hc : c = 0) (hB : Below w.heap.size w wq) (hl : w.heap.size ≤ l) (hlh : l ≤ h) (hh : h ≤ lo)
    (ho : wq.ownsRow lo 2 1 v zs.length (il zs)) (hw : Writes l h wq w') (hs : w'.heap.size = wq.heap.size) : IRes c zs w (.returned (.agg #[.int .i64 0, v])) w' := by
  rw [IRes, hc]
  simp only [if_true]
  obtain ⟨a, cap, rfl, ho2⟩ := ownI_of_row ho
  refine ⟨a, cap, rfl, Writes.below hB hw hl, ?_⟩
  rw [hs]
  exact (ho2.writes hw (.inr hh)).wide (by omega) (Nat.le_refl _) (by omega)
end Go.Proofs.Ytgchkpahoilmdaa
