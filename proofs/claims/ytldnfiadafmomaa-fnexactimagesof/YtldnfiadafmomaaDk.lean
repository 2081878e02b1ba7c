/- Disks in memory: pages and loose writes, what they hold, by their index; the laws' own sizes and copies of them. -/
import Derived.Test.YtldnfiadafmomaaBh
import Derived.Test.YtldnfiadafmomaaBox
namespace Go.Proofs.Ytldnfiadafmomaa
open Go.RowKit Go.Deep
set_option linter.unusedVariables false
set_option maxRecDepth 20000

/-- The n pages at 'a': page i has L i bytes, Z i. -/
def PagesAt (w : World) (a : Option Addr) (n : Nat) (L : Nat → Nat) (Z : Nat → Nat → Int) : Prop :=
  n = 0 ∨ ∃ b off, a = some ⟨b, off, none⟩ ∧ b < w.heap.size ∧ ∀ i, i < n → ∃ ai ci, w.cell? ⟨b, off + i, none⟩ = some (.slice ai (L i) ci) ∧ BytesAt w ai (L i) (Z i) ∧ L i ≤ ci
/-- The n loose writes at 'a'. -/
def LoosesAt (w : World) (a : Option Addr) (n : Nat) (P T : Nat → Int) (L : Nat → Nat) (Z : Nat → Nat → Int) : Prop :=
  n = 0 ∨ ∃ b off, a = some ⟨b, off, none⟩ ∧ b < w.heap.size ∧ ∀ i, i < n → w.cell? ⟨b, off + i * 3, none⟩ = some (.int .i64 (P i)) ∧ w.cell? ⟨b, off + i * 3 + 1, none⟩ = some (.int .i64 (T i)) ∧
    ∃ ai ci, w.cell? ⟨b, off + i * 3 + 2, none⟩ = some (.slice ai (L i) ci) ∧ BytesAt w ai (L i) (Z i) ∧ L i ≤ ci
theorem PagesAt.below {w w' : World} {a : Option Addr} {n : Nat} {L : Nat → Nat} {Z : Nat → Nat → Int} (h : PagesAt w a n L Z) (hb : Below w.heap.size w w') : PagesAt w' a n L Z := by
  rcases h with h | ⟨b, off, ha, hl, hc⟩
  · exact .inl h
  · refine .inr ⟨b, off, ha, Nat.lt_of_lt_of_le hl hb.size, fun i hi => ?_⟩
    obtain ⟨ai, ci, h1, h2, h3⟩ := hc i hi
    exact ⟨ai, ci, (hb.cell (p := ⟨b, off + i, none⟩) hl).trans h1, h2.below hb, h3⟩
theorem LoosesAt.below {w w' : World} {a : Option Addr} {n : Nat} {P T : Nat → Int} {L : Nat → Nat} {Z : Nat → Nat → Int} (h : LoosesAt w a n P T L Z) (hb : Below w.heap.size w w') : LoosesAt w' a n P T L Z := by
  rcases h with h | ⟨b, off, ha, hl, hc⟩
  · exact .inl h
  · refine .inr ⟨b, off, ha, Nat.lt_of_lt_of_le hl hb.size, fun i hi => ?_⟩
    obtain ⟨h0, h1, ai, ci, h2, h3, h4⟩ := hc i hi
    exact ⟨(hb.cell (p := ⟨b, _, none⟩) hl).trans h0, (hb.cell (p := ⟨b, _, none⟩) hl).trans h1, ai, ci, (hb.cell (p := ⟨b, _, none⟩) hl).trans h2, h3.below hb, h4⟩
def sumL (L : Nat → Nat) : Nat → Nat
  | 0 => 0
  | k + 1 => sumL L k + L k

/-! ### laws.szDisk -/
theorem szByteS_any (n : Nat) (a : Option Addr) (cap : Nat) (x : Int) (w : World) (hn : n ≤ 9223372036854775807) (h0 : 0 ≤ x) (h1 : x ≤ 1048576) :
    Calls Try.prog 29 #[.slice a n cap, .int .i64 x] w fun e w' => e = .returned (.int .i64 (if x - n < 0 then -1 else x - n)) ∧ w' = w := by
  by_cases h : x - (n : Int) < 0
  · go_enter Try.func29, Try.ntmps29
    go_wp2
    go_ret
    exact ⟨rfl, rfl⟩
  · go_enter Try.func29, Try.ntmps29
    go_wp2
    go_ret
    exact ⟨rfl, rfl⟩
set_option maxHeartbeats 400000 in
theorem szByteSS_any (n : Nat) (L : Nat → Nat) (Z : Nat → Nat → Int) (a : Option Addr) (cap : Nat) (x : Int) (w : World) (hn : n ≤ 9223372036854775807) (hL : ∀ i, i < n → L i ≤ 9223372036854775807) (h0 : 0 ≤ x) (h1 : x ≤ 1048576) (h : PagesAt w a n L Z) :
    Calls Try.prog 13 #[.slice a n cap, .int .i64 x] w fun e w' => w' = w ∧ ∃ r : Int, e = .returned (.int .i64 r) ∧ (r = -1 ∨ (0 ≤ r ∧ r = x - n - sumL L n)) := by
  by_cases hx : x - (n : Int) < 0
  · clear hL h
    go_enter Try.func13, Try.ntmps13
    go_wp2
    go_ret
    exact ⟨rfl, _, rfl, .inl rfl⟩
  · go_enter Try.func13, Try.ntmps13
    have HL : Hid (∀ i, i < n → L i ≤ 9223372036854775807) := hL
    have HA : Hid (PagesAt w a n L Z) := h
    clear hL h
    go_wp2
    go_loop [1, 5] (fun q i => ∃ k : Nat, k ≤ n ∧ i = .int .i64 k ∧ q = .int .i64 (x - n - sumL L k) ∧ 0 ≤ x - n - sumL L k) (fun _ i => n - (intOf i).toNat)
    case atStart => exact ⟨0, Nat.zero_le _, rfl, by simp [sumL], by simp [sumL]; omega⟩
    case round =>
      obtain ⟨k, hk, rfl, rfl, hnn⟩ := hrel
      by_cases hlt : k < n
      · rcases HA.out with h | ⟨b, off, rfl, hl, hc⟩
        · omega
        obtain ⟨ai, ci, hcell, -⟩ := hc k hlt
        have hLk := HL.out k hlt
        have hs : (sumL L (k + 1) : Int) = sumL L k + L k := by simp [sumL]
        generalize hS : (sumL L k : Int) = S at *
        clear hc
        by_cases hneg : x - n - S - (L k : Int) < 0
        · go_wp2_with fail
          refine (szByteS_any (L k) ai ci (x - n - S) w hLk hnn (by omega)).mono ?_
          rintro e w' ⟨rfl, rfl⟩
          rw [if_pos hneg]
          go_wp2
          go_ret
          exact ⟨rfl, _, rfl, .inl rfl⟩
        · go_wp2_with fail
          refine (szByteS_any (L k) ai ci (x - n - S) w hLk hnn (by omega)).mono ?_
          rintro e w' ⟨rfl, rfl⟩
          rw [if_neg (by omega)]
          go_wp2
          go_round
          case rel => exact ⟨k + 1, hlt, by go_num, by rw [hs]; go_num, by rw [hs]; omega⟩
          case measure => simp [intOf]; omega
      · have hkn : k = n := by omega
        go_wp2
        go_ret
        exact ⟨rfl, _, rfl, .inr ⟨by rw [hkn] at hnn; exact hnn, rfl⟩⟩
theorem szLoose_any (p t : Int) (n : Nat) (a : Option Addr) (cap : Nat) (x : Int) (w : World) (hn : n ≤ 9223372036854775807) (h0 : 0 ≤ x) (h1 : x ≤ 1048576) :
    Calls Try.prog 30 #[.agg #[.int .i64 p, .int .i64 t, .slice a n cap], .int .i64 x] w fun e w' => e = .returned (.int .i64 (if x - n < 0 then -1 else x - n)) ∧ Below w.heap.size w w' := by
  by_cases h : x - (n : Int) < 0
  · go_enter Try.func30, Try.ntmps30
    go_wp2_with fail
    refine (szByteS_any n a cap x _ hn h0 h1).mono ?_
    rintro e w' ⟨rfl, rfl⟩
    rw [if_pos (by omega)]
    go_wp2
    go_ret
    exact ⟨rfl, below_new _ _⟩
  · go_enter Try.func30, Try.ntmps30
    go_wp2_with fail
    refine (szByteS_any n a cap x _ hn h0 h1).mono ?_
    rintro e w' ⟨rfl, rfl⟩
    rw [if_neg (by omega)]
    go_wp2
    go_ret
    exact ⟨rfl, below_new _ _⟩
set_option maxHeartbeats 400000 in
theorem szLooseS_any (n : Nat) (P T : Nat → Int) (L : Nat → Nat) (Z : Nat → Nat → Int) (a : Option Addr) (cap : Nat) (x : Int) (w : World) (hn : n ≤ 9223372036854775807) (hL : ∀ i, i < n → L i ≤ 9223372036854775807) (h0 : 0 ≤ x) (h1 : x ≤ 1048576) (h : LoosesAt w a n P T L Z) :
    Calls Try.prog 14 #[.slice a n cap, .int .i64 x] w fun e w' => Below w.heap.size w w' ∧ ∃ r : Int, e = .returned (.int .i64 r) ∧ (r = -1 ∨ (0 ≤ r ∧ r = x - n - sumL L n)) := by
  by_cases hx : x - (n : Int) < 0
  · clear hL h
    go_enter Try.func14, Try.ntmps14
    go_wp2
    go_ret
    exact ⟨Below.refl _ _, _, rfl, .inl rfl⟩
  · go_enter Try.func14, Try.ntmps14
    have HL : Hid (∀ i, i < n → L i ≤ 9223372036854775807) := hL
    have HA : Hid (LoosesAt w a n P T L Z) := h
    clear hL h
    go_wp2
    go_loopw [1, 5] (fun q i wr => ∃ k : Nat, k ≤ n ∧ i = .int .i64 k ∧ q = .int .i64 (x - n - sumL L k) ∧ 0 ≤ x - n - sumL L k ∧ Below w.heap.size w wr) (fun _ i _ => n - (intOf i).toNat)
    case atStart => exact ⟨0, Nat.zero_le _, rfl, by simp [sumL], by simp [sumL]; omega, Below.refl _ _⟩
    case round =>
      obtain ⟨k, hk, rfl, rfl, hnn, hb⟩ := hrel
      by_cases hlt : k < n
      · rcases HA.out.below hb with h | ⟨b, off, rfl, hl, hc⟩
        · omega
        obtain ⟨q0, q1, ai, ci, hcell, -⟩ := hc k hlt
        have hLk := HL.out k hlt
        have hs : (sumL L (k + 1) : Int) = sumL L k + L k := by simp [sumL]
        generalize hS : (sumL L k : Int) = S at *
        have HB : Hid (Below w.heap.size w wr) := hb
        clear hc hb
        by_cases hneg : x - n - S - (L k : Int) < 0
        · go_wp2_with fail
          refine (szLoose_any (P k) (T k) (L k) ai ci (x - n - S) wr hLk hnn (by omega)).mono ?_
          rintro e w' ⟨rfl, hb'⟩
          rw [if_pos (by omega)]
          go_wp2
          go_ret
          exact ⟨below_then HB.out hb', _, rfl, .inl rfl⟩
        · go_wp2_with fail
          refine (szLoose_any (P k) (T k) (L k) ai ci (x - n - S) wr hLk hnn (by omega)).mono ?_
          rintro e w' ⟨rfl, hb'⟩
          rw [if_neg (by omega)]
          go_wp2
          go_roundw
          case rel => exact ⟨k + 1, hlt, by go_num, by rw [hs]; go_num, by rw [hs]; omega, below_then HB.out hb'⟩
          case measure => simp [intOf]; omega
      · have hkn : k = n := by omega
        go_wp2
        go_ret
        exact ⟨hb, _, rfl, .inr ⟨by first | exact hnn | (rw [hkn] at hnn; exact hnn), by first | rfl | rw [hkn]⟩⟩
theorem szDisk_any (n m : Nat) (L : Nat → Nat) (Z : Nat → Nat → Int) (P T : Nat → Int) (L' : Nat → Nat) (Z' : Nat → Nat → Int) (a a' : Option Addr) (cap cap' : Nat) (w : World)
    (hn : n ≤ 9223372036854775807) (hL : ∀ i, i < n → L i ≤ 9223372036854775807) (hm : m ≤ 9223372036854775807) (hL' : ∀ i, i < m → L' i ≤ 9223372036854775807) (h : PagesAt w a n L Z) (h' : LoosesAt w a' m P T L' Z') :
    Calls Try.prog 4 #[.agg #[.slice a n cap, .slice a' m cap'], .int .i64 1048576] w fun e w' => Below w.heap.size w w' ∧ ∃ r : Int, e = .returned (.int .i64 r) ∧ (r = -1 ∨ (0 ≤ r ∧ r = 1048576 - n - sumL L n - m - sumL L' m)) := by
  have HL : Hid (∀ i, i < n → L i ≤ 9223372036854775807) := hL
  have HL' : Hid (∀ i, i < m → L' i ≤ 9223372036854775807) := hL'
  have HA : Hid (PagesAt w a n L Z) := h
  have HA' : Hid (LoosesAt w a' m P T L' Z') := h'
  clear hL hL' h h'
  go_enter Try.func4, Try.ntmps4
  go_wp2_with fail
  refine (szByteSS_any n L Z a cap 1048576 _ hn HL.out (by omega) (by omega) (HA.out.below (below_new _ _))).mono ?_
  rintro e w1 ⟨rfl, r, rfl, hr⟩
  rcases hr with rfl | ⟨hr0, hr1⟩
  · go_wp2
    go_ret
    exact ⟨below_new _ _, _, rfl, .inl rfl⟩
  · have hr2 : r ≤ 1048576 := by omega
    have HR : Hid (r = 1048576 - n - sumL L n) := hr1
    clear hr1
    go_wp2_with fail
    refine (szLooseS_any m P T L' Z' a' cap' r _ hm HL'.out hr0 hr2 (HA'.out.below (below_new _ _))).mono ?_
    rintro e w2 ⟨hb, s, rfl, hs⟩
    have HB := below_then (below_new w _) hb
    rcases hs with rfl | ⟨hs0, hs1⟩
    · go_wp2
      go_ret
      exact ⟨HB, _, rfl, .inl rfl⟩
    · have HS : Hid (s = r - m - sumL L' m) := hs1
      clear hs1
      go_wp2
      go_ret
      exact ⟨HB, _, rfl, .inr ⟨hs0, by rw [HS.out, HR.out]⟩⟩
end Go.Proofs.Ytldnfiadafmomaa
