/- A log: all its bytes, its fault, its records. -/
import Derived.Test.YtnplheilojhpmaaGreatQUt
import Derived.Test.YtnplheilojhpmaaGreatQUv
import Derived.Test.YtnplheilojhpmaaGreatQPut
import Derived.Test.YtnplheilojhpmaaGreatQHel
import Derived.Deep.RegionLaw
namespace Go.Proofs.YtnplheilojhpmaaGreat
open Go.RowKit Go.Deep
set_option linter.unusedVariables false
set_option maxRecDepth 20000

/-! ### held -/
/-! ### answers that are records -/
/-! ### the records that bytes tell -/
def zR (z : Nat → Int) : Rc := ⟨num z 0 1, num z 1 2, num z 3 1, hdB z, num z 5 2, hsB z, num z 7 2, num z 9 2⟩
theorem rvs_len (z : Nat → Int) : ∀ k, (rvs z k).length = 8 * k
  | 0 => rfl
  | k + 1 => by simp only [rvs, List.length_append, rvs_len z k]; simp [rvl]; omega
theorem rvs_get (z : Nat → Int) : ∀ k i j, i < k → j < 8 → (rvs z k)[8 * i + j]? = (rvl (sh z (13 * i)))[j]?
  | 0, i, j, h, _ => by omega
  | k + 1, i, j, h, hj => by
    simp only [rvs]
    by_cases e : i = k
    · subst e
      rw [List.getElem?_append_right (by rw [rvs_len]; omega), rvs_len]
      congr 1; omega
    · rw [List.getElem?_append_left (by rw [rvs_len]; omega)]
      exact rvs_get z k i j (by omega) hj
theorem own8_of_row {w : World} {base n : Nat} {a : Option Addr} {cap : Nat} {z : Nat → Int} (h : w.ownsRow base 71 8 (.slice a n cap) n (rvs z n)) : Own8 w base w.heap.size a n (fun i => zR (sh z (13 * i))) := by
  rcases h.2 with ⟨e, h0⟩ | ⟨g, cap', cur, e, hbg, hg, _⟩
  · exact ⟨Nat.le_refl _, .inl h0⟩
  · simp only [Value.slice.injEq, true_and] at e
    obtain ⟨rfl, rfl⟩ := e
    have hlt : g < w.heap.size := by
      obtain ⟨hlt, _⟩ := Array.getElem?_eq_some_iff.1 hg
      exact hlt
    refine ⟨Nat.le_refl _, .inr ⟨g, 0, rfl, hbg, hlt, fun i hi => ?_, fun i => h.frozenAt _⟩⟩
    have c : ∀ j v, j < 8 → (rvl (sh z (13 * i)))[j]? = some v → w.cell? ⟨g, 0 + i * 8 + j, none⟩ = some v := fun j v hj hv => by
      rw [h.cellAt (0 + i * 8 + j) (by omega), show 0 + i * 8 + j = 8 * i + j by omega, rvs_get z n i j hi hj, hv]
    exact ⟨c 0 _ (by omega) rfl, c 1 _ (by omega) rfl, c 2 _ (by omega) rfl, c 3 _ (by omega) rfl, c 4 _ (by omega) rfl, c 5 _ (by omega) rfl, c 6 _ (by omega) rfl, c 7 _ (by omega) rfl⟩
/-- The records that stand in bytes, as fields. -/
def zRs (z : Nat → Int) (i : Nat) : Rc := zR (sh z (13 * i))
theorem rcn_le (z : Nat → Int) (n : Nat) : ∀ f k, 13 * k ≤ n → 13 * rcn z n f k ≤ n
  | 0, k, h => h
  | f + 1, k, h => by
    unfold rcn
    split
    · rename_i hh; exact rcn_le z n f (k + 1) hh.1
    · exact h
theorem cnt_le (z : Nat → Int) (n : Nat) : 13 * cnt z n ≤ n := rcn_le z n n 0 (by omega)
/-- The n pages at 'a': page i has L i bytes, Z i. -/
def PagesAt (w : World) (a : Option Addr) (n : Nat) (L : Nat → Nat) (Z : Nat → Nat → Int) : Prop :=
  n = 0 ∨ ∃ b off, a = some ⟨b, off, none⟩ ∧ b < w.heap.size ∧ ∀ i, i < n → ∃ ai ci, w.cell? ⟨b, off + i, none⟩ = some (.slice ai (L i) ci) ∧ BytesAt w ai (L i) (Z i) ∧ L i ≤ ci
/-- The n loose writes at 'a'. -/
def LoosesAt (w : World) (a : Option Addr) (n : Nat) (P T : Nat → Int) (L : Nat → Nat) (Z : Nat → Nat → Int) : Prop :=
  n = 0 ∨ ∃ b off, a = some ⟨b, off, none⟩ ∧ b < w.heap.size ∧ ∀ i, i < n → w.cell? ⟨b, off + i * 3, none⟩ = some (.int .i64 (P i)) ∧ w.cell? ⟨b, off + i * 3 + 1, none⟩ = some (.int .i64 (T i)) ∧
    ∃ ai ci, w.cell? ⟨b, off + i * 3 + 2, none⟩ = some (.slice ai (L i) ci) ∧ BytesAt w ai (L i) (Z i) ∧ L i ≤ ci
theorem PagesAt.below {w w' : World} {a : Option Addr} {n : Nat} {L : Nat → Nat} {Z : Nat → Nat → Int} (h : PagesAt w a n L Z) (hb : Below w.heap.size w w') : PagesAt w' a n L Z := by
  rcases h with h | ⟨b, off, ha, hl, hc⟩
  · exact .inl h
  · refine .inr ⟨b, off, ha, Nat.lt_of_lt_of_le hl hb.size, fun i hi => ?_⟩
    obtain ⟨ai, ci, h1, h2, h3⟩ := hc i hi
    exact ⟨ai, ci, (hb.cell (p := ⟨b, off + i, none⟩) hl).trans h1, h2.below hb, h3⟩
theorem LoosesAt.below {w w' : World} {a : Option Addr} {n : Nat} {P T : Nat → Int} {L : Nat → Nat} {Z : Nat → Nat → Int} (h : LoosesAt w a n P T L Z) (hb : Below w.heap.size w w') : LoosesAt w' a n P T L Z := by
  rcases h with h | ⟨b, off, ha, hl, hc⟩
  · exact .inl h
  · refine .inr ⟨b, off, ha, Nat.lt_of_lt_of_le hl hb.size, fun i hi => ?_⟩
    obtain ⟨h0, h1, ai, ci, h2, h3, h4⟩ := hc i hi
    exact ⟨(hb.cell (p := ⟨b, _, none⟩) hl).trans h0, (hb.cell (p := ⟨b, _, none⟩) hl).trans h1, ai, ci, (hb.cell (p := ⟨b, _, none⟩) hl).trans h2, h3.below hb, h4⟩
def sumL (L : Nat → Nat) : Nat → Nat
  | 0 => 0
  | k + 1 => sumL L k + L k

/-! ### laws.szDisk -/
theorem szByteS_any (n : Nat) (a : Option Addr) (cap : Nat) (x : Int) (w : World) (hn : n ≤ 9223372036854775807) (h0 : 0 ≤ x) (h1 : x ≤ 1048576) :
    Calls Tryz.prog 44 #[.slice a n cap, .int .i64 x] w fun e w' => e = .returned (.int .i64 (if x - n < 0 then -1 else x - n)) ∧ w' = w := by
  by_cases h : x - (n : Int) < 0
  · go_enter Tryz.func44, Tryz.ntmps44
    go_wp2
    go_ret
    exact ⟨rfl, rfl⟩
  · go_enter Tryz.func44, Tryz.ntmps44
    go_wp2
    go_ret
    exact ⟨rfl, rfl⟩
set_option maxHeartbeats 400000 in
theorem szByteSS_any (n : Nat) (L : Nat → Nat) (Z : Nat → Nat → Int) (a : Option Addr) (cap : Nat) (x : Int) (w : World) (hn : n ≤ 9223372036854775807) (hL : ∀ i, i < n → L i ≤ 9223372036854775807) (h0 : 0 ≤ x) (h1 : x ≤ 1048576) (h : PagesAt w a n L Z) :
    Calls Tryz.prog 42 #[.slice a n cap, .int .i64 x] w fun e w' => w' = w ∧ ∃ r : Int, e = .returned (.int .i64 r) ∧ (r = -1 ∨ (0 ≤ r ∧ r = x - n - sumL L n)) := by
  by_cases hx : x - (n : Int) < 0
  · clear hL h
    go_enter Tryz.func42, Tryz.ntmps42
    go_wp2
    go_ret
    exact ⟨rfl, _, rfl, .inl rfl⟩
  · go_enter Tryz.func42, Tryz.ntmps42
    have HL : Hid (∀ i, i < n → L i ≤ 9223372036854775807) := hL
    have HA : Hid (PagesAt w a n L Z) := h
    clear hL h
    go_wp2
    go_loop [1, 5] (fun q i => ∃ k : Nat, k ≤ n ∧ i = .int .i64 k ∧ q = .int .i64 (x - n - sumL L k) ∧ 0 ≤ x - n - sumL L k) (fun _ i => n - (intOf i).toNat)
    case atStart => exact ⟨0, Nat.zero_le _, rfl, by simp [sumL], by simp [sumL]; omega⟩
    case round =>
      obtain ⟨k, hk, rfl, rfl, hnn⟩ := hrel
      by_cases hlt : k < n
      · rcases HA.out with h | ⟨b, off, rfl, hl, hc⟩
        · omega
        obtain ⟨ai, ci, hcell, -⟩ := hc k hlt
        have hLk := HL.out k hlt
        have hs : (sumL L (k + 1) : Int) = sumL L k + L k := by simp [sumL]
        generalize hS : (sumL L k : Int) = S at *
        clear hc
        by_cases hneg : x - n - S - (L k : Int) < 0
        · go_wp2_with fail
          refine (szByteS_any (L k) ai ci (x - n - S) w hLk hnn (by omega)).mono ?_
          rintro e w' ⟨rfl, rfl⟩
          rw [if_pos hneg]
          go_wp2
          go_ret
          exact ⟨rfl, _, rfl, .inl rfl⟩
        · go_wp2_with fail
          refine (szByteS_any (L k) ai ci (x - n - S) w hLk hnn (by omega)).mono ?_
          rintro e w' ⟨rfl, rfl⟩
          rw [if_neg (by omega)]
          go_wp2
          go_round
          case rel => exact ⟨k + 1, hlt, by go_num, by rw [hs]; go_num, by rw [hs]; omega⟩
          case measure => simp [intOf]; omega
      · have hkn : k = n := by omega
        go_wp2
        go_ret
        exact ⟨rfl, _, rfl, .inr ⟨by rw [hkn] at hnn; exact hnn, rfl⟩⟩
theorem szLoose_any (p t : Int) (n : Nat) (a : Option Addr) (cap : Nat) (x : Int) (w : World) (hn : n ≤ 9223372036854775807) (h0 : 0 ≤ x) (h1 : x ≤ 1048576) :
    Calls Tryz.prog 78 #[.agg #[.int .i64 p, .int .i64 t, .slice a n cap], .int .i64 x] w fun e w' => e = .returned (.int .i64 (if x - n < 0 then -1 else x - n)) ∧ Below w.heap.size w w' := by
  by_cases h : x - (n : Int) < 0
  · go_enter Tryz.func78, Tryz.ntmps78
    go_wp2_with fail
    refine (szByteS_any n a cap x _ hn h0 h1).mono ?_
    rintro e w' ⟨rfl, rfl⟩
    rw [if_pos (by omega)]
    go_wp2
    go_ret
    exact ⟨rfl, below_new _ _⟩
  · go_enter Tryz.func78, Tryz.ntmps78
    go_wp2_with fail
    refine (szByteS_any n a cap x _ hn h0 h1).mono ?_
    rintro e w' ⟨rfl, rfl⟩
    rw [if_neg (by omega)]
    go_wp2
    go_ret
    exact ⟨rfl, below_new _ _⟩
set_option maxHeartbeats 400000 in
theorem szLooseS_any (n : Nat) (P T : Nat → Int) (L : Nat → Nat) (Z : Nat → Nat → Int) (a : Option Addr) (cap : Nat) (x : Int) (w : World) (hn : n ≤ 9223372036854775807) (hL : ∀ i, i < n → L i ≤ 9223372036854775807) (h0 : 0 ≤ x) (h1 : x ≤ 1048576) (h : LoosesAt w a n P T L Z) :
    Calls Tryz.prog 43 #[.slice a n cap, .int .i64 x] w fun e w' => Below w.heap.size w w' ∧ ∃ r : Int, e = .returned (.int .i64 r) ∧ (r = -1 ∨ (0 ≤ r ∧ r = x - n - sumL L n)) := by
  by_cases hx : x - (n : Int) < 0
  · clear hL h
    go_enter Tryz.func43, Tryz.ntmps43
    go_wp2
    go_ret
    exact ⟨Below.refl _ _, _, rfl, .inl rfl⟩
  · go_enter Tryz.func43, Tryz.ntmps43
    have HL : Hid (∀ i, i < n → L i ≤ 9223372036854775807) := hL
    have HA : Hid (LoosesAt w a n P T L Z) := h
    clear hL h
    go_wp2
    go_loopw [1, 5] (fun q i wr => ∃ k : Nat, k ≤ n ∧ i = .int .i64 k ∧ q = .int .i64 (x - n - sumL L k) ∧ 0 ≤ x - n - sumL L k ∧ Below w.heap.size w wr) (fun _ i _ => n - (intOf i).toNat)
    case atStart => exact ⟨0, Nat.zero_le _, rfl, by simp [sumL], by simp [sumL]; omega, Below.refl _ _⟩
    case round =>
      obtain ⟨k, hk, rfl, rfl, hnn, hb⟩ := hrel
      by_cases hlt : k < n
      · rcases HA.out.below hb with h | ⟨b, off, rfl, hl, hc⟩
        · omega
        obtain ⟨q0, q1, ai, ci, hcell, -⟩ := hc k hlt
        have hLk := HL.out k hlt
        have hs : (sumL L (k + 1) : Int) = sumL L k + L k := by simp [sumL]
        generalize hS : (sumL L k : Int) = S at *
        have HB : Hid (Below w.heap.size w wr) := hb
        clear hc hb
        by_cases hneg : x - n - S - (L k : Int) < 0
        · go_wp2_with fail
          refine (szLoose_any (P k) (T k) (L k) ai ci (x - n - S) wr hLk hnn (by omega)).mono ?_
          rintro e w' ⟨rfl, hb'⟩
          rw [if_pos (by omega)]
          go_wp2
          go_ret
          exact ⟨below_then HB.out hb', _, rfl, .inl rfl⟩
        · go_wp2_with fail
          refine (szLoose_any (P k) (T k) (L k) ai ci (x - n - S) wr hLk hnn (by omega)).mono ?_
          rintro e w' ⟨rfl, hb'⟩
          rw [if_neg (by omega)]
          go_wp2
          go_roundw
          case rel => exact ⟨k + 1, hlt, by go_num, by rw [hs]; go_num, by rw [hs]; omega, below_then HB.out hb'⟩
          case measure => simp [intOf]; omega
      · have hkn : k = n := by omega
        go_wp2
        go_ret
        exact ⟨hb, _, rfl, .inr ⟨by first | exact hnn | (rw [hkn] at hnn; exact hnn), by first | rfl | rw [hkn]⟩⟩
/-- Pages in blocks of their own from lo on, below hi. -/
def OwnP (w : World) (lo hi : Nat) (a : Option Addr) (n : Nat) (L : Nat → Nat) (Z : Nat → Nat → Int) : Prop :=
  hi ≤ w.heap.size ∧ (n = 0 ∨ ∃ b off, a = some ⟨b, off, none⟩ ∧ lo ≤ b ∧ b < hi ∧ ∃ g o c : Nat → Nat, (∀ i j, i < n → j < n → g i = g j → i = j) ∧
    ∀ i, i < n → g i ≠ b ∧ lo ≤ g i ∧ g i < hi ∧ w.cell? ⟨b, off + i, none⟩ = some (.slice (some ⟨g i, o i, none⟩) (L i) (c i)) ∧ Row1 w (g i) (o i) (L i) (Z i) ∧ L i ≤ c i)
/-- Loose writes in blocks of their own from lo on, below hi. -/
def OwnL (w : World) (lo hi : Nat) (a : Option Addr) (n : Nat) (P T : Nat → Int) (L : Nat → Nat) (Z : Nat → Nat → Int) : Prop :=
  hi ≤ w.heap.size ∧ (n = 0 ∨ ∃ b off, a = some ⟨b, off, none⟩ ∧ lo ≤ b ∧ b < hi ∧ ∃ g o c : Nat → Nat, (∀ i j, i < n → j < n → g i = g j → i = j) ∧
    ∀ i, i < n → g i ≠ b ∧ lo ≤ g i ∧ g i < hi ∧ w.cell? ⟨b, off + i * 3, none⟩ = some (.int .i64 (P i)) ∧ w.cell? ⟨b, off + i * 3 + 1, none⟩ = some (.int .i64 (T i)) ∧
      w.cell? ⟨b, off + i * 3 + 2, none⟩ = some (.slice (some ⟨g i, o i, none⟩) (L i) (c i)) ∧ w.frozen? ⟨b, off + i * 3, none⟩ = false ∧ w.frozen? ⟨b, off + i * 3 + 1, none⟩ = false ∧ Row1 w (g i) (o i) (L i) (Z i) ∧ L i ≤ c i)
theorem Row1.at {w : World} {b off n : Nat} {z : Nat → Int} (h : Row1 w b off n z) (hb : b < w.heap.size) : BytesAt w (some ⟨b, off, none⟩) n z := .inr ⟨b, off, rfl, hb, h.1⟩
theorem Row1.block {w w' : World} {b off n : Nat} {z : Nat → Int} (h : Row1 w b off n z) (e : w'.heap[b]? = w.heap[b]?) : Row1 w' b off n z :=
  ⟨fun i hi => (World.cell?_of_block (w := w) (a := ⟨b, _, none⟩) e).trans (h.1 i hi), fun i hi => (World.frozen?_of_block (w := w) (a := ⟨b, _, none⟩) e).trans (h.2 i hi)⟩
theorem Row1.of_row {w : World} {b n : Nat} {z : Nat → Int} (h : w.rowIs b 5 n (fun i => .int .u8 (z i))) : Row1 w b 0 n z :=
  ⟨fun i hi => by rw [Nat.zero_add]; exact h.cell hi, fun i hi => h.frozen _⟩
theorem OwnP.at {w : World} {lo hi : Nat} {a : Option Addr} {n : Nat} {L : Nat → Nat} {Z : Nat → Nat → Int} (h : OwnP w lo hi a n L Z) : PagesAt w a n L Z := by
  obtain ⟨h0, h1 | ⟨b, off, ha, _, hl, g, o, c, _, hc⟩⟩ := h
  · exact .inl h1
  · refine .inr ⟨b, off, ha, by omega, fun i hi => ?_⟩
    obtain ⟨_, _, hg, h2, h3, h4⟩ := hc i hi
    exact ⟨_, _, h2, h3.at (by omega), h4⟩
theorem OwnL.at {w : World} {lo hi : Nat} {a : Option Addr} {n : Nat} {P T : Nat → Int} {L : Nat → Nat} {Z : Nat → Nat → Int} (h : OwnL w lo hi a n P T L Z) : LoosesAt w a n P T L Z := by
  obtain ⟨h0, h1 | ⟨b, off, ha, _, hl, g, o, c, _, hc⟩⟩ := h
  · exact .inl h1
  · refine .inr ⟨b, off, ha, by omega, fun i hi => ?_⟩
    obtain ⟨_, _, hg, h2, h3, h4, _, _, h5, h6⟩ := hc i hi
    exact ⟨h2, h3, _, _, h4, h5.at (by omega), h6⟩
theorem OwnP.writes {w w' : World} {lo hi lo' hi' : Nat} {a : Option Addr} {n : Nat} {L : Nat → Nat} {Z : Nat → Nat → Int} (h : OwnP w lo hi a n L Z) (hw : Writes lo' hi' w w') (hd : hi ≤ lo' ∨ hi' ≤ lo) : OwnP w' lo hi a n L Z := by
  obtain ⟨h0, h1 | ⟨b, off, ha, hlo, hl, g, o, c, hj, hc⟩⟩ := h
  · exact ⟨Nat.le_trans h0 hw.size, .inl h1⟩
  · refine ⟨Nat.le_trans h0 hw.size, .inr ⟨b, off, ha, hlo, hl, g, o, c, hj, fun i hi => ?_⟩⟩
    obtain ⟨k0, k1, k2, k3, k4, k5⟩ := hc i hi
    exact ⟨k0, k1, k2, (hw.cell (by omega) (by omega) _).trans k3, k4.block (hw.block _ (by omega) (by omega)), k5⟩
theorem OwnL.writes {w w' : World} {lo hi lo' hi' : Nat} {a : Option Addr} {n : Nat} {P T : Nat → Int} {L : Nat → Nat} {Z : Nat → Nat → Int} (h : OwnL w lo hi a n P T L Z) (hw : Writes lo' hi' w w') (hd : hi ≤ lo' ∨ hi' ≤ lo) : OwnL w' lo hi a n P T L Z := by
  obtain ⟨h0, h1 | ⟨b, off, ha, hlo, hl, g, o, c, hj, hc⟩⟩ := h
  · exact ⟨Nat.le_trans h0 hw.size, .inl h1⟩
  · refine ⟨Nat.le_trans h0 hw.size, .inr ⟨b, off, ha, hlo, hl, g, o, c, hj, fun i hi => ?_⟩⟩
    obtain ⟨k0, k1, k2, k3, k4, k5, k6, k7, k8, k9⟩ := hc i hi
    have e := hw.block b (by omega) (by omega)
    exact ⟨k0, k1, k2, (hw.cell (by omega) (by omega) _).trans k3, (hw.cell (by omega) (by omega) _).trans k4, (hw.cell (by omega) (by omega) _).trans k5, (World.frozen?_of_block (w := w) (a := ⟨b, _, none⟩) e).trans k6, (World.frozen?_of_block (w := w) (a := ⟨b, _, none⟩) e).trans k7, k8.block (hw.block _ (by omega) (by omega)), k9⟩
theorem OwnP.below {w w' : World} {lo hi : Nat} {a : Option Addr} {n : Nat} {L : Nat → Nat} {Z : Nat → Nat → Int} (h : OwnP w lo hi a n L Z) (hb : Below w.heap.size w w') : OwnP w' lo hi a n L Z :=
  h.writes (Writes.of_below (lo := hi) (hi := hi) hb) (.inl (Nat.le_refl _))
/-! ### laws.toByteSS -/
theorem info22 : (Tryz.prog.info? 27).map (fun i => (i.zero, i.size, i.bytes)) = some (some (.slice none 0 0), 1, 24) := by kernel_rfl
/-- k of n pages are copied. -/
def TP (w wr : World) (k n : Nat) (L : Nat → Nat) (Z : Nat → Nat → Int) : Prop :=
  ∃ g : Nat → Nat, (∀ i j, i < k → j < k → g i = g j → i = j) ∧ (∀ i, i < k → w.heap.size < g i ∧ g i < wr.heap.size ∧ wr.rowIs (g i) 5 (L i) (fun j => .int .u8 (Z i j))) ∧
    wr.rowIs w.heap.size 27 n (fun i => if i < k then .slice (some ⟨g i, 0, none⟩) (L i) (L i) else .slice none 0 0)
theorem TP.step {w wr w1 : World} {k n : Nat} {L : Nat → Nat} {Z : Nat → Nat → Int} (h : TP w wr k n L Z) (hb : Below wr.heap.size wr w1) (hr : w1.rowIs wr.heap.size 5 (L k) (fun j => .int .u8 (Z k j))) :
    TP w (w1.setCell ⟨w.heap.size, k, none⟩ (.slice (some ⟨wr.heap.size, 0, none⟩) (L k) (L k))) (k + 1) n L Z := by
  obtain ⟨g, hj, hg, hrow⟩ := h
  have hw := hrow.lt
  have hs1 := hr.lt
  refine ⟨fun i => if i < k then g i else wr.heap.size, fun i j hi hj' e => ?_, fun i hi => ?_, ?_⟩
  · by_cases c1 : i < k <;> by_cases c2 : j < k <;> simp only [c1, c2, if_true, if_false] at e
    · exact hj i j c1 c2 e
    · have := hg i c1; omega
    · have := hg j c2; omega
    · omega
  · by_cases c1 : i < k
    · simp only [c1, if_true]
      obtain ⟨g0, g1, g2⟩ := hg i c1
      refine ⟨g0, by simp [World.setCell]; omega, World.rowIs.setOther (g2.of_block (hb.block _ g1)) (by show g i ≠ w.heap.size; omega) _⟩
    · have : i = k := by omega
      subst this
      simp only [Nat.lt_irrefl, if_false]
      exact ⟨hw, by simp [World.setCell]; omega, hr.setOther (by show wr.heap.size ≠ w.heap.size; omega) _⟩
  · refine ((hrow.of_block (hb.block _ hw)).set k _).congr fun i _ => ?_
    by_cases e : i = k
    · subst e; simp
    · by_cases c1 : i < k
      · have : i < k + 1 := by omega
        simp [e, c1, this]
      · have : ¬ i < k + 1 := by omega
        simp [e, c1, this]
theorem TP.own {w wr : World} {n : Nat} {L : Nat → Nat} {Z : Nat → Nat → Int} (h : TP w wr n n L Z) : OwnP wr w.heap.size wr.heap.size (some ⟨w.heap.size, 0, none⟩) n L Z := by
  obtain ⟨g, hj, hg, hrow⟩ := h
  refine ⟨Nat.le_refl _, .inr ⟨_, _, rfl, Nat.le_refl _, hrow.lt, g, fun _ => 0, L, hj, fun i hi => ?_⟩⟩
  obtain ⟨g0, g1, g2⟩ := hg i hi
  refine ⟨by omega, by omega, g1, ?_, Row1.of_row g2, Nat.le_refl _⟩
  rw [Nat.zero_add, hrow.cell hi]
  simp [hi]
set_option maxHeartbeats 400000 in
theorem toByteSS_any (n : Nat) (L : Nat → Nat) (Z : Nat → Nat → Int) (a : Option Addr) (cap : Nat) (w : World) (hn : n ≤ 1048576) (hL : ∀ i, i < n → L i ≤ 1048576) (h : PagesAt w a n L Z) :
    Calls Tryz.prog 55 #[.slice a n cap] w fun e w' =>
      e = .returned (.slice (some ⟨w.heap.size, 0, none⟩) n n) ∧ Below w.heap.size w w' ∧ OwnP w' w.heap.size w'.heap.size (some ⟨w.heap.size, 0, none⟩) n L Z := by
  have hmk := run_make_row' (P := Tryz.prog) 23 27 (.slice none 0 0) 24 Tryz.underlying23 info22 rfl .i64 .i64 n (by omega) (by omega)
  have HL : Hid (∀ i, i < n → L i ≤ 1048576) := hL
  have HA : Hid (PagesAt w a n L Z) := h
  clear hL h
  go_enter Tryz.func55, Tryz.ntmps55
  go_wp2
  go_loopw [4] (fun i wr => ∃ k : Nat, k ≤ n ∧ i = .int .i64 k ∧ Below w.heap.size w wr ∧ TP w wr k n L Z) (fun i _ => n - (intOf i).toNat)
  case atStart => exact ⟨0, Nat.zero_le _, rfl, (Below.refl _ _).alloc (Nat.le_refl _) _, fun _ => 0, fun i j h => by omega, fun i h => by omega, (World.rowIs_made w _ n 27).congr (fun i _ => by simp)⟩
  case round =>
    obtain ⟨k, hk, rfl, hb, hT⟩ := hrel
    by_cases hlt : k < n
    · rcases HA.out.below hb with h | ⟨b, off, rfl, hl, hc⟩
      · omega
      obtain ⟨ai, ci, hcell, hby, -⟩ := hc k hlt
      have HY : Hid (BytesAt wr ai (L k) (Z k)) := hby
      have HT : Hid (TP w wr k n L Z) := hT
      obtain ⟨g, -, -, hrow⟩ := hT
      have hsz := hrow.lt
      obtain ⟨v3, hv3⟩ : ∃ v, wr.cell? ⟨w.heap.size, k, none⟩ = some v := ⟨_, hrow.cell hlt⟩
      have hfz := hrow.frozen k
      have HB : Hid (Below w.heap.size w wr) := hb
      clear hc hb hrow hmk hby
      go_wp2_with fail
      refine (toByteS_any (L k) (Z k) ai ci wr (by have := HL.out k hlt; omega) HY.out).mono ?_
      rintro e w1 ⟨rfl, hb1, hr1⟩
      have g3 : w1.cell? ⟨w.heap.size, k, none⟩ = some v3 := (hb1.cell (p := ⟨_, _, none⟩) hsz).trans hv3
      have f3 : w1.frozen? ⟨w.heap.size, k, none⟩ = false := (hb1.frozen (p := ⟨_, _, none⟩) hsz).trans hfz
      have HB1 : Hid (Below wr.heap.size wr w1) := hb1
      have HR1 : Hid (w1.rowIs wr.heap.size 5 (L k) (fun j => .int .u8 (Z k j))) := hr1
      clear hb1 hr1 hv3 hfz
      go_wp2_with fail
      go_roundw
      case rel => exact ⟨k + 1, hlt, by go_num, (below_then HB.out HB1.out).setCell (Nat.le_refl _) _, HT.out.step HB1.out HR1.out⟩
      case measure => simp [intOf]; omega
    · have hkn : k = n := by omega
      have HT : Hid (TP w wr n n L Z) := by have h := hT; rw [hkn] at h; exact h
      clear hmk hT
      go_wp2
      go_ret
      exact ⟨rfl, hb, HT.out.own⟩
theorem run_app_zero (w : World) (ty : TypeId) (ba : Option Addr) (n c : Nat) (xa : Option Addr) (xc : Nat) (h : n ≤ c) :
    (Builtin.append_ #[27, 27] ty #[.slice ba n c, .slice xa 0 xc]).run Tryz.prog w = .ok (.slice ba n c) w := by
  cases ba <;> cases xa <;> simp [Builtin.append_, go_sem, h, Builtin.firstCells, storeCells]
theorem grown_refl (w : World) (r : Option Nat) : w.grownBy w r := ⟨rfl, rfl, rfl, Nat.le_refl _, fun _ _ _ => rfl⟩
theorem zL_bl (z : Nat → Int) (n : Nat) : ∀ j u, (bl (zL z n))[j]? = some u → j < n ∧ u = .int .u8 (z j) := by
  intro j u h
  have hj : j < n := by
    have := (List.getElem?_eq_some_iff.1 h).1
    simpa [bl, zL] using this
  simp [bl, zL, hj] at h
  exact ⟨hj, h.symm⟩
theorem wp_appB {o : Oper} {a : Act} {K : Act → World → Prop} {Q : Exit → Act → World → Prop} (w : World) (s x : Operand)
    (ho : o.op = .call { callee := .builtin .append, args := #[s, x], argTypes := #[27, 27] })
    (base : Nat) (v : Value) (zs : List Int) (hs : a.eval s = v) (hown : w.ownsRow base 5 1 v zs.length (bl zs))
    (xa : Option Addr) (m c : Nat) (z : Nat → Int) (hx : a.eval x = .slice xa m c) (hb : BytesAt w xa m z) (h63 : zs.length + m ≤ 100000) (hbase : base ≤ w.heap.size)
    (h : ∀ v' w', w'.ownsRow base 5 1 v' (zs ++ zL z m).length (bl (zs ++ zL z m)) → w.grownBy w' v.ownBlock → K (a.put o.dst v') w') : o.wp Tryz.prog a w K Q := by
  by_cases hm : m = 0
  · subst hm
    obtain ⟨ba, cap, rfl⟩ : ∃ ba cap, v = .slice ba zs.length cap := by
      rcases hown.2 with ⟨rfl, h0⟩ | ⟨g, cap, cur, rfl, _⟩
      · exact ⟨none, 0, by rw [h0]⟩
      · exact ⟨_, cap, rfl⟩
    have hr := run_app_zero w o.type ba zs.length cap xa c (own_cap hown)
    unfold Oper.wp execOp
    simp only [ho, resolve, invoke, builtin, Sem.run_bind, Sem.run_pure, Result.andThen_ok, List.map_toArray, List.map_cons, List.map_nil, hs, hx, hr]
    refine h _ w ?_ (grown_refl _ _)
    have e : zs ++ zL z 0 = zs := by simp [zL]
    rw [e]
    exact hown
  · rcases hb with hb | ⟨b, off, rfl, hbl, hc⟩
    · exact absurd hb hm
    · obtain ⟨i0, hi, hz0, hz1, hz2⟩ := info_parts info5
      refine wp_append_own w s x 27 ho base 5 i0 _ 1 1 Tryz.underlying27 hi hz0 hz1 hz2 rfl (by decide) v zs.length (bl zs) hs hown ⟨b, off, none⟩ m c (bl (zL z m)) hx (by rw [bl_len, zL_len]; omega) (fun j u hj => ?_) (bl_one _) (by unfold maxLen; omega) (by omega) hbase fun v' w' h2 h3 _ => h v' w' ?_ h3
      · obtain ⟨h1, rfl⟩ := zL_bl z m j u hj
        rw [WideShapes.add_plain]
        exact hc j h1
      · rw [List.length_append, zL_len, bl_app]
        exact h2
theorem wpList_appB {ops : Array Oper} {rest : List Oper} {o : Oper} {a : Act} {Q : Exit → Act → World → Prop} (w : World) (hgd : o.guard = none) (s x : Operand)
    (ho : o.op = .call { callee := .builtin .append, args := #[s, x], argTypes := #[27, 27] })
    (base : Nat) (v : Value) (zs : List Int) (hs : a.eval s = v) (hown : w.ownsRow base 5 1 v zs.length (bl zs))
    (xa : Option Addr) (m c : Nat) (z : Nat → Int) (hx : a.eval x = .slice xa m c) (hb : BytesAt w xa m z) (h63 : zs.length + m ≤ 100000) (hbase : base ≤ w.heap.size)
    (h : ∀ v' w', w'.ownsRow base 5 1 v' (zs ++ zL z m).length (bl (zs ++ zL z m)) → w.grownBy w' v.ownBlock → wpList Tryz.prog ops Q rest (a.put o.dst v') w') : wpList Tryz.prog ops Q (o :: rest) a w :=
  wpList_plain hgd fun _ hK => wp_appB w s x ho base v zs hs hown xa m c z hx hb h63 hbase fun v' w' h2 h3 => hK _ _ (h v' w' h2 h3)
theorem step_appZ {ops : Array Oper} {o : Oper} {a : Act} {K : Act → World → Prop} {Q : Exit → Act → World → Prop} {E : Prop} (w : World) (hgd : o.guard = none) (s x : Operand)
    (ho : o.op = .call { callee := .builtin .append, args := #[s, x], argTypes := #[27, 27] })
    (base : Nat) (v : Value) (zs : List Int) (hs : a.eval s = v) (hown : w.ownsRow base 5 1 v zs.length (bl zs))
    (xa : Option Addr) (m c : Nat) (z : Nat → Int) (hx : a.eval x = .slice xa m c) (hb : BytesAt w xa m z) (h63 : zs.length + m ≤ 100000) (hbase : base ≤ w.heap.size)
    (h : ∀ v' w', w'.ownsRow base 5 1 v' (zs ++ zL z m).length (bl (zs ++ zL z m)) → w.grownBy w' v.ownBlock → K (a.put o.dst v') w') :
    if Region.wanted o (yielded ops a.tmps) = true then Oper.wp Tryz.prog o a w K Q else E := by
  have hw : Region.wanted o (yielded ops a.tmps) = true := by simp [Region.wanted, hgd]
  rw [if_pos hw]
  exact wp_appB w s x ho base v zs hs hown xa m c z hx hb h63 hbase h
/-- Pieces joined, the first k of them. -/
def jn (N : Nat → Nat) (Z : Nat → Nat → Int) : Nat → List Int
  | 0 => []
  | k + 1 => jn N Z k ++ zL (Z k) (N k)
theorem jn_len (N : Nat → Nat) (Z : Nat → Nat → Int) : ∀ k, (jn N Z k).length = sumL N k
  | 0 => rfl
  | k + 1 => by simp only [jn, List.length_append, jn_len N Z k, zL_len, sumL]
theorem sumL_mono (N : Nat → Nat) {k m : Nat} (h : k ≤ m) : sumL N k ≤ sumL N m := by
  induction m with
  | zero => have : k = 0 := by omega
            subst this; exact Nat.le_refl _
  | succ m ih =>
    by_cases e : k = m + 1
    · subst e; exact Nat.le_refl _
    · have := ih (by omega); simp only [sumL]; omega
set_option maxHeartbeats 2000000 in
theorem joined_any (m : Nat) (A : Nat → Option Addr) (N C : Nat → Nat) (Z : Nat → Nat → Int) (pb po pc : Nat) (w : World) (hs : sumL N m ≤ 90000) (hpb : pb < w.heap.size)
    (hp : ∀ i, i < m → w.cell? ⟨pb, po + i, none⟩ = some (.slice (A i) (N i) (C i)) ∧ BytesAt w (A i) (N i) (Z i)) (hm : m ≤ 3) :
    Calls Tryz.prog 117 #[.slice (some ⟨pb, po, none⟩) m pc] w fun e w' => ∃ v, e = .returned v ∧ Below w.heap.size w w' ∧ w'.ownsRow w.heap.size 5 1 v (jn N Z m).length (bl (jn N Z m)) := by
  have HP : Hid (∀ i, i < m → w.cell? ⟨pb, po + i, none⟩ = some (.slice (A i) (N i) (C i)) ∧ BytesAt w (A i) (N i) (Z i)) := hp
  clear hp
  go_enter Tryz.func117, Tryz.ntmps117
  go_wp2_with fail
  go_loopw [3, 5, 8] (fun v _ i wr => ∃ k : Nat, k ≤ m ∧ i = .int .i64 k ∧ Hid (Below w.heap.size w wr) ∧ Hid (wr.ownsRow w.heap.size 5 1 v (jn N Z k).length (bl (jn N Z k)))) (fun _ _ i _ => m - (intOf i).toNat)
  case atStart => exact ⟨0, by omega, rfl, Below.refl _ _, World.ownsRow_nil _ _ _ _⟩
  case round =>
    obtain ⟨k, hk, rfl, HB, HO⟩ := hrel
    by_cases hlt : k < m
    · have hlt' : (k : Int) < (m : Int) := by omega
      have hk1 : (0 : Int) ≤ (k : Int) := by omega
      have hc := cell_below (HP.out k hlt).1 HB.out
      have HBA : Hid (BytesAt wr (A k) (N k) (Z k)) := (HP.out k hlt).2.below HB.out
      have HLE : Hid ((jn N Z k).length + N k ≤ 100000) := by
        have h1 := jn_len N Z k
        have h2 := sumL_mono N (k := k + 1) (m := m) (by omega)
        simp only [sumL] at h2
        show (jn N Z k).length + N k ≤ 100000
        omega
      go_wp2_with (at_builtin; refine wpList_appB _ rfl (.tmp 12) (.tmp 13) rfl w.heap.size _ (jn N Z k) rfl HO.out (A k) (N k) (C k) (Z k) rfl HBA.out HLE.out HB.out.size ?_)
      intro v1 w1 ho1 hg1
      have HO1 : Hid (w1.ownsRow w.heap.size 5 1 v1 (jn N Z (k + 1)).length (bl (jn N Z (k + 1)))) := by
        show w1.ownsRow w.heap.size 5 1 v1 (jn N Z k ++ zL (Z k) (N k)).length (bl (jn N Z k ++ zL (Z k) (N k)))
        rw [List.length_append]
        exact ho1
      have HB1 : Hid (Below w.heap.size w w1) := HB.out.grown hg1 HB.out.size (fun q hq => (HO.out.lt q hq).1)
      clear ho1 hg1
      go_wp2_with fail
      go_roundw
      case rel => exact ⟨k + 1, hlt, by go_num, HB1, HO1⟩
      case measure => simp [intOf]; omega
    · have hkn : k = m := by omega
      subst hkn
      go_wp2_with fail
      go_ret
      exact ⟨_, rfl, HB.out, HO.out⟩
/-- What a log holds: sure bytes and loose ones. -/
structure Lo where
  n1 : Nat
  z1 : Nat → Int
  n2 : Nat
  z2 : Nat → Int
def LogAt (w : World) (a1 a2 : Option Addr) (L : Lo) : Prop := BytesAt w a1 L.n1 L.z1 ∧ BytesAt w a2 L.n2 L.z2
theorem LogAt.below {w w' : World} {a1 a2 : Option Addr} {L : Lo} (h : LogAt w a1 a2 L) (hb : Below w.heap.size w w') : LogAt w' a1 a2 L := ⟨h.1.below hb, h.2.below hb⟩
/-- All its bytes. -/
def aL (L : Lo) : List Int := zL L.z1 L.n1 ++ zL L.z2 L.n2
def aZ (L : Lo) (i : Nat) : Int := zOf (aL L) i
theorem aL_len (L : Lo) : (aL L).length = L.n1 + L.n2 := by simp [aL, zL_len]
structure LogByt (L : Lo) : Prop where
  p : Byt L.n1 L.z1
  q : Byt L.n2 L.z2
theorem aZ_byt {L : Lo} (h : LogByt L) : Byt (L.n1 + L.n2) (aZ L) := fun i hi => by
  have hm : (aL L).getD i 0 ∈ aL L := by
    have hl : i < (aL L).length := by rw [aL_len]; exact hi
    rw [List.getD_eq_getElem?_getD, List.getElem?_eq_getElem hl]
    exact List.getElem_mem hl
  have hb : ∀ x ∈ aL L, 0 ≤ x ∧ x ≤ 255 := fun x hx => by
    rcases List.mem_append.1 hx with h1 | h1
    · exact zL_byt h.p x h1
    · exact zL_byt h.q x h1
  exact hb _ hm
/-- The fault of a log. -/
def lgC (L : Lo) : Int := if 4000 < L.n1 + L.n2 then 2 else if 13 * cnt (aZ L) (L.n1 + L.n2) = L.n1 + L.n2 then 0 else 5
def two' {α : Type} (x y : α) (i : Nat) : α := if i = 0 then x else y
theorem jn_two (L : Lo) : jn (two' L.n1 L.n2) (two' L.z1 L.z2) 2 = aL L := by simp [jn, two', aL]
/-- All the bytes, in a row of one's own. -/
def AllAt (w : World) (base : Nat) (v : Value) (L : Lo) : Prop := ∃ ra rc, v = .slice ra (L.n1 + L.n2) rc ∧ L.n1 + L.n2 ≤ rc ∧ w.ownsRow base 5 1 (.slice ra (L.n1 + L.n2) rc) (aL L).length (bl (aL L)) ∧ (L.n1 + L.n2 = 0 ∨ ∃ g, ra = some ⟨g, 0, none⟩ ∧ base ≤ g ∧ g < w.heap.size ∧ BA w g 0 (L.n1 + L.n2) (aZ L))
theorem allAt_of {w : World} {base : Nat} {v : Value} {L : Lo} (h : w.ownsRow base 5 1 v (aL L).length (bl (aL L))) : AllAt w base v L := by
  have hl := aL_len L
  rw [hl] at h
  rcases h.2 with ⟨rfl, h0⟩ | ⟨g, cap, cur, rfl, hbg, hg, hnc, _⟩
  · exact ⟨none, 0, by rw [h0], by omega, by rw [hl]; rw [h0] at h ⊢; exact h, .inl h0⟩
  · have hlt : g < w.heap.size := by obtain ⟨hlt, _⟩ := Array.getElem?_eq_some_iff.1 hg; exact hlt
    refine ⟨_, cap, rfl, hnc, by rw [hl]; exact h, .inr ⟨g, rfl, hbg, hlt, fun i hi => ?_⟩⟩
    have := h.cellAt i (by omega)
    rw [Nat.zero_add, this]
    simp [bl, hl, hi, aZ, zOf]
theorem AllAt.cond {w : World} {base : Nat} {ra : Option Addr} {rc : Nat} {L : Lo} (h : L.n1 + L.n2 = 0 ∨ ∃ g, ra = some ⟨g, 0, none⟩ ∧ base ≤ g ∧ g < w.heap.size ∧ BA w g 0 (L.n1 + L.n2) (aZ L)) :
    ∃ b, L.n1 + L.n2 = 0 ∨ ra = some ⟨b, 0, none⟩ ∧ b < w.heap.size ∧ BA w b 0 (L.n1 + L.n2) (aZ L) := by
  rcases h with h | ⟨g, h1, h2, h3, h4⟩
  · exact ⟨0, .inl h⟩
  · exact ⟨g, .inr ⟨h1, h3, h4⟩⟩
theorem cell_two_new4 (w : World) (x y : Value) (t : TypeId) : ∀ i, i < 2 → (w.alloc (.cells #[x, y] t)).cell? ⟨w.heap.size, 0 + i, none⟩ = some (two' x y i) := fun i hi => by
  rcases (by omega : i = 0 ∨ i = 1) with rfl | rfl
  · simp [two']
  · simp [two']
/-- joined of the two pieces of a log, which stand in a block of their own. -/
theorem joined_two (L : Lo) (a1 a2 : Option Addr) (c1 c2 g : Nat) (w : World) (hg : w.heap.size = g) (hs : L.n1 + L.n2 ≤ 90000) (h : LogAt w a1 a2 L) :
    Calls Tryz.prog 117 #[.slice (some ⟨g, 0, none⟩) 2 2] (w.alloc (.cells #[.slice a1 L.n1 c1, .slice a2 L.n2 c2] 27)) fun e w' => ∃ v, e = .returned v ∧ Below w.heap.size w w' ∧ AllAt w' w.heap.size v L := by
  subst hg
  have hb := below_new w (.cells #[.slice a1 L.n1 c1, .slice a2 L.n2 c2] 27)
  refine (joined_any 2 (two' a1 a2) (two' L.n1 L.n2) (two' c1 c2) (two' L.z1 L.z2) w.heap.size 0 2 _ (by simp [sumL, two']; omega) (by rw [World.size_alloc]; omega) (fun i hi => ⟨?_, ?_⟩) (by omega)).mono ?_
  · rw [cell_two_new4 w _ _ _ i hi]
    rcases (by omega : i = 0 ∨ i = 1) with rfl | rfl <;> rfl
  · rcases (by omega : i = 0 ∨ i = 1) with rfl | rfl
    · exact h.1.below hb
    · exact h.2.below hb
  · rintro e w' ⟨v, rfl, hb1, ho⟩
    rw [jn_two] at ho
    refine ⟨v, rfl, below_then hb hb1, allAt_of ?_⟩
    rw [World.size_alloc] at ho
    exact rowB_down ho (by omega)
/-- An answer that is a log's records, or its fault. -/
def RlR (L : Lo) (w : World) (e : Ending) (w' : World) : Prop :=
  ∃ a cap u m, e = .returned (.agg #[.int .i64 (lgC L), .int .i64 u, .slice a m cap]) ∧ Hid (m = (if lgC L = 0 then cnt (aZ L) (L.n1 + L.n2) else 0) ∧ u = 13 * (m : Int)) ∧ Below w.heap.size w w' ∧ Own8 w' w.heap.size w'.heap.size a m (zRs (aZ L))
theorem lgC_many {L : Lo} (h : 4000 < L.n1 + L.n2) : lgC L = 2 := by rw [lgC, if_pos h]
theorem lgC_ok {L : Lo} (h : ¬ 4000 < L.n1 + L.n2) (h2 : 13 * cnt (aZ L) (L.n1 + L.n2) = L.n1 + L.n2) : lgC L = 0 := by rw [lgC, if_neg h, if_pos h2]
theorem lgC_text {L : Lo} (h : ¬ 4000 < L.n1 + L.n2) (h2 : ¬ 13 * cnt (aZ L) (L.n1 + L.n2) = L.n1 + L.n2) : lgC L = 5 := by rw [lgC, if_neg h, if_neg h2]
set_option maxHeartbeats 4000000 in
theorem readLog_any (L : Lo) (a1 a2 : Option Addr) (c1 c2 : Nat) (w : World) (hn1 : L.n1 ≤ 1048576) (hn2 : L.n2 ≤ 1048576) (hby : LogByt L) (h : LogAt w a1 a2 L) :
    Calls Tryz.prog 93 #[.agg #[.slice a1 L.n1 c1, .slice a2 L.n2 c2]] w (RlR L w) := by
  have hb0 : ∀ o1 o2, Below w.heap.size w ((w.alloc o1).alloc o2) := fun o1 o2 => ((Below.refl _ _).alloc (Nat.le_refl _) _).alloc (by simp) _
  have HA : Hid (∀ o1 o2, LogAt ((w.alloc o1).alloc o2) a1 a2 L) := fun o1 o2 => h.below (hb0 o1 o2)
  have HY : Hid (LogByt L) := hby
  have hwr : IntKind.i64.wrap ((L.n1 : Int) + (L.n2 : Int)) = (L.n1 : Int) + (L.n2 : Int) := by rw [IntKind.wrap_i64]; omega
  clear h hby
  by_cases hm : 4000 < L.n1 + L.n2
  · have hm' : 4000 < (L.n1 : Int) + (L.n2 : Int) := by omega
    have HC : Hid (lgC L = 2) := lgC_many hm
    go_enter Tryz.func93, Tryz.ntmps93
    go_wp2_with fail
    refine bodyPost_ret (v := .agg #[.int .i64 2, .int .i64 0, .slice none 0 0]) (by simp [results, Tryz.results93, go_sem]) rfl ?_
    refine ⟨none, 0, 0, 0, by rw [HC.out], by rw [HC.out]; exact ⟨rfl, rfl⟩, ?_, ?_, .inl rfl⟩
    · repeat (first | exact hb0 _ _ | refine Below.setCell ?_ (by first | omega | (simp <;> omega)) _)
    · exact Nat.le_refl _
  · have hm' : ¬ (4000 < (L.n1 : Int) + (L.n2 : Int)) := by omega
    go_enter Tryz.func93, Tryz.ntmps93
    go_wp2_with fail
    refine (joined_two L a1 a2 c1 c2 _ _ ?_ (by omega) (HA.out _ _)).mono ?_
    · simp
    rintro e w1 ⟨v1, rfl, hb1, hall⟩
    obtain ⟨ra, rc, rfl, hrc, ho1, hcond⟩ := hall
    obtain ⟨b, hcd⟩ := AllAt.cond (rc := rc) hcond
    have hz1 : w.heap.size + 2 ≤ w1.heap.size := by have := hb1.size; simp at this; omega
    obtain ⟨hcc, hff⟩ := bcell hb1
    have r0 : w1.cell? ⟨w.heap.size + 1, 0, none⟩ = some (.int .i64 0) := by rw [hcc _ _ (by simp <;> omega)]; simp [go_sem]
    have r1 : w1.cell? ⟨w.heap.size + 1, 1, none⟩ = some (.int .i64 0) := by rw [hcc _ _ (by simp <;> omega)]; simp [go_sem]
    have r2 : w1.cell? ⟨w.heap.size + 1, 2, none⟩ = some (.slice none 0 0) := by rw [hcc _ _ (by simp <;> omega)]; simp [go_sem]
    have fz : ∀ i, w1.frozen? ⟨w.heap.size + 1, i, none⟩ = false := fun i => by rw [hff _ _ (by simp <;> omega)]; simp [go_sem]
    have HB1 : Hid (Below w.heap.size w w1) := below_then (hb0 _ _) hb1
    have HCD : Hid (L.n1 + L.n2 = 0 ∨ ra = some ⟨b, 0, none⟩ ∧ b < w1.heap.size ∧ BA w1 b 0 (L.n1 + L.n2) (aZ L)) := hcd
    clear hcc hff hb1 hb0 ho1 hcond hcd
    go_wp2_with fail
    refine (implUr_any (L.n1 + L.n2) (aZ L) ra b 0 rc w1 hrc (by omega) (aZ_byt HY.out) HCD.out).mono ?_
    rintro e w2 ⟨rb, rcp, rfl, hb2, ho2⟩
    have s0 := cell_below r0 hb2
    have s1 := cell_below r1 hb2
    have s2 := cell_below r2 hb2
    have sf : ∀ i, w2.frozen? ⟨w.heap.size + 1, i, none⟩ = false := fun i => (hb2.frozen (p := ⟨w.heap.size + 1, i, none⟩) (by show w.heap.size + 1 < _; omega)).trans (fz i)
    have t0 := fun o : Obj => cell_alloc s0 o
    have t1 := fun o : Obj => cell_alloc s1 o
    have t2 := fun o : Obj => cell_alloc s2 o
    have tf : ∀ i c t, (w2.alloc (.cells c t)).frozen? ⟨w.heap.size + 1, i, none⟩ = false := fun i c t => by rw [frozen?_alloc_cells]; exact sf i
    have HB2 : Hid (Below w.heap.size w w2) := below_then HB1.out hb2
    have HO2 : Hid (Own8 w2 (w1.heap.size + 1) w2.heap.size rb (cnt (aZ L) (L.n1 + L.n2)) (zRs (aZ L))) := own8_of_row ho2
    have hcl := cnt_le (aZ L) (L.n1 + L.n2)
    by_cases hc : 13 * cnt (aZ L) (L.n1 + L.n2) = L.n1 + L.n2
    · have HC : Hid (lgC L = 0) := lgC_ok hm hc
      have hd : (13 * (cnt (aZ L) (L.n1 + L.n2) : Int) != ((L.n1 + L.n2 : Nat) : Int)) = false := by simp; omega
      generalize hcn : cnt (aZ L) (L.n1 + L.n2) = m at *
      have HM : Hid (cnt (aZ L) (L.n1 + L.n2) = m) := hcn
      clear hcn hc hcl hb2 ho2 s0 s1 s2 sf r0 r1 r2 fz
      go_wp2_with fail
      refine bodyPost_ret (v := .agg #[.int .i64 0, .int .i64 (13 * (m : Int)), .slice rb m rcp]) (by simp [results, Tryz.results93, go_sem, *]) rfl ?_
      have hw : ∀ w7, Writes (w.heap.size + 1) (w.heap.size + 2) (w2.alloc (.cells #[.int .i64 0, .int .i64 (13 * (m : Int)), .slice rb m rcp] 109)) w7 → w7.heap.size = (w2.alloc (.cells #[.int .i64 0, .int .i64 (13 * (m : Int)), .slice rb m rcp] 109)).heap.size → RlR L w (.returned (.agg #[.int .i64 0, .int .i64 (13 * (m : Int)), .slice rb m rcp])) w7 := fun w7 h7 e7 => by
        refine ⟨rb, rcp, 13 * (m : Int), m, by rw [HC.out], ⟨by rw [if_pos HC.out, HM.out], rfl⟩, Writes.below (HB2.out.alloc HB2.out.size _) h7 (by omega), ?_⟩
        rw [e7]
        have hz2 := HB2.out.size
        exact ((HO2.out.below (below_new _ _)).writes h7 (.inr (by omega))).wide (by omega) (by rw [World.size_alloc]; omega) (by have := h7.size; omega)
      refine hw _ ?_ (by simp [World.setCell])
      repeat (first | exact Writes.refl _ _ _ | apply Writes.drew | refine Writes.setCell ?_ (by first | omega | (simp <;> omega)) (by first | omega | (simp <;> omega)) _)
    · have HC : Hid (lgC L = 5) := lgC_text hm hc
      have hd : (13 * (cnt (aZ L) (L.n1 + L.n2) : Int) != ((L.n1 + L.n2 : Nat) : Int)) = true := by simp; omega
      generalize hcn : cnt (aZ L) (L.n1 + L.n2) = m at *
      clear hcn hc hcl hb2 ho2 s0 s1 s2 sf r0 r1 r2 fz
      go_wp2_with fail
      refine bodyPost_ret (v := .agg #[.int .i64 5, .int .i64 0, .slice none 0 0]) (by simp [results, Tryz.results93, go_sem, *]) rfl ?_
      refine ⟨none, 0, 0, 0, by rw [HC.out], by rw [HC.out]; exact ⟨rfl, rfl⟩, ?_, ?_, .inl rfl⟩
      · repeat (first | exact HB2.out.alloc HB2.out.size _ | refine Below.setCell ?_ (by first | omega | (simp <;> omega)) _)
      · exact Nat.le_refl _
end Go.Proofs.YtnplheilojhpmaaGreat
