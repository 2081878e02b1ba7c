/- Numbers read from bytes: the walks of impl.readNumber and spec.l1Take. -/
import Derived.Test.YtannmobmmnoegaaGreatQPk
import Derived.Test.YtannmobmmnoegaaGreatQBase
import Derived.Test.YtannmobmmnoegaaGreatQSum
import Derived.Laws.BitsLemmas
import Derived.Laws.BytesArg
namespace Go.Proofs.YtannmobmmnoegaaGreat
open Go.RowKit Go.Deep
set_option linter.unusedVariables false
set_option maxRecDepth 20000

/-- The n pages at 'a': page i has L i bytes, Z i. -/
def PagesAt (w : World) (a : Option Addr) (n : Nat) (L : Nat → Nat) (Z : Nat → Nat → Int) : Prop :=
  n = 0 ∨ ∃ b off, a = some ⟨b, off, none⟩ ∧ b < w.heap.size ∧ ∀ i, i < n → ∃ ai ci, w.cell? ⟨b, off + i, none⟩ = some (.slice ai (L i) ci) ∧ BytesAt w ai (L i) (Z i) ∧ L i ≤ ci
/-- The n loose writes at 'a'. -/
def LoosesAt (w : World) (a : Option Addr) (n : Nat) (P T : Nat → Int) (L : Nat → Nat) (Z : Nat → Nat → Int) : Prop :=
  n = 0 ∨ ∃ b off, a = some ⟨b, off, none⟩ ∧ b < w.heap.size ∧ ∀ i, i < n → w.cell? ⟨b, off + i * 3, none⟩ = some (.int .i64 (P i)) ∧ w.cell? ⟨b, off + i * 3 + 1, none⟩ = some (.int .i64 (T i)) ∧
    ∃ ai ci, w.cell? ⟨b, off + i * 3 + 2, none⟩ = some (.slice ai (L i) ci) ∧ BytesAt w ai (L i) (Z i) ∧ L i ≤ ci
theorem PagesAt.below {w w' : World} {a : Option Addr} {n : Nat} {L : Nat → Nat} {Z : Nat → Nat → Int} (h : PagesAt w a n L Z) (hb : Below w.heap.size w w') : PagesAt w' a n L Z := by
  rcases h with h | ⟨b, off, ha, hl, hc⟩
  · exact .inl h
  · refine .inr ⟨b, off, ha, Nat.lt_of_lt_of_le hl hb.size, fun i hi => ?_⟩
    obtain ⟨ai, ci, h1, h2, h3⟩ := hc i hi
    exact ⟨ai, ci, (hb.cell (p := ⟨b, off + i, none⟩) hl).trans h1, h2.below hb, h3⟩
theorem LoosesAt.below {w w' : World} {a : Option Addr} {n : Nat} {P T : Nat → Int} {L : Nat → Nat} {Z : Nat → Nat → Int} (h : LoosesAt w a n P T L Z) (hb : Below w.heap.size w w') : LoosesAt w' a n P T L Z := by
  rcases h with h | ⟨b, off, ha, hl, hc⟩
  · exact .inl h
  · refine .inr ⟨b, off, ha, Nat.lt_of_lt_of_le hl hb.size, fun i hi => ?_⟩
    obtain ⟨h0, h1, ai, ci, h2, h3, h4⟩ := hc i hi
    exact ⟨(hb.cell (p := ⟨b, _, none⟩) hl).trans h0, (hb.cell (p := ⟨b, _, none⟩) hl).trans h1, ai, ci, (hb.cell (p := ⟨b, _, none⟩) hl).trans h2, h3.below hb, h4⟩
def sumL (L : Nat → Nat) : Nat → Nat
  | 0 => 0
  | k + 1 => sumL L k + L k

/-! ### laws.szDisk -/
theorem szByteS_any (n : Nat) (a : Option Addr) (cap : Nat) (x : Int) (w : World) (hn : n ≤ 9223372036854775807) (h0 : 0 ≤ x) (h1 : x ≤ 1048576) :
    Calls Tryz.prog 91 #[.slice a n cap, .int .i64 x] w fun e w' => e = .returned (.int .i64 (if x - n < 0 then -1 else x - n)) ∧ w' = w := by
  by_cases h : x - (n : Int) < 0
  · go_enter Tryz.func91, Tryz.ntmps91
    go_wp2
    go_ret
    exact ⟨rfl, rfl⟩
  · go_enter Tryz.func91, Tryz.ntmps91
    go_wp2
    go_ret
    exact ⟨rfl, rfl⟩
set_option maxHeartbeats 400000 in
theorem szByteSS_any (n : Nat) (L : Nat → Nat) (Z : Nat → Nat → Int) (a : Option Addr) (cap : Nat) (x : Int) (w : World) (hn : n ≤ 9223372036854775807) (hL : ∀ i, i < n → L i ≤ 9223372036854775807) (h0 : 0 ≤ x) (h1 : x ≤ 1048576) (h : PagesAt w a n L Z) :
    Calls Tryz.prog 89 #[.slice a n cap, .int .i64 x] w fun e w' => w' = w ∧ ∃ r : Int, e = .returned (.int .i64 r) ∧ (r = -1 ∨ (0 ≤ r ∧ r = x - n - sumL L n)) := by
  by_cases hx : x - (n : Int) < 0
  · clear hL h
    go_enter Tryz.func89, Tryz.ntmps89
    go_wp2
    go_ret
    exact ⟨rfl, _, rfl, .inl rfl⟩
  · go_enter Tryz.func89, Tryz.ntmps89
    have HL : Hid (∀ i, i < n → L i ≤ 9223372036854775807) := hL
    have HA : Hid (PagesAt w a n L Z) := h
    clear hL h
    go_wp2
    go_loop [1, 5] (fun q i => ∃ k : Nat, k ≤ n ∧ i = .int .i64 k ∧ q = .int .i64 (x - n - sumL L k) ∧ 0 ≤ x - n - sumL L k) (fun _ i => n - (intOf i).toNat)
    case atStart => exact ⟨0, Nat.zero_le _, rfl, by simp [sumL], by simp [sumL]; omega⟩
    case round =>
      obtain ⟨k, hk, rfl, rfl, hnn⟩ := hrel
      by_cases hlt : k < n
      · rcases HA.out with h | ⟨b, off, rfl, hl, hc⟩
        · omega
        obtain ⟨ai, ci, hcell, -⟩ := hc k hlt
        have hLk := HL.out k hlt
        have hs : (sumL L (k + 1) : Int) = sumL L k + L k := by simp [sumL]
        generalize hS : (sumL L k : Int) = S at *
        clear hc
        by_cases hneg : x - n - S - (L k : Int) < 0
        · go_wp2_with fail
          refine (szByteS_any (L k) ai ci (x - n - S) w hLk hnn (by omega)).mono ?_
          rintro e w' ⟨rfl, rfl⟩
          rw [if_pos hneg]
          go_wp2
          go_ret
          exact ⟨rfl, _, rfl, .inl rfl⟩
        · go_wp2_with fail
          refine (szByteS_any (L k) ai ci (x - n - S) w hLk hnn (by omega)).mono ?_
          rintro e w' ⟨rfl, rfl⟩
          rw [if_neg (by omega)]
          go_wp2
          go_round
          case rel => exact ⟨k + 1, hlt, by go_num, by rw [hs]; go_num, by rw [hs]; omega⟩
          case measure => simp [intOf]; omega
      · have hkn : k = n := by omega
        go_wp2
        go_ret
        exact ⟨rfl, _, rfl, .inr ⟨by rw [hkn] at hnn; exact hnn, rfl⟩⟩
theorem szLoose_any (p t : Int) (n : Nat) (a : Option Addr) (cap : Nat) (x : Int) (w : World) (hn : n ≤ 9223372036854775807) (h0 : 0 ≤ x) (h1 : x ≤ 1048576) :
    Calls Tryz.prog 159 #[.agg #[.int .i64 p, .int .i64 t, .slice a n cap], .int .i64 x] w fun e w' => e = .returned (.int .i64 (if x - n < 0 then -1 else x - n)) ∧ Below w.heap.size w w' := by
  by_cases h : x - (n : Int) < 0
  · go_enter Tryz.func159, Tryz.ntmps159
    go_wp2_with fail
    refine (szByteS_any n a cap x _ hn h0 h1).mono ?_
    rintro e w' ⟨rfl, rfl⟩
    rw [if_pos (by omega)]
    go_wp2
    go_ret
    exact ⟨rfl, below_new _ _⟩
  · go_enter Tryz.func159, Tryz.ntmps159
    go_wp2_with fail
    refine (szByteS_any n a cap x _ hn h0 h1).mono ?_
    rintro e w' ⟨rfl, rfl⟩
    rw [if_neg (by omega)]
    go_wp2
    go_ret
    exact ⟨rfl, below_new _ _⟩
set_option maxHeartbeats 400000 in
theorem szLooseS_any (n : Nat) (P T : Nat → Int) (L : Nat → Nat) (Z : Nat → Nat → Int) (a : Option Addr) (cap : Nat) (x : Int) (w : World) (hn : n ≤ 9223372036854775807) (hL : ∀ i, i < n → L i ≤ 9223372036854775807) (h0 : 0 ≤ x) (h1 : x ≤ 1048576) (h : LoosesAt w a n P T L Z) :
    Calls Tryz.prog 90 #[.slice a n cap, .int .i64 x] w fun e w' => Below w.heap.size w w' ∧ ∃ r : Int, e = .returned (.int .i64 r) ∧ (r = -1 ∨ (0 ≤ r ∧ r = x - n - sumL L n)) := by
  by_cases hx : x - (n : Int) < 0
  · clear hL h
    go_enter Tryz.func90, Tryz.ntmps90
    go_wp2
    go_ret
    exact ⟨Below.refl _ _, _, rfl, .inl rfl⟩
  · go_enter Tryz.func90, Tryz.ntmps90
    have HL : Hid (∀ i, i < n → L i ≤ 9223372036854775807) := hL
    have HA : Hid (LoosesAt w a n P T L Z) := h
    clear hL h
    go_wp2
    go_loopw [1, 5] (fun q i wr => ∃ k : Nat, k ≤ n ∧ i = .int .i64 k ∧ q = .int .i64 (x - n - sumL L k) ∧ 0 ≤ x - n - sumL L k ∧ Below w.heap.size w wr) (fun _ i _ => n - (intOf i).toNat)
    case atStart => exact ⟨0, Nat.zero_le _, rfl, by simp [sumL], by simp [sumL]; omega, Below.refl _ _⟩
    case round =>
      obtain ⟨k, hk, rfl, rfl, hnn, hb⟩ := hrel
      by_cases hlt : k < n
      · rcases HA.out.below hb with h | ⟨b, off, rfl, hl, hc⟩
        · omega
        obtain ⟨q0, q1, ai, ci, hcell, -⟩ := hc k hlt
        have hLk := HL.out k hlt
        have hs : (sumL L (k + 1) : Int) = sumL L k + L k := by simp [sumL]
        generalize hS : (sumL L k : Int) = S at *
        have HB : Hid (Below w.heap.size w wr) := hb
        clear hc hb
        by_cases hneg : x - n - S - (L k : Int) < 0
        · go_wp2_with fail
          refine (szLoose_any (P k) (T k) (L k) ai ci (x - n - S) wr hLk hnn (by omega)).mono ?_
          rintro e w' ⟨rfl, hb'⟩
          rw [if_pos (by omega)]
          go_wp2
          go_ret
          exact ⟨below_then HB.out hb', _, rfl, .inl rfl⟩
        · go_wp2_with fail
          refine (szLoose_any (P k) (T k) (L k) ai ci (x - n - S) wr hLk hnn (by omega)).mono ?_
          rintro e w' ⟨rfl, hb'⟩
          rw [if_neg (by omega)]
          go_wp2
          go_roundw
          case rel => exact ⟨k + 1, hlt, by go_num, by rw [hs]; go_num, by rw [hs]; omega, below_then HB.out hb'⟩
          case measure => simp [intOf]; omega
      · have hkn : k = n := by omega
        go_wp2
        go_ret
        exact ⟨hb, _, rfl, .inr ⟨by first | exact hnn | (rw [hkn] at hnn; exact hnn), by first | rfl | rw [hkn]⟩⟩
/-- Pages in blocks of their own from lo on, below hi. -/
def OwnP (w : World) (lo hi : Nat) (a : Option Addr) (n : Nat) (L : Nat → Nat) (Z : Nat → Nat → Int) : Prop :=
  hi ≤ w.heap.size ∧ (n = 0 ∨ ∃ b off, a = some ⟨b, off, none⟩ ∧ lo ≤ b ∧ b < hi ∧ ∃ g o c : Nat → Nat, (∀ i j, i < n → j < n → g i = g j → i = j) ∧
    ∀ i, i < n → g i ≠ b ∧ lo ≤ g i ∧ g i < hi ∧ w.cell? ⟨b, off + i, none⟩ = some (.slice (some ⟨g i, o i, none⟩) (L i) (c i)) ∧ Row1 w (g i) (o i) (L i) (Z i) ∧ L i ≤ c i)
/-- Loose writes in blocks of their own from lo on, below hi. -/
def OwnL (w : World) (lo hi : Nat) (a : Option Addr) (n : Nat) (P T : Nat → Int) (L : Nat → Nat) (Z : Nat → Nat → Int) : Prop :=
  hi ≤ w.heap.size ∧ (n = 0 ∨ ∃ b off, a = some ⟨b, off, none⟩ ∧ lo ≤ b ∧ b < hi ∧ ∃ g o c : Nat → Nat, (∀ i j, i < n → j < n → g i = g j → i = j) ∧
    ∀ i, i < n → g i ≠ b ∧ lo ≤ g i ∧ g i < hi ∧ w.cell? ⟨b, off + i * 3, none⟩ = some (.int .i64 (P i)) ∧ w.cell? ⟨b, off + i * 3 + 1, none⟩ = some (.int .i64 (T i)) ∧
      w.cell? ⟨b, off + i * 3 + 2, none⟩ = some (.slice (some ⟨g i, o i, none⟩) (L i) (c i)) ∧ w.frozen? ⟨b, off + i * 3, none⟩ = false ∧ w.frozen? ⟨b, off + i * 3 + 1, none⟩ = false ∧ Row1 w (g i) (o i) (L i) (Z i) ∧ L i ≤ c i)
theorem Row1.at {w : World} {b off n : Nat} {z : Nat → Int} (h : Row1 w b off n z) (hb : b < w.heap.size) : BytesAt w (some ⟨b, off, none⟩) n z := .inr ⟨b, off, rfl, hb, h.1⟩
theorem Row1.block {w w' : World} {b off n : Nat} {z : Nat → Int} (h : Row1 w b off n z) (e : w'.heap[b]? = w.heap[b]?) : Row1 w' b off n z :=
  ⟨fun i hi => (World.cell?_of_block (w := w) (a := ⟨b, _, none⟩) e).trans (h.1 i hi), fun i hi => (World.frozen?_of_block (w := w) (a := ⟨b, _, none⟩) e).trans (h.2 i hi)⟩
theorem Row1.of_row {w : World} {b n : Nat} {z : Nat → Int} (h : w.rowIs b 5 n (fun i => .int .u8 (z i))) : Row1 w b 0 n z :=
  ⟨fun i hi => by rw [Nat.zero_add]; exact h.cell hi, fun i hi => h.frozen _⟩
theorem OwnP.at {w : World} {lo hi : Nat} {a : Option Addr} {n : Nat} {L : Nat → Nat} {Z : Nat → Nat → Int} (h : OwnP w lo hi a n L Z) : PagesAt w a n L Z := by
  obtain ⟨h0, h1 | ⟨b, off, ha, _, hl, g, o, c, _, hc⟩⟩ := h
  · exact .inl h1
  · refine .inr ⟨b, off, ha, by omega, fun i hi => ?_⟩
    obtain ⟨_, _, hg, h2, h3, h4⟩ := hc i hi
    exact ⟨_, _, h2, h3.at (by omega), h4⟩
theorem OwnL.at {w : World} {lo hi : Nat} {a : Option Addr} {n : Nat} {P T : Nat → Int} {L : Nat → Nat} {Z : Nat → Nat → Int} (h : OwnL w lo hi a n P T L Z) : LoosesAt w a n P T L Z := by
  obtain ⟨h0, h1 | ⟨b, off, ha, _, hl, g, o, c, _, hc⟩⟩ := h
  · exact .inl h1
  · refine .inr ⟨b, off, ha, by omega, fun i hi => ?_⟩
    obtain ⟨_, _, hg, h2, h3, h4, _, _, h5, h6⟩ := hc i hi
    exact ⟨h2, h3, _, _, h4, h5.at (by omega), h6⟩
theorem OwnP.writes {w w' : World} {lo hi lo' hi' : Nat} {a : Option Addr} {n : Nat} {L : Nat → Nat} {Z : Nat → Nat → Int} (h : OwnP w lo hi a n L Z) (hw : Writes lo' hi' w w') (hd : hi ≤ lo' ∨ hi' ≤ lo) : OwnP w' lo hi a n L Z := by
  obtain ⟨h0, h1 | ⟨b, off, ha, hlo, hl, g, o, c, hj, hc⟩⟩ := h
  · exact ⟨Nat.le_trans h0 hw.size, .inl h1⟩
  · refine ⟨Nat.le_trans h0 hw.size, .inr ⟨b, off, ha, hlo, hl, g, o, c, hj, fun i hi => ?_⟩⟩
    obtain ⟨k0, k1, k2, k3, k4, k5⟩ := hc i hi
    exact ⟨k0, k1, k2, (hw.cell (by omega) (by omega) _).trans k3, k4.block (hw.block _ (by omega) (by omega)), k5⟩
theorem OwnL.writes {w w' : World} {lo hi lo' hi' : Nat} {a : Option Addr} {n : Nat} {P T : Nat → Int} {L : Nat → Nat} {Z : Nat → Nat → Int} (h : OwnL w lo hi a n P T L Z) (hw : Writes lo' hi' w w') (hd : hi ≤ lo' ∨ hi' ≤ lo) : OwnL w' lo hi a n P T L Z := by
  obtain ⟨h0, h1 | ⟨b, off, ha, hlo, hl, g, o, c, hj, hc⟩⟩ := h
  · exact ⟨Nat.le_trans h0 hw.size, .inl h1⟩
  · refine ⟨Nat.le_trans h0 hw.size, .inr ⟨b, off, ha, hlo, hl, g, o, c, hj, fun i hi => ?_⟩⟩
    obtain ⟨k0, k1, k2, k3, k4, k5, k6, k7, k8, k9⟩ := hc i hi
    have e := hw.block b (by omega) (by omega)
    exact ⟨k0, k1, k2, (hw.cell (by omega) (by omega) _).trans k3, (hw.cell (by omega) (by omega) _).trans k4, (hw.cell (by omega) (by omega) _).trans k5, (World.frozen?_of_block (w := w) (a := ⟨b, _, none⟩) e).trans k6, (World.frozen?_of_block (w := w) (a := ⟨b, _, none⟩) e).trans k7, k8.block (hw.block _ (by omega) (by omega)), k9⟩
theorem OwnP.wide {w : World} {lo hi lo' hi' : Nat} {a : Option Addr} {n : Nat} {L : Nat → Nat} {Z : Nat → Nat → Int} (h : OwnP w lo hi a n L Z) (h1 : lo' ≤ lo) (h2 : hi ≤ hi') (h3 : hi' ≤ w.heap.size) : OwnP w lo' hi' a n L Z := by
  obtain ⟨h0, h4 | ⟨b, off, ha, hlo, hl, g, o, c, hj, hc⟩⟩ := h
  · exact ⟨h3, .inl h4⟩
  · refine ⟨h3, .inr ⟨b, off, ha, by omega, by omega, g, o, c, hj, fun i hi => ?_⟩⟩
    obtain ⟨k0, k1, k2, r⟩ := hc i hi
    exact ⟨k0, by omega, by omega, r⟩
theorem OwnP.below {w w' : World} {lo hi : Nat} {a : Option Addr} {n : Nat} {L : Nat → Nat} {Z : Nat → Nat → Int} (h : OwnP w lo hi a n L Z) (hb : Below w.heap.size w w') : OwnP w' lo hi a n L Z :=
  h.writes (Writes.of_below (lo := hi) (hi := hi) hb) (.inl (Nat.le_refl _))
/-! ### laws.toByteSS -/
theorem info22 : (Tryz.prog.info? 27).map (fun i => (i.zero, i.size, i.bytes)) = some (some (.slice none 0 0), 1, 24) := by kernel_rfl
/-- k of n pages are copied. -/
def TP (w wr : World) (k n : Nat) (L : Nat → Nat) (Z : Nat → Nat → Int) : Prop :=
  ∃ g : Nat → Nat, (∀ i j, i < k → j < k → g i = g j → i = j) ∧ (∀ i, i < k → w.heap.size < g i ∧ g i < wr.heap.size ∧ wr.rowIs (g i) 5 (L i) (fun j => .int .u8 (Z i j))) ∧
    wr.rowIs w.heap.size 27 n (fun i => if i < k then .slice (some ⟨g i, 0, none⟩) (L i) (L i) else .slice none 0 0)
theorem TP.step {w wr w1 : World} {k n : Nat} {L : Nat → Nat} {Z : Nat → Nat → Int} (h : TP w wr k n L Z) (hb : Below wr.heap.size wr w1) (hr : w1.rowIs wr.heap.size 5 (L k) (fun j => .int .u8 (Z k j))) :
    TP w (w1.setCell ⟨w.heap.size, k, none⟩ (.slice (some ⟨wr.heap.size, 0, none⟩) (L k) (L k))) (k + 1) n L Z := by
  obtain ⟨g, hj, hg, hrow⟩ := h
  have hw := hrow.lt
  have hs1 := hr.lt
  refine ⟨fun i => if i < k then g i else wr.heap.size, fun i j hi hj' e => ?_, fun i hi => ?_, ?_⟩
  · by_cases c1 : i < k <;> by_cases c2 : j < k <;> simp only [c1, c2, if_true, if_false] at e
    · exact hj i j c1 c2 e
    · have := hg i c1; omega
    · have := hg j c2; omega
    · omega
  · by_cases c1 : i < k
    · simp only [c1, if_true]
      obtain ⟨g0, g1, g2⟩ := hg i c1
      refine ⟨g0, by simp [World.setCell]; omega, World.rowIs.setOther (g2.of_block (hb.block _ g1)) (by show g i ≠ w.heap.size; omega) _⟩
    · have : i = k := by omega
      subst this
      simp only [Nat.lt_irrefl, if_false]
      exact ⟨hw, by simp [World.setCell]; omega, hr.setOther (by show wr.heap.size ≠ w.heap.size; omega) _⟩
  · refine ((hrow.of_block (hb.block _ hw)).set k _).congr fun i _ => ?_
    by_cases e : i = k
    · subst e; simp
    · by_cases c1 : i < k
      · have : i < k + 1 := by omega
        simp [e, c1, this]
      · have : ¬ i < k + 1 := by omega
        simp [e, c1, this]
theorem TP.own {w wr : World} {n : Nat} {L : Nat → Nat} {Z : Nat → Nat → Int} (h : TP w wr n n L Z) : OwnP wr w.heap.size wr.heap.size (some ⟨w.heap.size, 0, none⟩) n L Z := by
  obtain ⟨g, hj, hg, hrow⟩ := h
  refine ⟨Nat.le_refl _, .inr ⟨_, _, rfl, Nat.le_refl _, hrow.lt, g, fun _ => 0, L, hj, fun i hi => ?_⟩⟩
  obtain ⟨g0, g1, g2⟩ := hg i hi
  refine ⟨by omega, by omega, g1, ?_, Row1.of_row g2, Nat.le_refl _⟩
  rw [Nat.zero_add, hrow.cell hi]
  simp [hi]
set_option maxHeartbeats 400000 in
theorem toByteSS_any (n : Nat) (L : Nat → Nat) (Z : Nat → Nat → Int) (a : Option Addr) (cap : Nat) (w : World) (hn : n ≤ 1048576) (hL : ∀ i, i < n → L i ≤ 1048576) (h : PagesAt w a n L Z) :
    Calls Tryz.prog 101 #[.slice a n cap] w fun e w' =>
      e = .returned (.slice (some ⟨w.heap.size, 0, none⟩) n n) ∧ Below w.heap.size w w' ∧ OwnP w' w.heap.size w'.heap.size (some ⟨w.heap.size, 0, none⟩) n L Z := by
  have hmk := run_make_row' (P := Tryz.prog) 23 27 (.slice none 0 0) 24 Tryz.underlying23 info22 rfl .i64 .i64 n (by omega) (by omega)
  have HL : Hid (∀ i, i < n → L i ≤ 1048576) := hL
  have HA : Hid (PagesAt w a n L Z) := h
  clear hL h
  go_enter Tryz.func101, Tryz.ntmps101
  go_wp2
  go_loopw [4] (fun i wr => ∃ k : Nat, k ≤ n ∧ i = .int .i64 k ∧ Below w.heap.size w wr ∧ TP w wr k n L Z) (fun i _ => n - (intOf i).toNat)
  case atStart => exact ⟨0, Nat.zero_le _, rfl, (Below.refl _ _).alloc (Nat.le_refl _) _, fun _ => 0, fun i j h => by omega, fun i h => by omega, (World.rowIs_made w _ n 27).congr (fun i _ => by simp)⟩
  case round =>
    obtain ⟨k, hk, rfl, hb, hT⟩ := hrel
    by_cases hlt : k < n
    · rcases HA.out.below hb with h | ⟨b, off, rfl, hl, hc⟩
      · omega
      obtain ⟨ai, ci, hcell, hby, -⟩ := hc k hlt
      have HY : Hid (BytesAt wr ai (L k) (Z k)) := hby
      have HT : Hid (TP w wr k n L Z) := hT
      obtain ⟨g, -, -, hrow⟩ := hT
      have hsz := hrow.lt
      obtain ⟨v3, hv3⟩ : ∃ v, wr.cell? ⟨w.heap.size, k, none⟩ = some v := ⟨_, hrow.cell hlt⟩
      have hfz := hrow.frozen k
      have HB : Hid (Below w.heap.size w wr) := hb
      clear hc hb hrow hmk hby
      go_wp2_with fail
      refine (toByteS_any (L k) (Z k) ai ci wr (by have := HL.out k hlt; omega) HY.out).mono ?_
      rintro e w1 ⟨rfl, hb1, hr1⟩
      have g3 : w1.cell? ⟨w.heap.size, k, none⟩ = some v3 := (hb1.cell (p := ⟨_, _, none⟩) hsz).trans hv3
      have f3 : w1.frozen? ⟨w.heap.size, k, none⟩ = false := (hb1.frozen (p := ⟨_, _, none⟩) hsz).trans hfz
      have HB1 : Hid (Below wr.heap.size wr w1) := hb1
      have HR1 : Hid (w1.rowIs wr.heap.size 5 (L k) (fun j => .int .u8 (Z k j))) := hr1
      clear hb1 hr1 hv3 hfz
      go_wp2_with fail
      go_roundw
      case rel => exact ⟨k + 1, hlt, by go_num, (below_then HB.out HB1.out).setCell (Nat.le_refl _) _, HT.out.step HB1.out HR1.out⟩
      case measure => simp [intOf]; omega
    · have hkn : k = n := by omega
      have HT : Hid (TP w wr n n L Z) := by have h := hT; rw [hkn] at h; exact h
      clear hmk hT
      go_wp2
      go_ret
      exact ⟨rfl, hb, HT.out.own⟩
theorem info114 : (Tryz.prog.info? 168).map (fun i => (i.zero, i.size, i.bytes)) = some (some (.agg #[.int .i64 0, .int .i64 0, .slice none 0 0]), 3, 40) := by kernel_rfl
/-- The cells of loose writes. -/
def lv (P T : Nat → Int) (S : Nat → Value) (j : Nat) : Value := if j % 3 = 0 then .int .i64 (P (j / 3)) else if j % 3 = 1 then .int .i64 (T (j / 3)) else S (j / 3)
theorem lv0 (P T : Nat → Int) (S : Nat → Value) (i : Nat) : lv P T S (i * 3) = .int .i64 (P i) := by unfold lv; rw [if_pos (by omega)]; congr 2; omega
theorem lv1 (P T : Nat → Int) (S : Nat → Value) (i : Nat) : lv P T S (i * 3 + 1) = .int .i64 (T i) := by unfold lv; rw [if_neg (by omega), if_pos (by omega)]; congr 2; omega
theorem lv2 (P T : Nat → Int) (S : Nat → Value) (i : Nat) : lv P T S (i * 3 + 2) = S i := by unfold lv; rw [if_neg (by omega), if_neg (by omega)]; congr 1; omega
/-- 'make([]impl.Loose, n)'. -/
theorem run_make_looses (n : Nat) (hn : n ≤ 1099511627776) (w : World) :
    (Instr.makeSlice 36 (.int .i64 (n : Int)) (.int .i64 (n : Int))).run Tryz.prog w = .ok (.slice (some ⟨w.heap.size, 0, none⟩) n n) (w.alloc (.cells (madeCells #[.int .i64 0, .int .i64 0, .slice none 0 0] (n * 3)) 168)) := by
  obtain ⟨i, hi, hzz⟩ := Option.map_eq_some_iff.1 info114
  simp only [Prod.mk.injEq] at hzz
  obtain ⟨hz, hs, hb⟩ := hzz
  have hr := run_make (P := Tryz.prog) w 36 168 i _ Tryz.underlying36 hi hz .i64 .i64 n n (by omega) (Int.le_refl _) (by rw [hb]; omega) (by omega)
  simp only [Int.toNat_natCast, hs] at hr
  exact hr
theorem made_looses (w : World) (n : Nat) : (w.alloc (.cells (madeCells #[.int .i64 0, .int .i64 0, .slice none 0 0] (n * 3)) 168)).rowIs w.heap.size 168 (n * 3) (lv (fun _ => 0) (fun _ => 0) (fun _ => .slice none 0 0)) :=
  ⟨_, blk_alloc_new _ _, size_madeCells _ _, fun i hi => by
    have h : i % 3 = 0 ∨ i % 3 = 1 ∨ i % 3 = 2 := by omega
    rcases h with h | h | h <;> simp [madeCells, hi, lv, h]⟩
/-- k of n loose writes are copied. -/
def TL (w wr : World) (k n : Nat) (P T : Nat → Int) (L : Nat → Nat) (Z : Nat → Nat → Int) : Prop :=
  ∃ g : Nat → Nat, (∀ i j, i < k → j < k → g i = g j → i = j) ∧ (∀ i, i < k → w.heap.size < g i ∧ g i < wr.heap.size ∧ wr.rowIs (g i) 5 (L i) (fun j => .int .u8 (Z i j))) ∧
    wr.rowIs w.heap.size 168 (n * 3) (lv (fun i => if i < k then P i else 0) (fun i => if i < k then T i else 0) (fun i => if i < k then .slice (some ⟨g i, 0, none⟩) (L i) (L i) else .slice none 0 0))
theorem TL.step {w wr w1 : World} {k n B : Nat} {P T : Nat → Int} {L : Nat → Nat} {Z : Nat → Nat → Int} (h : TL w wr k n P T L Z) (hb : Below wr.heap.size wr w1) (hB : wr.heap.size ≤ B) (hr : w1.rowIs B 5 (L k) (fun j => .int .u8 (Z k j))) :
    TL w (((w1.setCell ⟨w.heap.size, k * 3, none⟩ (.int .i64 (P k))).setCell ⟨w.heap.size, k * 3 + 1, none⟩ (.int .i64 (T k))).setCell ⟨w.heap.size, k * 3 + 2, none⟩ (.slice (some ⟨B, 0, none⟩) (L k) (L k))) (k + 1) n P T L Z := by
  obtain ⟨g, hj, hg, hrow⟩ := h
  have hw := hrow.lt
  have hs1 := hr.lt
  refine ⟨fun i => if i < k then g i else B, fun i j hi hj' e => ?_, fun i hi => ?_, ?_⟩
  · by_cases c1 : i < k <;> by_cases c2 : j < k <;> simp only [c1, c2, if_true, if_false] at e
    · exact hj i j c1 c2 e
    · have := hg i c1; omega
    · have := hg j c2; omega
    · omega
  · by_cases c1 : i < k
    · simp only [c1, if_true]
      obtain ⟨g0, g1, g2⟩ := hg i c1
      refine ⟨g0, by simp [World.setCell]; have := hb.size; omega, ?_⟩
      refine World.rowIs.setOther (World.rowIs.setOther (World.rowIs.setOther (g2.of_block (hb.block _ g1)) ?_ _) ?_ _) ?_ _ <;> (show g i ≠ w.heap.size; omega)
    · have : i = k := by omega
      subst this
      simp only [Nat.lt_irrefl, if_false]
      refine ⟨by omega, by simp [World.setCell]; omega, ?_⟩
      refine World.rowIs.setOther (World.rowIs.setOther (World.rowIs.setOther hr ?_ _) ?_ _) ?_ _ <;> (show B ≠ w.heap.size; omega)
  · refine ((((hrow.of_block (hb.block _ hw)).set (k * 3) _).set (k * 3 + 1) _).set (k * 3 + 2) _).congr fun j _ => ?_
    by_cases e2 : j = k * 3 + 2
    · subst e2; rw [if_pos rfl, lv2]; simp
    · rw [if_neg e2]
      by_cases e1 : j = k * 3 + 1
      · subst e1; rw [if_pos rfl, lv1]; simp
      · rw [if_neg e1]
        by_cases e0 : j = k * 3
        · subst e0; rw [if_pos rfl, lv0]; simp
        · rw [if_neg e0]
          have : (j / 3 < k + 1) ↔ (j / 3 < k) := by omega
          unfold lv
          simp only [this]
          by_cases c : j / 3 < k
          · simp only [c, if_true]
          · simp only [c, if_false]
theorem TL.own {w wr : World} {n : Nat} {P T : Nat → Int} {L : Nat → Nat} {Z : Nat → Nat → Int} (h : TL w wr n n P T L Z) : OwnL wr w.heap.size wr.heap.size (some ⟨w.heap.size, 0, none⟩) n P T L Z := by
  obtain ⟨g, hj, hg, hrow⟩ := h
  refine ⟨Nat.le_refl _, .inr ⟨_, _, rfl, Nat.le_refl _, hrow.lt, g, fun _ => 0, L, hj, fun i hi => ?_⟩⟩
  obtain ⟨g0, g1, g2⟩ := hg i hi
  refine ⟨by omega, by omega, g1, ?_, ?_, ?_, hrow.frozen _, hrow.frozen _, Row1.of_row g2, Nat.le_refl _⟩
  · rw [Nat.zero_add, hrow.cell (by omega), lv0]; simp [hi]
  · rw [Nat.zero_add, hrow.cell (by omega), lv1]; simp [hi]
  · rw [Nat.zero_add, hrow.cell (by omega), lv2]; simp [hi]
/-- Three new blocks, then what they hold is turned: block B stays. -/
theorem row_far {w w' : World} {lo hi B n : Nat} {f : Nat → Value} {t : TypeId} (h : w.rowIs B t n f) (hw : Writes lo hi w w') (hB : hi ≤ B) : w'.rowIs B t n f := h.of_block (hw.block _ h.lt (.inr hB))
theorem toLoose_any (p t : Int) (n : Nat) (z : Nat → Int) (a : Option Addr) (cap : Nat) (w : World) (hn : n ≤ 1048576) (h : BytesAt w a n z) :
    Calls Tryz.prog 162 #[.agg #[.int .i64 p, .int .i64 t, .slice a n cap]] w fun e w' =>
      ∃ B, e = .returned (.agg #[.int .i64 p, .int .i64 t, .slice (some ⟨B, 0, none⟩) n n]) ∧ w.heap.size ≤ B ∧ Below w.heap.size w w' ∧ w'.rowIs B 5 n (fun j => .int .u8 (z j)) := by
  go_enter Tryz.func162, Tryz.ntmps162
  go_wp2_with fail
  have hb0 : ∀ o1 o2 o3, Below w.heap.size w (((w.alloc o1).alloc o2).alloc o3) := fun o1 o2 o3 => (((Below.refl _ _).alloc (Nat.le_refl _) _).alloc (by simp) _).alloc (by simp; omega) _
  refine (toByteS_any n z a cap _ (by omega) (h.below (hb0 _ _ _))).mono ?_
  rintro e w1 ⟨rfl, hb1, hr1⟩
  obtain ⟨hc, hf⟩ := bcell hb1
  have hz : w.heap.size + 2 < w1.heap.size := by have := hb1.size; simp at this; omega
  go_wp2_with fail
  refine bodyPost_ret (v := .agg #[.int .i64 p, .int .i64 t, .slice (some ⟨w.heap.size + 3, 0, none⟩) n n]) (by simp [results, Tryz.results162, go_sem, hc]) rfl ⟨_, rfl, by omega, ?_, ?_⟩
  · repeat (first | exact below_then (hb0 _ _ _) hb1 | refine Below.setCell ?_ (by first | omega | (simp <;> omega)) _)
  · have e3 : ∀ o1 o2 o3 : Obj, (((w.alloc o1).alloc o2).alloc o3).heap.size = w.heap.size + 3 := fun _ _ _ => by simp
    rw [e3] at hr1
    refine row_far hr1 (lo := w.heap.size) (hi := w.heap.size + 3) ?_ (Nat.le_refl _)
    repeat (first | exact Writes.refl _ _ _ | refine Writes.setCell ?_ (by first | omega | (simp <;> omega)) (by first | omega | (simp <;> omega)) _)
set_option maxHeartbeats 400000 in
theorem toLooseS_any (n : Nat) (P T : Nat → Int) (L : Nat → Nat) (Z : Nat → Nat → Int) (a : Option Addr) (cap : Nat) (w : World) (hn : n ≤ 1048576) (hL : ∀ i, i < n → L i ≤ 1048576) (h : LoosesAt w a n P T L Z) :
    Calls Tryz.prog 102 #[.slice a n cap] w fun e w' =>
      e = .returned (.slice (some ⟨w.heap.size, 0, none⟩) n n) ∧ Below w.heap.size w w' ∧ OwnL w' w.heap.size w'.heap.size (some ⟨w.heap.size, 0, none⟩) n P T L Z := by
  have hmk := run_make_looses n (by omega)
  have HL : Hid (∀ i, i < n → L i ≤ 1048576) := hL
  have HA : Hid (LoosesAt w a n P T L Z) := h
  clear hL h
  go_enter Tryz.func102, Tryz.ntmps102
  go_wp2
  go_loopw [4] (fun i wr => ∃ k : Nat, k ≤ n ∧ i = .int .i64 k ∧ Below w.heap.size w wr ∧ TL w wr k n P T L Z) (fun i _ => n - (intOf i).toNat)
  case atStart => exact ⟨0, Nat.zero_le _, rfl, (Below.refl _ _).alloc (Nat.le_refl _) _, fun _ => 0, fun i j h => by omega, fun i h => by omega, (made_looses w n).congr (fun i _ => by simp)⟩
  case round =>
    obtain ⟨k, hk, rfl, hb, hT⟩ := hrel
    by_cases hlt : k < n
    · rcases HA.out.below hb with h | ⟨b, off, rfl, hl, hc⟩
      · omega
      obtain ⟨hp, ht, ai, ci, hcell, hby, -⟩ := hc k hlt
      have HY : Hid (BytesAt wr ai (L k) (Z k)) := hby
      have HT : Hid (TL w wr k n P T L Z) := hT
      obtain ⟨g, -, -, hrow⟩ := hT
      have hsz := hrow.lt
      obtain ⟨v3, hv3⟩ : ∃ v, wr.cell? ⟨w.heap.size, k * 3, none⟩ = some v := ⟨_, hrow.cell (by omega)⟩
      obtain ⟨v4, hv4⟩ : ∃ v, wr.cell? ⟨w.heap.size, k * 3 + 1, none⟩ = some v := ⟨_, hrow.cell (by omega)⟩
      obtain ⟨v5, hv5⟩ : ∃ v, wr.cell? ⟨w.heap.size, k * 3 + 2, none⟩ = some v := ⟨_, hrow.cell (by omega)⟩
      have hf3 := hrow.frozen (k * 3)
      have hf4 := hrow.frozen (k * 3 + 1)
      have hf5 := hrow.frozen (k * 3 + 2)
      have HB : Hid (Below w.heap.size w wr) := hb
      clear hc hb hrow hmk hby
      go_wp2_with fail
      refine (toLoose_any (P k) (T k) (L k) (Z k) ai ci wr (HL.out k hlt) HY.out).mono ?_
      rintro e w1 ⟨B, rfl, hB, hb1, hr1⟩
      have g3 : w1.cell? ⟨w.heap.size, k * 3, none⟩ = some v3 := (hb1.cell (p := ⟨_, _, none⟩) hsz).trans hv3
      have g4 : w1.cell? ⟨w.heap.size, k * 3 + 1, none⟩ = some v4 := (hb1.cell (p := ⟨_, _, none⟩) hsz).trans hv4
      have g5 : w1.cell? ⟨w.heap.size, k * 3 + 2, none⟩ = some v5 := (hb1.cell (p := ⟨_, _, none⟩) hsz).trans hv5
      have f3 : w1.frozen? ⟨w.heap.size, k * 3, none⟩ = false := (hb1.frozen (p := ⟨_, _, none⟩) hsz).trans hf3
      have f4 : w1.frozen? ⟨w.heap.size, k * 3 + 1, none⟩ = false := (hb1.frozen (p := ⟨_, _, none⟩) hsz).trans hf4
      have f5 : w1.frozen? ⟨w.heap.size, k * 3 + 2, none⟩ = false := (hb1.frozen (p := ⟨_, _, none⟩) hsz).trans hf5
      have HB1 : Hid (Below wr.heap.size wr w1) := hb1
      have HR1 : Hid (w1.rowIs B 5 (L k) (fun j => .int .u8 (Z k j))) := hr1
      have HBB : Hid (wr.heap.size ≤ B) := hB
      clear hb1 hr1 hv3 hf3 hv4 hf4 hv5 hf5 hp ht hcell hB
      go_wp2_with fail
      go_roundw
      case rel => exact ⟨k + 1, hlt, by go_num, (((below_then HB.out HB1.out).setCell (Nat.le_refl _) _).setCell (Nat.le_refl _) _).setCell (Nat.le_refl _) _, HT.out.step HB1.out HBB.out HR1.out⟩
      case measure => simp [intOf]; omega
    · have hkn : k = n := by omega
      have HT : Hid (TL w wr n n P T L Z) := by have h := hT; rw [hkn] at h; exact h
      clear hmk hT
      go_wp2
      go_ret
      exact ⟨rfl, hb, HT.out.own⟩
/-- What a disk holds. -/
structure Dk where
  n : Nat
  L : Nat → Nat
  Z : Nat → Nat → Int
  m : Nat
  P : Nat → Int
  T : Nat → Int
  M : Nat → Nat
  Y : Nat → Nat → Int
def DiskAt (w : World) (a a' : Option Addr) (D : Dk) : Prop := PagesAt w a D.n D.L D.Z ∧ LoosesAt w a' D.m D.P D.T D.M D.Y
theorem DiskAt.below {w w' : World} {a a' : Option Addr} {D : Dk} (h : DiskAt w a a' D) (hb : Below w.heap.size w w') : DiskAt w' a a' D := ⟨h.1.below hb, h.2.below hb⟩
/-- A disk in blocks of its own. -/
def OwnD (w : World) (lo hi : Nat) (a a' : Option Addr) (D : Dk) : Prop :=
  hi ≤ w.heap.size ∧ ∃ l1 h1 l2 h2, lo ≤ l1 ∧ h1 ≤ hi ∧ lo ≤ l2 ∧ h2 ≤ hi ∧ (h1 ≤ l2 ∨ h2 ≤ l1) ∧ OwnP w l1 h1 a D.n D.L D.Z ∧ OwnL w l2 h2 a' D.m D.P D.T D.M D.Y
theorem OwnD.at {w : World} {lo hi : Nat} {a a' : Option Addr} {D : Dk} (h : OwnD w lo hi a a' D) : DiskAt w a a' D := by
  obtain ⟨_, l1, h1, l2, h2, _, _, _, _, _, hp, hl⟩ := h
  exact ⟨hp.at, hl.at⟩
theorem OwnD.writes {w w' : World} {lo hi lo' hi' : Nat} {a a' : Option Addr} {D : Dk} (h : OwnD w lo hi a a' D) (hw : Writes lo' hi' w w') (hd : hi ≤ lo' ∨ hi' ≤ lo) : OwnD w' lo hi a a' D := by
  obtain ⟨h0, l1, h1, l2, h2, k1, k2, k3, k4, k5, hp, hl⟩ := h
  exact ⟨Nat.le_trans h0 hw.size, l1, h1, l2, h2, k1, k2, k3, k4, k5, hp.writes hw (by omega), hl.writes hw (by omega)⟩
theorem OwnD.below {w w' : World} {lo hi : Nat} {a a' : Option Addr} {D : Dk} (h : OwnD w lo hi a a' D) (hb : Below w.heap.size w w') : OwnD w' lo hi a a' D :=
  h.writes (Writes.of_below (lo := hi) (hi := hi) hb) (.inl (Nat.le_refl _))
/-- A disk that is not greater than the laws' bound. -/
structure Small (D : Dk) : Prop where
  n : D.n ≤ 1048576
  m : D.m ≤ 1048576
  L : ∀ i, i < D.n → D.L i ≤ 1048576
  M : ∀ i, i < D.m → D.M i ≤ 1048576
  s : sumL D.L D.n ≤ 1048576
  t : sumL D.M D.m ≤ 1048576
theorem sumL_ge (L : Nat → Nat) : ∀ n i, i < n → L i ≤ sumL L n
  | 0, i, h => by omega
  | n + 1, i, h => by
    by_cases e : i = n
    · subst e; simp [sumL]
    · have := sumL_ge L n i (by omega); simp only [sumL]; omega
theorem small_of {D : Dk} (h : 0 ≤ (1048576 : Int) - D.n - sumL D.L D.n - D.m - sumL D.M D.m) : Small D :=
  ⟨by omega, by omega, fun i hi => by have := sumL_ge D.L D.n i hi; omega, fun i hi => by have := sumL_ge D.M D.m i hi; omega, by omega, by omega⟩
set_option maxHeartbeats 400000 in
theorem toDisk_any (D : Dk) (a a' : Option Addr) (cap cap' : Nat) (w : World) (hs : Small D) (h : DiskAt w a a' D) :
    Calls Tryz.prog 36 #[.agg #[.slice a D.n cap, .slice a' D.m cap']] w fun e w' =>
      ∃ b b', e = .returned (.agg #[.slice (some ⟨b, 0, none⟩) D.n D.n, .slice (some ⟨b', 0, none⟩) D.m D.m]) ∧ Below w.heap.size w w' ∧ OwnD w' w.heap.size w'.heap.size (some ⟨b, 0, none⟩) (some ⟨b', 0, none⟩) D := by
  have HS : Hid (Small D) := hs
  obtain ⟨n, L, Z, m, P, T, M, Y⟩ := D
  obtain ⟨h1, h2⟩ := h
  dsimp only at *
  have HA : Hid (PagesAt w a n L Z) := h1
  have HA' : Hid (LoosesAt w a' m P T M Y) := h2
  clear h1 h2 hs
  go_enter Tryz.func36, Tryz.ntmps36
  go_wp2_with fail
  have hb0 : ∀ o1 o2 o3, Below w.heap.size w (((w.alloc o1).alloc o2).alloc o3) := fun o1 o2 o3 => (((Below.refl _ _).alloc (Nat.le_refl _) _).alloc (by simp) _).alloc (by simp; omega) _
  refine (toByteSS_any n L Z a cap _ HS.out.n HS.out.L (HA.out.below (hb0 _ _ _))).mono ?_
  rintro e w1 ⟨rfl, hb1, ho1⟩
  obtain ⟨hc, hf⟩ := bcell hb1
  have hz : w.heap.size + 2 < w1.heap.size := by have := hb1.size; simp at this; omega
  have e3 : ∀ o1 o2 o3 : Obj, (((w.alloc o1).alloc o2).alloc o3).heap.size = w.heap.size + 3 := fun _ _ _ => by simp
  have q0 : w1.cell? ⟨w.heap.size, 0, none⟩ = some (.slice a n cap) := by rw [hc _ _ (by simp <;> omega)]; simp [go_sem]
  have q1 : w1.cell? ⟨w.heap.size, 1, none⟩ = some (.slice a' m cap') := by rw [hc _ _ (by simp <;> omega)]; simp [go_sem]
  have r0 : w1.cell? ⟨w.heap.size + 1, 0, none⟩ = some (.slice none 0 0) := by rw [hc _ _ (by simp <;> omega)]; simp [go_sem]
  have r1 : w1.cell? ⟨w.heap.size + 1, 1, none⟩ = some (.slice none 0 0) := by rw [hc _ _ (by simp <;> omega)]; simp [go_sem]
  have s0 : w1.cell? ⟨w.heap.size + 2, 0, none⟩ = some (.slice none 0 0) := by rw [hc _ _ (by simp <;> omega)]; simp [go_sem]
  have s1 : w1.cell? ⟨w.heap.size + 2, 1, none⟩ = some (.slice none 0 0) := by rw [hc _ _ (by simp <;> omega)]; simp [go_sem]
  have f1 : ∀ i, w1.frozen? ⟨w.heap.size + 1, i, none⟩ = false := fun i => by rw [hf _ _ (by simp <;> omega)]; simp [go_sem]
  have f2 : ∀ i, w1.frozen? ⟨w.heap.size + 2, i, none⟩ = false := fun i => by rw [hf _ _ (by simp <;> omega)]; simp [go_sem]
  have HB : Hid (Below w.heap.size w w1) := below_then (hb0 _ _ _) hb1
  have HO : Hid (OwnP w1 (w.heap.size + 3) w1.heap.size (some ⟨w.heap.size + 3, 0, none⟩) n L Z) := by rw [e3] at ho1; exact ho1
  clear hc hf hb1 ho1 hb0 e3
  go_wp2_with fail
  have HB' : Hid (Below w.heap.size w (w1.setCell ⟨w.heap.size + 1 + 1, 0, none⟩ (.slice (some ⟨w.heap.size + 1 + 1 + 1, 0, none⟩) n n))) := HB.out.setCell (by simp <;> omega) _
  refine (toLooseS_any m P T M Y a' cap' _ HS.out.m HS.out.M (HA'.out.below HB'.out)).mono ?_
  rintro e w2 ⟨rfl, hb2, ho2⟩
  obtain ⟨hc, hf⟩ := bcell hb2
  have es : (w1.setCell ⟨w.heap.size + 1 + 1, 0, none⟩ (.slice (some ⟨w.heap.size + 1 + 1 + 1, 0, none⟩) n n)).heap.size = w1.heap.size := by simp [World.setCell]
  rw [es] at hc hf
  have t0 : w2.cell? ⟨w.heap.size + 1, 0, none⟩ = some (.slice none 0 0) := by rw [hc _ _ (by omega)]; rw [World.cell?_setCell_other _ _ _ _ (by simp), r0]
  have t1 : w2.cell? ⟨w.heap.size + 1, 1, none⟩ = some (.slice none 0 0) := by rw [hc _ _ (by omega)]; rw [World.cell?_setCell_other _ _ _ _ (by simp), r1]
  have u0 : w2.cell? ⟨w.heap.size + 1 + 1, 0, none⟩ = some (.slice (some ⟨w.heap.size + 1 + 1 + 1, 0, none⟩) n n) := by rw [hc _ _ (by omega)]; exact setS s0
  have u1 : w2.cell? ⟨w.heap.size + 1 + 1, 1, none⟩ = some (.slice none 0 0) := by rw [hc _ _ (by omega)]; rw [setO (by omega), s1]
  have k1 : ∀ i, w2.frozen? ⟨w.heap.size + 1, i, none⟩ = false := fun i => by rw [hf _ _ (by omega), World.frozen?_setCell]; exact f1 i
  have k2 : ∀ i, w2.frozen? ⟨w.heap.size + 1 + 1, i, none⟩ = false := fun i => by rw [hf _ _ (by omega), World.frozen?_setCell]; exact f2 i
  have HB2 : Hid (Below w.heap.size w w2) := below_then HB'.out hb2
  have HP : Hid (OwnP w2 (w.heap.size + 3) w1.heap.size (some ⟨w.heap.size + 3, 0, none⟩) n L Z) := by
    have h := HO.out.writes (lo' := w.heap.size) (hi' := w.heap.size + 3) (Writes.setCell (Writes.refl _ _ _) (p := ⟨w.heap.size + 1 + 1, 0, none⟩) (by simp <;> omega) (by simp <;> omega) (.slice (some ⟨w.heap.size + 1 + 1 + 1, 0, none⟩) n n)) (.inr (Nat.le_refl _))
    exact h.below hb2
  rw [es] at ho2
  have HQ : Hid (OwnL w2 w1.heap.size w2.heap.size (some ⟨w1.heap.size, 0, none⟩) m P T M Y) := ho2
  rw [es]
  have hs2 : w1.heap.size ≤ w2.heap.size := by have := hb2.size; rw [es] at this; exact this
  clear hc hf hb2 ho2 es q0 q1 r0 r1 s0 s1 f1 f2 HB'
  go_wp2_with fail
  refine bodyPost_ret (v := .agg #[.slice (some ⟨w.heap.size + 3, 0, none⟩) n n, .slice (some ⟨w1.heap.size, 0, none⟩) m m]) (by simp [results, Tryz.results36, go_sem, *]) rfl ⟨_, _, rfl, ?_, ?_⟩
  · repeat (first | exact HB2.out | refine Below.setCell ?_ (by first | omega | (simp <;> omega)) _)
  · have hw : ∀ w3, Writes w.heap.size (w.heap.size + 3) w2 w3 → w3.heap.size = w2.heap.size → OwnD w3 w.heap.size w3.heap.size (some ⟨w.heap.size + 3, 0, none⟩) (some ⟨w1.heap.size, 0, none⟩) ⟨n, L, Z, m, P, T, M, Y⟩ := fun w3 h e =>
      ⟨Nat.le_refl _, w.heap.size + 3, w1.heap.size, w1.heap.size, w2.heap.size, by omega, by omega, by omega, by omega, .inl (Nat.le_refl _), HP.out.writes h (.inr (Nat.le_refl _)), HQ.out.writes h (.inr (by omega))⟩
    refine hw _ ?_ (by simp [World.setCell])
    repeat (first | exact Writes.refl _ _ _ | refine Writes.setCell ?_ (by first | omega | (simp <;> omega)) (by first | omega | (simp <;> omega)) _)
theorem eqByteS_q (n : Nat) (z : Nat → Int) (a a' : Option Addr) (cap cap' : Nat) (w : World) (hn : n ≤ 8796093022208) (h : BytesAt w a n z) (h' : BytesAt w a' n z) :
    Calls Tryz.prog 111 #[.slice a n cap, .slice a' n cap'] w fun e w' => e = .returned (.bool true) ∧ ∃ m, w' = w.drewN m := by
  have z0 : ∀ (e : Ending) (w' : World), (e = .returned (.bool true) ∧ w' = w) → e = .returned (.bool true) ∧ ∃ m, w' = w.drewN m := by
    rintro e w' ⟨rfl, rfl⟩
    exact ⟨rfl, 0, rfl⟩
  rcases h with rfl | ⟨b, off, rfl, _, hc⟩
  · exact (eqByteS_zero a a' cap cap' w).mono z0
  · rcases h' with rfl | ⟨b', off', rfl, _, hc'⟩
    · exact (eqByteS_zero _ a' cap cap' w).mono z0
    · exact eqByteS_same n z b off cap b' off' cap' w (by omega) hc hc'
set_option maxHeartbeats 400000 in
theorem eqByteSS_any (n : Nat) (L : Nat → Nat) (Z : Nat → Nat → Int) (a a' : Option Addr) (cap cap' : Nat) (w : World) (hn : n ≤ 1048576) (hL : ∀ i, i < n → L i ≤ 1048576) (h : PagesAt w a n L Z) (h' : PagesAt w a' n L Z) :
    Calls Tryz.prog 109 #[.slice a n cap, .slice a' n cap'] w fun e w' => e = .returned (.bool true) ∧ Below w.heap.size w w' := by
  have HL : Hid (∀ i, i < n → L i ≤ 1048576) := hL
  have HA : Hid (PagesAt w a n L Z) := h
  have HA' : Hid (PagesAt w a' n L Z) := h'
  clear hL h h'
  go_enter Tryz.func109, Tryz.ntmps109
  go_wp2
  go_loopw [5] (fun i wr => ∃ k : Nat, k ≤ n ∧ i = .int .i64 k ∧ Below w.heap.size w wr) (fun i _ => n - (intOf i).toNat)
  case atStart => exact ⟨0, Nat.zero_le _, rfl, Below.refl _ _⟩
  case round =>
    obtain ⟨k, hk0, rfl, hb⟩ := hrel
    by_cases hlt : k < n
    · rcases HA.out.below hb with h | ⟨b, off, rfl, hl, hc⟩
      · omega
      rcases HA'.out.below hb with h | ⟨b', off', rfl, hl', hc'⟩
      · omega
      obtain ⟨ai, ci, h1, hy, -⟩ := hc k hlt
      obtain ⟨ai', ci', h1', hy', -⟩ := hc' k hlt
      have HY : Hid (BytesAt wr ai (L k) (Z k)) := hy
      have HY' : Hid (BytesAt wr ai' (L k) (Z k)) := hy'
      have HLk : Hid (L k ≤ 8796093022208) := Nat.le_trans (HL.out k hlt) (by omega)
      have hlt' : (k : Int) < (n : Int) := by omega
      have HB : Hid (Below w.heap.size w wr) := hb
      clear hc hc' hy hy' hb
      go_wp2
      go_region_held3 (fun w' => w'.cell? ⟨b, off + k, none⟩ = some (.slice ai (L k) ci) ∧ w'.cell? ⟨b', off' + k, none⟩ = some (.slice ai' (L k) ci')) (go_keep)
        (first | (go_at_call 111; refine (eqByteS_q (L k) (Z k) ai ai' ci ci' wr.drew HLk.out HY.out HY'.out).mono ?_; rintro e w' ⟨rfl, m, rfl⟩))
      go_wp2
      go_roundw
      case rel => exact ⟨k + 1, hlt, by go_num, by have hs := HB.out.size; first | exact below_drewN HB.out _ | exact below_drewN HB.out.drew _ | exact (below_drewN HB.out.drew _).drew⟩
      case measure => simp [intOf]; omega
    · have hkn : k = n := by omega
      go_wp2
      go_ret
      exact ⟨rfl, hb⟩
theorem eqLoose_same (p t : Int) (n : Nat) (z : Nat → Int) (a a' : Option Addr) (cap cap' : Nat) (w : World) (hn : n ≤ 8796093022208) (h : BytesAt w a n z) (h' : BytesAt w a' n z) :
    Calls Tryz.prog 172 #[.agg #[.int .i64 p, .int .i64 t, .slice a n cap], .agg #[.int .i64 p, .int .i64 t, .slice a' n cap']] w fun e w' => e = .returned (.bool true) ∧ ∃ c1 c2 : Array Value, ∃ m, w' = ((w.alloc (.cells c1 168)).alloc (.cells c2 168)).drewN m := by
  have HA : Hid (BytesAt w a n z) := h
  have HA' : Hid (BytesAt w a' n z) := h'
  clear h h'
  go_enter Tryz.func172, Tryz.ntmps172
  go_wp2_with fail
  have hb0 : ∀ o1 o2, Below w.heap.size w ((w.alloc o1).alloc o2) := fun o1 o2 => (((Below.refl _ _).alloc (Nat.le_refl _) _).alloc (by simp) _)
  refine (eqByteS_q n z a a' cap cap' _ hn (HA.out.below (hb0 _ _)) (HA'.out.below (hb0 _ _))).mono ?_
  rintro e w' ⟨rfl, m, rfl⟩
  go_wp2_with fail
  go_ret
  exact ⟨rfl, _, _, m, rfl⟩
set_option maxHeartbeats 400000 in
theorem eqLooseS_any (n : Nat) (P T : Nat → Int) (L : Nat → Nat) (Z : Nat → Nat → Int) (a a' : Option Addr) (cap cap' : Nat) (w : World) (hn : n ≤ 1048576) (hL : ∀ i, i < n → L i ≤ 1048576) (h : LoosesAt w a n P T L Z) (h' : LoosesAt w a' n P T L Z) :
    Calls Tryz.prog 110 #[.slice a n cap, .slice a' n cap'] w fun e w' => e = .returned (.bool true) ∧ Below w.heap.size w w' := by
  have HL : Hid (∀ i, i < n → L i ≤ 1048576) := hL
  have HA : Hid (LoosesAt w a n P T L Z) := h
  have HA' : Hid (LoosesAt w a' n P T L Z) := h'
  clear hL h h'
  go_enter Tryz.func110, Tryz.ntmps110
  go_wp2
  go_loopw [5] (fun i wr => ∃ k : Nat, k ≤ n ∧ i = .int .i64 k ∧ Below w.heap.size w wr) (fun i _ => n - (intOf i).toNat)
  case atStart => exact ⟨0, Nat.zero_le _, rfl, Below.refl _ _⟩
  case round =>
    obtain ⟨k, hk0, rfl, hb⟩ := hrel
    by_cases hlt : k < n
    · rcases HA.out.below hb with h | ⟨b, off, rfl, hl, hc⟩
      · omega
      rcases HA'.out.below hb with h | ⟨b', off', rfl, hl', hc'⟩
      · omega
      obtain ⟨p1, t1, ai, ci, h1, hy, -⟩ := hc k hlt
      obtain ⟨p1', t1', ai', ci', h1', hy', -⟩ := hc' k hlt
      have HY : Hid (BytesAt wr ai (L k) (Z k)) := hy
      have HY' : Hid (BytesAt wr ai' (L k) (Z k)) := hy'
      have HLk : Hid (L k ≤ 8796093022208) := Nat.le_trans (HL.out k hlt) (by omega)
      have hlt' : (k : Int) < (n : Int) := by omega
      have HB : Hid (Below w.heap.size w wr) := hb
      clear hc hc' hy hy' hb
      go_wp2
      go_region_held3 (fun w' => w'.cell? ⟨b, off + k * 3, none⟩ = some (.int .i64 (P k)) ∧ w'.cell? ⟨b, off + k * 3 + 1, none⟩ = some (.int .i64 (T k)) ∧ w'.cell? ⟨b, off + k * 3 + 2, none⟩ = some (.slice ai (L k) ci) ∧ w'.cell? ⟨b', off' + k * 3, none⟩ = some (.int .i64 (P k)) ∧ w'.cell? ⟨b', off' + k * 3 + 1, none⟩ = some (.int .i64 (T k)) ∧ w'.cell? ⟨b', off' + k * 3 + 2, none⟩ = some (.slice ai' (L k) ci')) (go_keep)
        (first | (go_at_call 172; refine (eqLoose_same (P k) (T k) (L k) (Z k) ai ai' ci ci' wr.drew HLk.out HY.out HY'.out).mono ?_; rintro e w' ⟨rfl, o1, o2, m, rfl⟩))
      go_wp2
      go_roundw
      case rel => exact ⟨k + 1, hlt, by go_num, by have hs := HB.out.size; repeat (first | exact HB.out | apply Below.drew | (refine below_drewN ?_ _) | refine Below.alloc ?_ (by first | omega | (simp; omega)) _)⟩
      case measure => simp [intOf]; omega
    · have hkn : k = n := by omega
      go_wp2
      go_ret
      exact ⟨rfl, hb⟩
theorem eqDisk_same (D : Dk) (a a' c c' : Option Addr) (cap cap' dap dap' : Nat) (w : World) (hs : Small D) (h : DiskAt w a a' D) (h' : DiskAt w c c' D) :
    Calls Tryz.prog 44 #[.agg #[.slice a D.n cap, .slice a' D.m cap'], .agg #[.slice c D.n dap, .slice c' D.m dap']] w fun e w' => e = .returned (.bool true) ∧ Below w.heap.size w w' := by
  have HS : Hid (Small D) := hs
  obtain ⟨n, L, Z, m, P, T, M, Y⟩ := D
  obtain ⟨h1, h2⟩ := h
  obtain ⟨h3, h4⟩ := h'
  dsimp only at *
  have H1 : Hid (PagesAt w a n L Z) := h1
  have H2 : Hid (LoosesAt w a' m P T M Y) := h2
  have H3 : Hid (PagesAt w c n L Z) := h3
  have H4 : Hid (LoosesAt w c' m P T M Y) := h4
  clear h1 h2 h3 h4 hs
  have hb0 : ∀ o1 o2, Below w.heap.size w ((w.alloc o1).alloc o2) := fun o1 o2 => (((Below.refl _ _).alloc (Nat.le_refl _) _).alloc (by simp) _)
  go_enter Tryz.func44, Tryz.ntmps44
  go_wp2_with fail
  refine (eqByteSS_any n L Z a c cap dap _ HS.out.n HS.out.L (H1.out.below (hb0 _ _)) (H3.out.below (hb0 _ _))).mono ?_
  rintro e w1 ⟨rfl, hb1⟩
  obtain ⟨hc, hf⟩ := bcell hb1
  have q0 : w1.cell? ⟨w.heap.size, 1, none⟩ = some (.slice a' m cap') := by rw [hc _ _ (by simp <;> omega)]; simp [go_sem]
  have q1 : w1.cell? ⟨w.heap.size + 1, 1, none⟩ = some (.slice c' m dap') := by rw [hc _ _ (by simp <;> omega)]; simp [go_sem]
  have HB : Hid (Below w.heap.size w w1) := below_then (hb0 _ _) hb1
  clear hc hf hb1 hb0
  go_wp2_with fail
  refine (eqLooseS_any m P T M Y a' c' cap' dap' _ HS.out.m HS.out.M (H2.out.below HB.out) (H4.out.below HB.out)).mono ?_
  rintro e w2 ⟨rfl, hb2⟩
  go_wp2_with fail
  go_ret
  exact ⟨rfl, below_then HB.out hb2⟩
/-- The number of m bytes from the i-th on, the highest first. -/
def num (z : Nat → Int) (i : Nat) : Nat → Int
  | 0 => 0
  | m + 1 => num z i m * 256 + z (i + m)
theorem num_bd (z : Nat → Int) (i : Nat) : ∀ m, (∀ j, j < m → 0 ≤ z (i + j) ∧ z (i + j) ≤ 255) → 0 ≤ num z i m ∧ num z i m < 256 ^ m
  | 0, _ => by simp [num]
  | m + 1, h => by
    have ih := num_bd z i m fun j hj => h j (by omega)
    have hm := h m (by omega)
    simp only [num, Int.pow_succ]
    omega
theorem or8 (x y : Int) (h0 : 0 ≤ x) (h1 : x ≤ 16777215) (h2 : 0 ≤ y) (h3 : y ≤ 255) : bits .or .u64 (x * 256) y = x * 256 + y :=
  bits_join .u64 40 (by decide) (fun n a c => by rw [IntKind.wrap_u64]; omega) 8 (x * 256) y (by omega) (by omega) (by omega) h2 (by omega) (by omega)
set_option maxHeartbeats 400000 in
theorem readNumber_some (m : Nat) (z : Nat → Int) (b off cap : Nat) (w : World) (hm : m ≤ 4) (hz : ∀ j, j < m → 0 ≤ z j ∧ z j ≤ 255) (hc : ∀ i, i < m → w.cell? ⟨b, off + i, none⟩ = some (.int .u8 (z i))) :
    Calls Tryz.prog 222 #[.slice (some ⟨b, off, none⟩) m cap] w fun e w' => e = .returned (.int .i64 (num z 0 m)) ∧ w' = w := by
  go_enter Tryz.func222, Tryz.ntmps222
  go_wp2
  go_loop [3, 5, 8] (fun h _ i => ∃ k : Nat, k ≤ m ∧ i = .int .i64 k ∧ h = .int .u64 (num z 0 k)) (fun _ _ i => m - (intOf i).toNat)
  case atStart => exact ⟨0, Nat.zero_le _, rfl, rfl⟩
  case round =>
    obtain ⟨k, hk, rfl, rfl⟩ := hrel
    by_cases hlt : k < m
    · have hcell := hc k hlt
      obtain ⟨hz1, hz2⟩ := hz k hlt
      have hb := num_bd z 0 k (fun j hj => by rw [Nat.zero_add]; exact hz j (by omega))
      have hb2 : num z 0 k ≤ 16777215 := by
        have h3 : k = 0 ∨ k = 1 ∨ k = 2 ∨ k = 3 := by omega
        rcases h3 with rfl | rfl | rfl | rfl <;> simp at hb <;> omega
      obtain ⟨hb1, -⟩ := hb
      have HO : Hid (bits .or .u64 (num z 0 k * 256) (z k) = num z 0 k * 256 + z k) := or8 _ _ hb1 hb2 hz1 hz2
      clear hc hz
      go_wp2
      go_round
      case rel => exact ⟨k + 1, hlt, by go_num, by rw [HO.out]; simp [num]⟩
      case measure => simp [intOf]; omega
    · have hkn : k = m := by omega
      have HB : Hid (wrap64 (num z 0 m) = num z 0 m) := by
        have hb := num_bd z 0 m (fun j hj => by rw [Nat.zero_add]; exact hz j (by omega))
        show wrap64 (num z 0 m) = num z 0 m
        unfold wrap64
        have h3 : m = 0 ∨ m = 1 ∨ m = 2 ∨ m = 3 ∨ m = 4 := by omega
        rcases h3 with rfl | rfl | rfl | rfl | rfl <;> simp at hb <;> omega
      clear hc hz
      go_wp2
      go_ret
      exact ⟨ret_int HB.out, rfl⟩
set_option maxHeartbeats 400000 in
theorem l1Take_some (n i m : Nat) (z : Nat → Int) (b off cap : Nat) (w : World) (hm : m ≤ 4) (him : i + m ≤ n) (hn : n ≤ 1000) (hz : Byt n z) (hc : ∀ i, i < n → w.cell? ⟨b, off + i, none⟩ = some (.int .u8 (z i))) :
    Calls Tryz.prog 150 #[.slice (some ⟨b, off, none⟩) n cap, .int .i64 i, .int .i64 m] w fun e w' => e = .returned (.int .i64 (num z i m)) ∧ w' = w := by
  go_enter Tryz.func150, Tryz.ntmps150
  go_wp2
  go_loop [7, 8] (fun h q => ∃ k : Nat, k ≤ m ∧ q = .int .i64 k ∧ h = .int .i64 (num z i k)) (fun _ q => m - (intOf q).toNat)
  case atStart => exact ⟨0, Nat.zero_le _, rfl, rfl⟩
  case round =>
    obtain ⟨k, hk, rfl, rfl⟩ := hrel
    by_cases hlt : k < m
    · have hcell := hc (i + k) (by omega)
      obtain ⟨hz1, hz2⟩ := hz (i + k) (by omega)
      have hb := num_bd z i k (fun j hj => hz (i + j) (by omega))
      have hb2 : num z i k ≤ 16777215 := by
        have h3 : k = 0 ∨ k = 1 ∨ k = 2 ∨ k = 3 := by omega
        rcases h3 with rfl | rfl | rfl | rfl <;> simp at hb <;> omega
      obtain ⟨hb1, -⟩ := hb
      have hik : ((i : Int) + (k : Int)) < (n : Int) := by omega
      have hik2 : ((i : Int) + (k : Int)).toNat = i + k := by omega
      clear hc hz
      go_wp2
      go_round
      case rel => exact ⟨k + 1, hlt, by go_num, by simp [num]⟩
      case measure => simp [intOf]; omega
    · have hkn : k = m := by omega
      clear hc hz
      go_wp2
      go_ret
      exact ⟨rfl, rfl⟩
/-! ### bytes as a string -/
theorem str_inj {xs ys : List Int} (hx : ∀ z ∈ xs, 0 ≤ z ∧ z ≤ 255) (hy : ∀ z ∈ ys, 0 ≤ z ∧ z ≤ 255) (h : (strOfNums xs).toList = (strOfNums ys).toList) : xs = ys := by
  have e1 : ∀ (l : List Int), (strOfNums l).data.toList = l.map fun n => UInt8.ofNat n.toNat := fun l => by simp [strOfNums]
  have e2 : ∀ (s : ByteArray), s.toList = s.data.toList := fun s => by exact ByteArray.toList_eq _
  rw [e2, e2, e1, e1] at h
  have back : ∀ (l : List Int), (∀ z ∈ l, 0 ≤ z ∧ z ≤ 255) → (l.map fun n => UInt8.ofNat n.toNat).map (fun b => (b.toNat : Int)) = l := fun l hl => by
    rw [List.map_map]
    conv => rhs; rw [← List.map_id l]
    apply List.map_congr_left
    intro z hz
    have := hl z hz
    simp
    omega
  rw [← back xs hx, h, back ys hy]
theorem equal_some (xs ys : List Int) (b off cap b' off' cap' : Nat) (w : World) (hx : ∀ z ∈ xs, 0 ≤ z ∧ z ≤ 255) (hy : ∀ z ∈ ys, 0 ≤ z ∧ z ≤ 255)
    (hc : ∀ i, i < xs.length → w.cell? ⟨b, off + i, none⟩ = some (.int .u8 (xs.getD i 0))) (hc' : ∀ i, i < ys.length → w.cell? ⟨b', off' + i, none⟩ = some (.int .u8 (ys.getD i 0))) :
    Calls Tryz.prog 221 #[.slice (some ⟨b, off, none⟩) xs.length cap, .slice (some ⟨b', off', none⟩) ys.length cap'] w fun e w' => e = .returned (.bool (decide (xs = ys))) ∧ w' = w := by
  have h1 := run_convert_bytes_arg (P := Tryz.prog) w 27 5 Tryz.underlying27 Tryz.underlying5 b off xs.length cap xs rfl hc 9 Tryz.underlying9
  have h2 := run_convert_bytes_arg (P := Tryz.prog) w 27 5 Tryz.underlying27 Tryz.underlying5 b' off' ys.length cap' ys rfl hc' 9 Tryz.underlying9
  have HE : Hid (((strOfNums xs).toList == (strOfNums ys).toList) = decide (xs = ys)) := by
    show ((strOfNums xs).toList == (strOfNums ys).toList) = decide (xs = ys)
    by_cases e : xs = ys
    · subst e; simp
    · have : ¬ (strOfNums xs).toList = (strOfNums ys).toList := fun h => e (str_inj hx hy h)
      simp [e, this]
  clear hc hc' hx hy
  go_enter Tryz.func221, Tryz.ntmps221
  go_wp2
  go_ret
  exact ⟨ret_bool HE.out, rfl⟩
end Go.Proofs.YtannmobmmnoegaaGreat
