/- Disks in blocks of their own; the laws' copies of them. -/
import Derived.Test.YtldnfiadafmomaaDk
namespace Go.Proofs.Ytldnfiadafmomaa
open Go.RowKit Go.Deep
set_option linter.unusedVariables false
set_option maxRecDepth 20000

/-- Pages in blocks of their own from lo on, below hi. -/
def OwnP (w : World) (lo hi : Nat) (a : Option Addr) (n : Nat) (L : Nat → Nat) (Z : Nat → Nat → Int) : Prop :=
  hi ≤ w.heap.size ∧ (n = 0 ∨ ∃ b off, a = some ⟨b, off, none⟩ ∧ lo ≤ b ∧ b < hi ∧ ∃ g o c : Nat → Nat, (∀ i j, i < n → j < n → g i = g j → i = j) ∧
    ∀ i, i < n → g i ≠ b ∧ lo ≤ g i ∧ g i < hi ∧ w.cell? ⟨b, off + i, none⟩ = some (.slice (some ⟨g i, o i, none⟩) (L i) (c i)) ∧ Row1 w (g i) (o i) (L i) (Z i) ∧ L i ≤ c i)
/-- Loose writes in blocks of their own from lo on, below hi. -/
def OwnL (w : World) (lo hi : Nat) (a : Option Addr) (n : Nat) (P T : Nat → Int) (L : Nat → Nat) (Z : Nat → Nat → Int) : Prop :=
  hi ≤ w.heap.size ∧ (n = 0 ∨ ∃ b off, a = some ⟨b, off, none⟩ ∧ lo ≤ b ∧ b < hi ∧ ∃ g o c : Nat → Nat, (∀ i j, i < n → j < n → g i = g j → i = j) ∧
    ∀ i, i < n → g i ≠ b ∧ lo ≤ g i ∧ g i < hi ∧ w.cell? ⟨b, off + i * 3, none⟩ = some (.int .i64 (P i)) ∧ w.cell? ⟨b, off + i * 3 + 1, none⟩ = some (.int .i64 (T i)) ∧
      w.cell? ⟨b, off + i * 3 + 2, none⟩ = some (.slice (some ⟨g i, o i, none⟩) (L i) (c i)) ∧ w.frozen? ⟨b, off + i * 3, none⟩ = false ∧ w.frozen? ⟨b, off + i * 3 + 1, none⟩ = false ∧ Row1 w (g i) (o i) (L i) (Z i) ∧ L i ≤ c i)
theorem Row1.at {w : World} {b off n : Nat} {z : Nat → Int} (h : Row1 w b off n z) (hb : b < w.heap.size) : BytesAt w (some ⟨b, off, none⟩) n z := .inr ⟨b, off, rfl, hb, h.1⟩
theorem Row1.block {w w' : World} {b off n : Nat} {z : Nat → Int} (h : Row1 w b off n z) (e : w'.heap[b]? = w.heap[b]?) : Row1 w' b off n z :=
  ⟨fun i hi => (World.cell?_of_block (w := w) (a := ⟨b, _, none⟩) e).trans (h.1 i hi), fun i hi => (World.frozen?_of_block (w := w) (a := ⟨b, _, none⟩) e).trans (h.2 i hi)⟩
theorem Row1.of_row {w : World} {b n : Nat} {z : Nat → Int} (h : w.rowIs b 5 n (fun i => .int .u8 (z i))) : Row1 w b 0 n z :=
  ⟨fun i hi => by rw [Nat.zero_add]; exact h.cell hi, fun i hi => h.frozen _⟩
theorem OwnP.at {w : World} {lo hi : Nat} {a : Option Addr} {n : Nat} {L : Nat → Nat} {Z : Nat → Nat → Int} (h : OwnP w lo hi a n L Z) : PagesAt w a n L Z := by
  obtain ⟨h0, h1 | ⟨b, off, ha, _, hl, g, o, c, _, hc⟩⟩ := h
  · exact .inl h1
  · refine .inr ⟨b, off, ha, by omega, fun i hi => ?_⟩
    obtain ⟨_, _, hg, h2, h3, h4⟩ := hc i hi
    exact ⟨_, _, h2, h3.at (by omega), h4⟩
theorem OwnL.at {w : World} {lo hi : Nat} {a : Option Addr} {n : Nat} {P T : Nat → Int} {L : Nat → Nat} {Z : Nat → Nat → Int} (h : OwnL w lo hi a n P T L Z) : LoosesAt w a n P T L Z := by
  obtain ⟨h0, h1 | ⟨b, off, ha, _, hl, g, o, c, _, hc⟩⟩ := h
  · exact .inl h1
  · refine .inr ⟨b, off, ha, by omega, fun i hi => ?_⟩
    obtain ⟨_, _, hg, h2, h3, h4, _, _, h5, h6⟩ := hc i hi
    exact ⟨h2, h3, _, _, h4, h5.at (by omega), h6⟩
theorem OwnP.writes {w w' : World} {lo hi lo' hi' : Nat} {a : Option Addr} {n : Nat} {L : Nat → Nat} {Z : Nat → Nat → Int} (h : OwnP w lo hi a n L Z) (hw : Writes lo' hi' w w') (hd : hi ≤ lo' ∨ hi' ≤ lo) : OwnP w' lo hi a n L Z := by
  obtain ⟨h0, h1 | ⟨b, off, ha, hlo, hl, g, o, c, hj, hc⟩⟩ := h
  · exact ⟨Nat.le_trans h0 hw.size, .inl h1⟩
  · refine ⟨Nat.le_trans h0 hw.size, .inr ⟨b, off, ha, hlo, hl, g, o, c, hj, fun i hi => ?_⟩⟩
    obtain ⟨k0, k1, k2, k3, k4, k5⟩ := hc i hi
    exact ⟨k0, k1, k2, (hw.cell (by omega) (by omega) _).trans k3, k4.block (hw.block _ (by omega) (by omega)), k5⟩
theorem OwnL.writes {w w' : World} {lo hi lo' hi' : Nat} {a : Option Addr} {n : Nat} {P T : Nat → Int} {L : Nat → Nat} {Z : Nat → Nat → Int} (h : OwnL w lo hi a n P T L Z) (hw : Writes lo' hi' w w') (hd : hi ≤ lo' ∨ hi' ≤ lo) : OwnL w' lo hi a n P T L Z := by
  obtain ⟨h0, h1 | ⟨b, off, ha, hlo, hl, g, o, c, hj, hc⟩⟩ := h
  · exact ⟨Nat.le_trans h0 hw.size, .inl h1⟩
  · refine ⟨Nat.le_trans h0 hw.size, .inr ⟨b, off, ha, hlo, hl, g, o, c, hj, fun i hi => ?_⟩⟩
    obtain ⟨k0, k1, k2, k3, k4, k5, k6, k7, k8, k9⟩ := hc i hi
    have e := hw.block b (by omega) (by omega)
    exact ⟨k0, k1, k2, (hw.cell (by omega) (by omega) _).trans k3, (hw.cell (by omega) (by omega) _).trans k4, (hw.cell (by omega) (by omega) _).trans k5, (World.frozen?_of_block (w := w) (a := ⟨b, _, none⟩) e).trans k6, (World.frozen?_of_block (w := w) (a := ⟨b, _, none⟩) e).trans k7, k8.block (hw.block _ (by omega) (by omega)), k9⟩
theorem OwnP.wide {w : World} {lo hi lo' hi' : Nat} {a : Option Addr} {n : Nat} {L : Nat → Nat} {Z : Nat → Nat → Int} (h : OwnP w lo hi a n L Z) (h1 : lo' ≤ lo) (h2 : hi ≤ hi') (h3 : hi' ≤ w.heap.size) : OwnP w lo' hi' a n L Z := by
  obtain ⟨h0, h4 | ⟨b, off, ha, hlo, hl, g, o, c, hj, hc⟩⟩ := h
  · exact ⟨h3, .inl h4⟩
  · refine ⟨h3, .inr ⟨b, off, ha, by omega, by omega, g, o, c, hj, fun i hi => ?_⟩⟩
    obtain ⟨k0, k1, k2, r⟩ := hc i hi
    exact ⟨k0, by omega, by omega, r⟩
theorem OwnL.wide {w : World} {lo hi lo' hi' : Nat} {a : Option Addr} {n : Nat} {P T : Nat → Int} {L : Nat → Nat} {Z : Nat → Nat → Int} (h : OwnL w lo hi a n P T L Z) (h1 : lo' ≤ lo) (h2 : hi ≤ hi') (h3 : hi' ≤ w.heap.size) : OwnL w lo' hi' a n P T L Z := by
  obtain ⟨h0, h4 | ⟨b, off, ha, hlo, hl, g, o, c, hj, hc⟩⟩ := h
  · exact ⟨h3, .inl h4⟩
  · refine ⟨h3, .inr ⟨b, off, ha, by omega, by omega, g, o, c, hj, fun i hi => ?_⟩⟩
    obtain ⟨k0, k1, k2, r⟩ := hc i hi
    exact ⟨k0, by omega, by omega, r⟩
theorem OwnP.below {w w' : World} {lo hi : Nat} {a : Option Addr} {n : Nat} {L : Nat → Nat} {Z : Nat → Nat → Int} (h : OwnP w lo hi a n L Z) (hb : Below w.heap.size w w') : OwnP w' lo hi a n L Z :=
  h.writes (Writes.of_below (lo := hi) (hi := hi) hb) (.inl (Nat.le_refl _))
theorem OwnL.below {w w' : World} {lo hi : Nat} {a : Option Addr} {n : Nat} {P T : Nat → Int} {L : Nat → Nat} {Z : Nat → Nat → Int} (h : OwnL w lo hi a n P T L Z) (hb : Below w.heap.size w w') : OwnL w' lo hi a n P T L Z :=
  h.writes (Writes.of_below (lo := hi) (hi := hi) hb) (.inl (Nat.le_refl _))

/-! ### laws.toByteSS -/
theorem info22 : (Try.prog.info? 55).map (fun i => (i.zero, i.size, i.bytes)) = some (some (.slice none 0 0), 1, 24) := by kernel_rfl
/-- k of n pages are copied. -/
def TP (w wr : World) (k n : Nat) (L : Nat → Nat) (Z : Nat → Nat → Int) : Prop :=
  ∃ g : Nat → Nat, (∀ i j, i < k → j < k → g i = g j → i = j) ∧ (∀ i, i < k → w.heap.size < g i ∧ g i < wr.heap.size ∧ wr.rowIs (g i) 5 (L i) (fun j => .int .u8 (Z i j))) ∧
    wr.rowIs w.heap.size 55 n (fun i => if i < k then .slice (some ⟨g i, 0, none⟩) (L i) (L i) else .slice none 0 0)
theorem TP.step {w wr w1 : World} {k n : Nat} {L : Nat → Nat} {Z : Nat → Nat → Int} (h : TP w wr k n L Z) (hb : Below wr.heap.size wr w1) (hr : w1.rowIs wr.heap.size 5 (L k) (fun j => .int .u8 (Z k j))) :
    TP w (w1.setCell ⟨w.heap.size, k, none⟩ (.slice (some ⟨wr.heap.size, 0, none⟩) (L k) (L k))) (k + 1) n L Z := by
  obtain ⟨g, hj, hg, hrow⟩ := h
  have hw := hrow.lt
  have hs1 := hr.lt
  refine ⟨fun i => if i < k then g i else wr.heap.size, fun i j hi hj' e => ?_, fun i hi => ?_, ?_⟩
  · by_cases c1 : i < k <;> by_cases c2 : j < k <;> simp only [c1, c2, if_true, if_false] at e
    · exact hj i j c1 c2 e
    · have := hg i c1; omega
    · have := hg j c2; omega
    · omega
  · by_cases c1 : i < k
    · simp only [c1, if_true]
      obtain ⟨g0, g1, g2⟩ := hg i c1
      refine ⟨g0, by simp [World.setCell]; omega, World.rowIs.setOther (g2.of_block (hb.block _ g1)) (by show g i ≠ w.heap.size; omega) _⟩
    · have : i = k := by omega
      subst this
      simp only [Nat.lt_irrefl, if_false]
      exact ⟨hw, by simp [World.setCell]; omega, hr.setOther (by show wr.heap.size ≠ w.heap.size; omega) _⟩
  · refine ((hrow.of_block (hb.block _ hw)).set k _).congr fun i _ => ?_
    by_cases e : i = k
    · subst e; simp
    · by_cases c1 : i < k
      · have : i < k + 1 := by omega
        simp [e, c1, this]
      · have : ¬ i < k + 1 := by omega
        simp [e, c1, this]
theorem TP.own {w wr : World} {n : Nat} {L : Nat → Nat} {Z : Nat → Nat → Int} (h : TP w wr n n L Z) : OwnP wr w.heap.size wr.heap.size (some ⟨w.heap.size, 0, none⟩) n L Z := by
  obtain ⟨g, hj, hg, hrow⟩ := h
  refine ⟨Nat.le_refl _, .inr ⟨_, _, rfl, Nat.le_refl _, hrow.lt, g, fun _ => 0, L, hj, fun i hi => ?_⟩⟩
  obtain ⟨g0, g1, g2⟩ := hg i hi
  refine ⟨by omega, by omega, g1, ?_, Row1.of_row g2, Nat.le_refl _⟩
  rw [Nat.zero_add, hrow.cell hi]
  simp [hi]
set_option maxHeartbeats 400000 in
theorem toByteSS_any (n : Nat) (L : Nat → Nat) (Z : Nat → Nat → Int) (a : Option Addr) (cap : Nat) (w : World) (hn : n ≤ 1048576) (hL : ∀ i, i < n → L i ≤ 1048576) (h : PagesAt w a n L Z) :
    Calls Try.prog 18 #[.slice a n cap] w fun e w' =>
      e = .returned (.slice (some ⟨w.heap.size, 0, none⟩) n n) ∧ Below w.heap.size w w' ∧ OwnP w' w.heap.size w'.heap.size (some ⟨w.heap.size, 0, none⟩) n L Z := by
  have hmk := run_make_row' (P := Try.prog) 22 55 (.slice none 0 0) 24 Try.underlying22 info22 rfl .i64 .i64 n (by omega) (by omega)
  have HL : Hid (∀ i, i < n → L i ≤ 1048576) := hL
  have HA : Hid (PagesAt w a n L Z) := h
  clear hL h
  go_enter Try.func18, Try.ntmps18
  go_wp2
  go_loopw [4] (fun i wr => ∃ k : Nat, k ≤ n ∧ i = .int .i64 k ∧ Below w.heap.size w wr ∧ TP w wr k n L Z) (fun i _ => n - (intOf i).toNat)
  case atStart => exact ⟨0, Nat.zero_le _, rfl, (Below.refl _ _).alloc (Nat.le_refl _) _, fun _ => 0, fun i j h => by omega, fun i h => by omega, (World.rowIs_made w _ n 55).congr (fun i _ => by simp)⟩
  case round =>
    obtain ⟨k, hk, rfl, hb, hT⟩ := hrel
    by_cases hlt : k < n
    · rcases HA.out.below hb with h | ⟨b, off, rfl, hl, hc⟩
      · omega
      obtain ⟨ai, ci, hcell, hby, -⟩ := hc k hlt
      have HY : Hid (BytesAt wr ai (L k) (Z k)) := hby
      have HT : Hid (TP w wr k n L Z) := hT
      obtain ⟨g, -, -, hrow⟩ := hT
      have hsz := hrow.lt
      obtain ⟨v3, hv3⟩ : ∃ v, wr.cell? ⟨w.heap.size, k, none⟩ = some v := ⟨_, hrow.cell hlt⟩
      have hfz := hrow.frozen k
      have HB : Hid (Below w.heap.size w wr) := hb
      clear hc hb hrow hmk hby
      go_wp2_with fail
      refine (toByteS_any (L k) (Z k) ai ci wr (by have := HL.out k hlt; omega) HY.out).mono ?_
      rintro e w1 ⟨rfl, hb1, hr1⟩
      have g3 : w1.cell? ⟨w.heap.size, k, none⟩ = some v3 := (hb1.cell (p := ⟨_, _, none⟩) hsz).trans hv3
      have f3 : w1.frozen? ⟨w.heap.size, k, none⟩ = false := (hb1.frozen (p := ⟨_, _, none⟩) hsz).trans hfz
      have HB1 : Hid (Below wr.heap.size wr w1) := hb1
      have HR1 : Hid (w1.rowIs wr.heap.size 5 (L k) (fun j => .int .u8 (Z k j))) := hr1
      clear hb1 hr1 hv3 hfz
      go_wp2_with fail
      go_roundw
      case rel => exact ⟨k + 1, hlt, by go_num, (below_then HB.out HB1.out).setCell (Nat.le_refl _) _, HT.out.step HB1.out HR1.out⟩
      case measure => simp [intOf]; omega
    · have hkn : k = n := by omega
      have HT : Hid (TP w wr n n L Z) := by have h := hT; rw [hkn] at h; exact h
      clear hmk hT
      go_wp2
      go_ret
      exact ⟨rfl, hb, HT.out.own⟩
end Go.Proofs.Ytldnfiadafmomaa
