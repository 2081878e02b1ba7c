/- Rows of edges by the index: equal, marked, held; answers that are lists of edges. -/
import Derived.Test.YtnmmnhfgkcdajaaEda
import Derived.Lib.SmallJoins
namespace Go.Proofs.Ytnmmnhfgkcdajaa
open Go.ChangeShapes Go.WideShapes Go.ChangeAt Go.RowKit Go.Deep Go.Joins
set_option linter.unusedVariables false
set_option maxRecDepth 20000

/-- Its cells. -/
def C3 (w : World) (b o : Nat) (r : Ed) : Prop :=
  w.cell? ⟨b, o, none⟩ = some (.int .i64 r.f) ∧ w.cell? ⟨b, o + 1, none⟩ = some (.int .i64 r.t) ∧ w.cell? ⟨b, o + 2, none⟩ = some (.int .i64 r.k)
theorem C3.block {w w' : World} {b o : Nat} {r : Ed} (h : C3 w b o r) (e : w'.heap[b]? = w.heap[b]?) : C3 w' b o r := by
  have g : ∀ i, w'.cell? ⟨b, i, none⟩ = w.cell? ⟨b, i, none⟩ := fun i => World.cell?_of_block (w := w) (a := ⟨b, i, none⟩) e
  obtain ⟨h0, h1, h2⟩ := h
  exact ⟨(g _).trans h0, (g _).trans h1, (g _).trans h2⟩
/-- The slice at 'a' has the n hop R. -/
def EdR (w : World) (a : Option Addr) (n : Nat) (R : Nat → Ed) : Prop := n = 0 ∨ ∃ b off, a = some ⟨b, off, none⟩ ∧ b < w.heap.size ∧ ∀ i, i < n → C3 w b (off + i * 3) (R i)
def RowE (w : World) (b off n : Nat) (R : Nat → Ed) : Prop := (∀ i, i < n → C3 w b (off + i * 3) (R i)) ∧ ∀ i, w.frozen? ⟨b, i, none⟩ = false
def OwnE3 (w : World) (lo hi : Nat) (a : Option Addr) (n : Nat) (R : Nat → Ed) : Prop := hi ≤ w.heap.size ∧ (n = 0 ∨ ∃ b off, a = some ⟨b, off, none⟩ ∧ lo ≤ b ∧ b < hi ∧ RowE w b off n R)
theorem EdR.below {w w' : World} {a : Option Addr} {n : Nat} {R : Nat → Ed} (h : EdR w a n R) (hb : Below w.heap.size w w') : EdR w' a n R := by
  rcases h with h | ⟨b, off, ha, hl, hc⟩
  · exact .inl h
  · exact .inr ⟨b, off, ha, Nat.lt_of_lt_of_le hl hb.size, fun i hi => (hc i hi).block (hb.block _ hl)⟩
theorem EdR.congr {w : World} {a : Option Addr} {n : Nat} {R S : Nat → Ed} (h : EdR w a n R) (e : ∀ i, i < n → R i = S i) : EdR w a n S := by
  rcases h with h | ⟨b, off, ha, hl, hc⟩
  · exact .inl h
  · exact .inr ⟨b, off, ha, hl, fun i hi => by rw [← e i hi]; exact hc i hi⟩
theorem OwnE3.at {w : World} {lo hi : Nat} {a : Option Addr} {n : Nat} {R : Nat → Ed} (h : OwnE3 w lo hi a n R) : EdR w a n R := by
  obtain ⟨h0, h1 | ⟨b, off, ha, _, hl, hc⟩⟩ := h
  · exact .inl h1
  · exact .inr ⟨b, off, ha, by omega, hc.1⟩
theorem OwnE3.congr {w : World} {lo hi : Nat} {a : Option Addr} {n : Nat} {R S : Nat → Ed} (h : OwnE3 w lo hi a n R) (e : ∀ i, i < n → R i = S i) : OwnE3 w lo hi a n S := by
  obtain ⟨h0, h1 | ⟨b, off, ha, h2, hl, hc⟩⟩ := h
  · exact ⟨h0, .inl h1⟩
  · exact ⟨h0, .inr ⟨b, off, ha, h2, hl, fun i hi => by rw [← e i hi]; exact hc.1 i hi, hc.2⟩⟩
theorem OwnE3.writes {w w' : World} {lo hi lo' hi' : Nat} {a : Option Addr} {n : Nat} {R : Nat → Ed} (h : OwnE3 w lo hi a n R) (hw : Writes lo' hi' w w') (hd : hi ≤ lo' ∨ hi' ≤ lo) : OwnE3 w' lo hi a n R := by
  obtain ⟨h0, h1 | ⟨b, off, ha, h2, hl, hc⟩⟩ := h
  · exact ⟨Nat.le_trans h0 hw.size, .inl h1⟩
  · have hb := hw.block b (by omega) (by omega)
    exact ⟨Nat.le_trans h0 hw.size, .inr ⟨b, off, ha, h2, hl, fun i hi => (hc.1 i hi).block hb, fun i => (World.frozen?_of_block (w := w) (a := ⟨b, i, none⟩) hb).trans (hc.2 i)⟩⟩
theorem OwnE3.below {w w' : World} {lo hi : Nat} {a : Option Addr} {n : Nat} {R : Nat → Ed} (h : OwnE3 w lo hi a n R) (hb : Below w.heap.size w w') : OwnE3 w' lo hi a n R :=
  h.writes (Writes.of_below (lo := hi) (hi := hi) hb) (.inl (Nat.le_refl _))
theorem OwnE3.wide {w : World} {lo hi lo' hi' : Nat} {a : Option Addr} {n : Nat} {R : Nat → Ed} (h : OwnE3 w lo hi a n R) (h1 : lo' ≤ lo) (h2 : hi ≤ hi') (h3 : hi' ≤ w.heap.size) : OwnE3 w lo' hi' a n R := by
  obtain ⟨h0, h4 | ⟨b, off, ha, h5, hl, r⟩⟩ := h
  · exact ⟨h3, .inl h4⟩
  · exact ⟨h3, .inr ⟨b, off, ha, by omega, by omega, r⟩⟩
/-! ### a hop is stored -/
def setE3 (w : World) (b o : Nat) (r : Ed) : World :=
  ((w.setCell ⟨b, o, none⟩ (.int .i64 r.f)).setCell ⟨b, o + 1, none⟩ (.int .i64 r.t)).setCell ⟨b, o + 2, none⟩ (.int .i64 r.k)
theorem setE3_far {w : World} {b o o' : Nat} {r : Ed} (h : o' < o ∨ o + 2 < o') : (setE3 w b o r).cell? ⟨b, o', none⟩ = w.cell? ⟨b, o', none⟩ := by
  unfold setE3
  rw [setO (by omega), setO (by omega), setO (by omega)]
theorem setE3_same {w : World} {b o : Nat} {r r0 : Ed} (h : C3 w b o r0) : C3 (setE3 w b o r) b o r := by
  obtain ⟨h0, h1, h2⟩ := h
  unfold setE3
  refine ⟨?_, ?_, ?_⟩
  · rw [setO (by omega), setO (by omega)]; exact setS h0
  · rw [setO (by omega)]; exact setS (by rw [setO (by omega)]; exact h1)
  · exact setS (by rw [setO (by omega), setO (by omega)]; exact h2)
theorem setE3_frozen {w : World} {b o : Nat} {r : Ed} (h : ∀ i, w.frozen? ⟨b, i, none⟩ = false) : ∀ i, (setE3 w b o r).frozen? ⟨b, i, none⟩ = false := fun i => by
  unfold setE3
  rw [World.frozen?_setCell, World.frozen?_setCell, World.frozen?_setCell]
  exact h i
theorem setE3_writes {lo hi : Nat} {w wr : World} {b o : Nat} {r : Ed} (h : Writes lo hi w wr) (h1 : lo ≤ b) (h2 : b < hi) : Writes lo hi w (setE3 wr b o r) := by
  unfold setE3
  exact ((h.setCell (p := ⟨b, _, none⟩) h1 h2 _).setCell (p := ⟨b, _, none⟩) h1 h2 _).setCell (p := ⟨b, _, none⟩) h1 h2 _
theorem setE3_below {n : Nat} {w wr : World} {b o : Nat} {r : Ed} (h : Below n w wr) (h1 : n ≤ b) : Below n w (setE3 wr b o r) := by
  unfold setE3
  exact ((h.setCell (p := ⟨b, _, none⟩) h1 _).setCell (p := ⟨b, _, none⟩) h1 _).setCell (p := ⟨b, _, none⟩) h1 _
theorem setE3_size {w : World} {b o : Nat} {r : Ed} : (setE3 w b o r).heap.size = w.heap.size := by simp [setE3, World.setCell]
/-- A row of which the k-th hop is stored. -/
theorem rowE_set {w : World} {b off n k : Nat} {R : Nat → Ed} {r : Ed} (hlt : k < n) (h : RowE w b off n R) : RowE (setE3 w b (off + k * 3) r) b off n (fun i => if i = k then r else R i) := by
  refine ⟨fun i hi => ?_, setE3_frozen h.2⟩
  by_cases e : i = k
  · subst e
    simp only [if_true]
    exact setE3_same (h.1 i hi)
  · simp only [if_neg e]
    have g : ∀ j, j < 3 → (setE3 w b (off + k * 3) r).cell? ⟨b, off + i * 3 + j, none⟩ = w.cell? ⟨b, off + i * 3 + j, none⟩ := fun j hj => setE3_far (by omega)
    obtain ⟨h0, h1, h2⟩ := h.1 i hi
    exact ⟨(g 0 (by omega)).trans h0, (g 1 (by omega)).trans h1, (g 2 (by omega)).trans h2⟩
theorem rowE_congr {w : World} {b off n : Nat} {R S : Nat → Ed} (h : RowE w b off n R) (e : ∀ i, i < n → R i = S i) : RowE w b off n S := ⟨fun i hi => by rw [← e i hi]; exact h.1 i hi, h.2⟩
theorem rowE_block {w w' : World} {b off n : Nat} {R : Nat → Ed} (h : RowE w b off n R) (hb : w'.heap[b]? = w.heap[b]?) : RowE w' b off n R :=
  ⟨fun i hi => (h.1 i hi).block hb, fun i => (World.frozen?_of_block (w := w) (a := ⟨b, i, none⟩) hb).trans (h.2 i)⟩
/-! ### equal -/
theorem eqEdge_same (t a g : Int) (w : World) :
    Calls Try.prog 65 #[.agg #[.int .i64 t, .int .i64 a, .int .i64 g], .agg #[.int .i64 t, .int .i64 a, .int .i64 g]] w fun e w' => e = .returned (.bool true) ∧ Below w.heap.size w w' := by
  have hb0 : ∀ o1 o2, Below w.heap.size w ((w.alloc o1).alloc o2) := fun o1 o2 => ((Below.refl _ _).alloc (Nat.le_refl _) _).alloc (by simp) _
  go_enter Try.func65, Try.ntmps65
  go_wp2_with fail
  go_ret
  exact ⟨rfl, hb0 _ _⟩
theorem eqEdgeS_zero (a a' : Option Addr) (cap cap' : Nat) (w : World) : Calls Try.prog 49 #[.slice a 0 cap, .slice a' 0 cap'] w fun e w' => e = .returned (.bool true) ∧ Below w.heap.size w w' := by
  go_enter Try.func49, Try.ntmps49
  go_wp2_with fail
  go_loop [5] (fun i => i = .int .i64 0) (fun _ => 0)
  case atStart => exact rfl
  case round =>
    obtain rfl := hrel
    go_wp2_with fail
    go_ret
    exact ⟨rfl, Below.refl _ _⟩
theorem drewB7E {w1 w2 : World} (hb : Below w1.drew.heap.size w1.drew w2) : Below w1.heap.size w1 w2 := ((Below.refl _ _).drew).trans hb
set_option maxHeartbeats 2000000 in
theorem eqEdgeS_some (n : Nat) (R : Nat → Ed) (b off cap b' off' cap' : Nat) (w : World) (hn : n ≤ 1048576) (hbl : b < w.heap.size) (hbl' : b' < w.heap.size) (hc : ∀ i, i < n → C3 w b (off + i * 3) (R i)) (hc' : ∀ i, i < n → C3 w b' (off' + i * 3) (R i)) :
    Calls Try.prog 49 #[.slice (some ⟨b, off, none⟩) n cap, .slice (some ⟨b', off', none⟩) n cap'] w fun e w' => e = .returned (.bool true) ∧ Below w.heap.size w w' := by
  have HC : Hid (∀ i, i < n → C3 w b (off + i * 3) (R i)) := hc
  have HC' : Hid (∀ i, i < n → C3 w b' (off' + i * 3) (R i)) := hc'
  have hne : ((n : Int) != (n : Int)) = false := by simp
  clear hc hc'
  go_enter Try.func49, Try.ntmps49
  go_wp2_with fail
  go_loopw [5] (fun i wr => ∃ k : Nat, k ≤ n ∧ i = .int .i64 k ∧ Hid (Below w.heap.size w wr)) (fun i _ => n - (intOf i).toNat)
  case atStart => exact ⟨0, Nat.zero_le _, rfl, Below.refl _ _⟩
  case round =>
    obtain ⟨k, hk, rfl, HB⟩ := hrel
    by_cases hlt : k < n
    · have hlt' : (k : Int) < (n : Int) := by omega
      have hk0 : (0 : Int) ≤ (k : Int) := by omega
      obtain ⟨x0, x1, x2⟩ := (HC.out k hlt).block (HB.out.block _ hbl)
      obtain ⟨y0, y1, y2⟩ := (HC'.out k hlt).block (HB.out.block _ hbl')
      generalize R k = r at *
      go_wp2_with fail
      go_region_law (first | (go_simp; go_at_call 65; refine (eqEdge_same r.f r.t r.k _).mono ?_; rintro e w1 ⟨rfl, hb1⟩; have HB1 : Hid (Below w.heap.size w w1) := below_then HB.out (drewB7E hb1)))
      all_goals
        go_wp2_with fail
        go_roundw
        case rel => exact ⟨k + 1, hlt, by go_num, HB1⟩
        case measure => simp [intOf]; omega
    · have hnl : ¬ ((k : Int) < (n : Int)) := by omega
      go_wp2_with fail
      go_ret
      exact ⟨rfl, HB.out⟩
theorem eqEdgeS_any (n : Nat) (R : Nat → Ed) (a a' : Option Addr) (cap cap' : Nat) (w : World) (hn : n ≤ 1048576) (h : EdR w a n R) (h' : EdR w a' n R) :
    Calls Try.prog 49 #[.slice a n cap, .slice a' n cap'] w fun e w' => e = .returned (.bool true) ∧ Below w.heap.size w w' := by
  rcases h with rfl | ⟨b, off, rfl, hl, hc⟩
  · exact eqEdgeS_zero a a' cap cap' w
  · rcases h' with rfl | ⟨b', off', rfl, hl', hc'⟩
    · exact eqEdgeS_zero _ a' cap cap' w
    · exact eqEdgeS_some n R b off cap b' off' cap' w hn hl hl' hc hc'

def mEd (m : Int) (i : Nat) : Ed := ⟨m + i * 3, m + i * 3 + 1, m + i * 3 + 2⟩
def mkEd (m : Int) (R : Nat → Ed) (j i : Nat) : Ed := if i < j then mEd m i else R i
theorem mkEd_step (m : Int) (R : Nat → Ed) (k i : Nat) : (if i = k then mEd m k else mkEd m R k i) = mkEd m R (k + 1) i := by
  unfold mkEd
  by_cases e : i = k
  · subst e; simp
  · rw [if_neg e]
    have : (i < k + 1) ↔ (i < k) := by omega
    simp only [this]
set_option maxHeartbeats 4000000 in
theorem markEdgeS_some (n : Nat) (R : Nat → Ed) (b off cap lo hi : Nat) (m : Int) (w : World) (hn : n ≤ 1048576) (hm1 : 0 ≤ m) (hm2 : m ≤ 8796093022208) (hlo : lo ≤ b) (hhi : b < hi) (hr : RowE w b off n R) :
    Calls Try.prog 50 #[.slice (some ⟨b, off, none⟩) n cap, .int .i64 m] w fun e w' =>
      e = .returned (.int .i64 (m + n * 3)) ∧ Writes lo hi w w' ∧ RowE w' b off n (mkEd m R n) := by
  have HR0 : Hid (RowE w b off n (mkEd m R 0)) := ⟨fun i h => by have := hr.1 i h; simpa [mkEd] using this, hr.2⟩
  clear hr
  go_enter Try.func50, Try.ntmps50
  go_wp2_with fail
  go_loopw [1, 5] (fun q i wr => ∃ k : Nat, k ≤ n ∧ i = .int .i64 k ∧ q = .int .i64 (m + k * 3) ∧ Hid (Writes lo hi w wr) ∧ Hid (RowE wr b off n (mkEd m R k))) (fun _ i _ => n - (intOf i).toNat)
  case atStart => exact ⟨0, Nat.zero_le _, rfl, by go_num, Writes.refl _ _ _, HR0⟩
  case round =>
    obtain ⟨k, hk0, rfl, rfl, HB, HR⟩ := hrel
    by_cases hlt : k < n
    · obtain ⟨h0, h1, h2⟩ := HR.out.1 k hlt
      have hf := HR.out.2
      generalize mkEd m R k k = r at *
      have hk' : (k : Int) < (n : Int) := by omega
      have hk1 : (0 : Int) ≤ (k : Int) := by omega
      have g1 : IntKind.i64.wrap (m + k * 3 + 1) = m + k * 3 + 1 := by rw [IntKind.wrap_i64]; omega
      have g2 : IntKind.i64.wrap (m + k * 3 + 1 + 1) = m + k * 3 + 2 := by rw [IntKind.wrap_i64]; omega
      have g3 : IntKind.i64.wrap (m + k * 3 + 2 + 1) = m + k * 3 + 3 := by rw [IntKind.wrap_i64]; omega
      go_wp2_with fail
      go_roundw
      case rel => exact ⟨k + 1, hlt, by go_num, by go_num, setE3_writes (r := mEd m k) (o := off + k * 3) HB.out hlo hhi, rowE_congr (rowE_set (r := mEd m k) hlt HR.out) (fun i _ => mkEd_step m R k i)⟩
      case measure => simp [intOf]; omega
    · have hkn : k = n := by omega
      have HR1 : Hid (RowE wr b off n (mkEd m R n)) := by have h := HR.out; rw [hkn] at h; exact h
      have hnl : ¬ ((k : Int) < (n : Int)) := by omega
      go_wp2_with fail
      go_ret
      exact ⟨rfl, HB.out, HR1.out⟩
theorem markEdgeS_zero (a : Option Addr) (cap : Nat) (m : Int) (w : World) : Calls Try.prog 50 #[.slice a 0 cap, .int .i64 m] w fun e w' => e = .returned (.int .i64 m) ∧ w' = w := by
  go_enter Try.func50, Try.ntmps50
  go_wp2
  go_loop [1, 5] (fun q i => q = .int .i64 m ∧ i = .int .i64 0) (fun _ _ => 0)
  case atStart => exact ⟨rfl, rfl⟩
  case round =>
    obtain ⟨rfl, rfl⟩ := hrel
    go_wp2
    go_ret
    exact ⟨rfl, rfl⟩
theorem markEdgeS_any (n : Nat) (R : Nat → Ed) (a : Option Addr) (cap lo hi : Nat) (m : Int) (w : World) (hn : n ≤ 1048576) (hm1 : 0 ≤ m) (hm2 : m ≤ 8796093022208) (h : OwnE3 w lo hi a n R) :
    Calls Try.prog 50 #[.slice a n cap, .int .i64 m] w fun e w' => e = .returned (.int .i64 (m + n * 3)) ∧ Writes lo hi w w' ∧ OwnE3 w' lo hi a n (mEd m) := by
  obtain ⟨h0, rfl | ⟨b, off, rfl, hlo, hhi, hr⟩⟩ := h
  · refine (markEdgeS_zero a cap m w).mono ?_
    rintro e w' ⟨rfl, rfl⟩
    exact ⟨ret_int (by omega), Writes.refl _ _ _, h0, .inl rfl⟩
  · refine (markEdgeS_some n R b off cap lo hi m w hn hm1 hm2 hlo hhi hr).mono ?_
    rintro e w' ⟨rfl, hw, h1, h2⟩
    exact ⟨rfl, hw, Nat.le_trans h0 hw.size, .inr ⟨b, off, rfl, hlo, hhi, fun i hi => by have := h1 i hi; simpa [mkEd, hi] using this, h2⟩⟩
/-! ### held -/
set_option maxHeartbeats 4000000 in
theorem heldEdgeS_some (n b off cap : Nat) (m : Int) (w : World) (hn : n ≤ 1048576) (hm1 : 0 ≤ m) (hm2 : m ≤ 8796093022208) (hc : ∀ i, i < n → C3 w b (off + i * 3) (mEd m i)) :
    Calls Try.prog 51 #[.slice (some ⟨b, off, none⟩) n cap, .int .i64 m] w fun e w' => e = .returned (.int .i64 (m + n * 3)) ∧ w' = w := by
  have HC : Hid (∀ i, i < n → C3 w b (off + i * 3) (mEd m i)) := hc
  clear hc
  go_enter Try.func51, Try.ntmps51
  go_wp2_with fail
  go_loop [1, 5] (fun q i => ∃ k : Nat, k ≤ n ∧ i = .int .i64 k ∧ q = .int .i64 (m + k * 3)) (fun _ i => n - (intOf i).toNat)
  case atStart => exact ⟨0, Nat.zero_le _, rfl, by go_num⟩
  case round =>
    obtain ⟨k, hk0, rfl, rfl⟩ := hrel
    by_cases hlt : k < n
    · obtain ⟨h0, h1, h2⟩ := HC.out k hlt
      simp only [mEd] at h0 h1 h2
      have hk' : (k : Int) < (n : Int) := by omega
      have hk1 : (0 : Int) ≤ (k : Int) := by omega
      have g1 : IntKind.i64.wrap (m + k * 3 + 1) = m + k * 3 + 1 := by rw [IntKind.wrap_i64]; omega
      have g2 : IntKind.i64.wrap (m + k * 3 + 1 + 1) = m + k * 3 + 2 := by rw [IntKind.wrap_i64]; omega
      have g3 : IntKind.i64.wrap (m + k * 3 + 2 + 1) = m + k * 3 + 3 := by rw [IntKind.wrap_i64]; omega
      go_wp2_with fail
      go_round
      case rel => exact ⟨k + 1, hlt, by go_num, by go_num⟩
      case measure => simp [intOf]; omega
    · have hkn : k = n := by omega
      have hnl : ¬ ((k : Int) < (n : Int)) := by omega
      go_wp2_with fail
      go_ret
      exact ⟨rfl, rfl⟩
theorem heldEdgeS_zero (a : Option Addr) (cap : Nat) (m : Int) (w : World) : Calls Try.prog 51 #[.slice a 0 cap, .int .i64 m] w fun e w' => e = .returned (.int .i64 m) ∧ w' = w := by
  go_enter Try.func51, Try.ntmps51
  go_wp2
  go_loop [1, 5] (fun q i => q = .int .i64 m ∧ i = .int .i64 0) (fun _ _ => 0)
  case atStart => exact ⟨rfl, rfl⟩
  case round =>
    obtain ⟨rfl, rfl⟩ := hrel
    go_wp2
    go_ret
    exact ⟨rfl, rfl⟩
theorem heldEdgeS_any (n : Nat) (a : Option Addr) (cap : Nat) (m : Int) (w : World) (hn : n ≤ 1048576) (hm1 : 0 ≤ m) (hm2 : m ≤ 8796093022208) (h : EdR w a n (mEd m)) :
    Calls Try.prog 51 #[.slice a n cap, .int .i64 m] w fun e w' => e = .returned (.int .i64 (m + n * 3)) ∧ w' = w := by
  rcases h with rfl | ⟨b, off, rfl, _, hc⟩
  · refine (heldEdgeS_zero a cap m w).mono ?_
    rintro e w' ⟨rfl, rfl⟩
    exact ⟨ret_int (by omega), rfl⟩
  · exact heldEdgeS_some n b off cap m w hn hm1 hm2 hc
/-! ### answers that are chains -/
theorem eqEdgesResult_same (c : Int) (n : Nat) (R : Nat → Ed) (a a' : Option Addr) (cap cap' : Nat) (w : World) (hn : n ≤ 1048576) (h : EdR w a n R) (h' : EdR w a' n R) :
    Calls Try.prog 25 #[.agg #[.int .i64 c, .slice a n cap], .agg #[.int .i64 c, .slice a' n cap']] w fun e w' => e = .returned (.bool true) ∧ Below w.heap.size w w' := by
  go_enter Try.func25, Try.ntmps25
  go_wp2_with fail
  have hb0 : ∀ o1 o2, Below w.heap.size w ((w.alloc o1).alloc o2) := fun o1 o2 => ((Below.refl _ _).alloc (Nat.le_refl _) _).alloc (by simp) _
  refine (eqEdgeS_any n R a a' cap cap' _ hn (h.below (hb0 _ _)) (h'.below (hb0 _ _))).mono ?_
  rintro e w1 ⟨rfl, hb1⟩
  go_wp2_with fail
  go_ret
  exact ⟨rfl, below_then (hb0 _ _) hb1⟩
theorem markEdgesResult_any (c : Int) (n : Nat) (R : Nat → Ed) (a : Option Addr) (cap lo hi : Nat) (w : World) (hn : n ≤ 1048576) (h : OwnE3 w lo hi a n R) :
    Calls Try.prog 26 #[.agg #[.int .i64 c, .slice a n cap], .int .i64 1] w fun e w' => e = .returned (.int .i64 (1 + n * 3)) ∧ Writes lo hi w w' ∧ OwnE3 w' lo hi a n (mEd 1) := by
  have HO : Hid (OwnE3 w lo hi a n R) := h
  clear h
  go_enter Try.func26, Try.ntmps26
  go_wp2_with fail
  refine (markEdgeS_any n R a cap lo hi 1 _ hn (by omega) (by omega) (HO.out.below (below_new _ _))).mono ?_
  rintro e w1 ⟨rfl, hw, ho⟩
  go_wp2_with fail
  go_ret
  exact ⟨rfl, (Writes.of_below (below_new _ _)).trans hw, ho⟩
theorem heldEdgesResult_any (c : Int) (n : Nat) (a : Option Addr) (cap : Nat) (w : World) (hn : n ≤ 1048576) (h : EdR w a n (mEd 1)) :
    Calls Try.prog 27 #[.agg #[.int .i64 c, .slice a n cap], .int .i64 1] w fun e w' => e = .returned (.int .i64 (1 + n * 3)) ∧ Below w.heap.size w w' := by
  have HO : Hid (EdR w a n (mEd 1)) := h
  have hneg : ¬ ((1 : Int) + (n : Int) * 3 < 0) := by omega
  clear h
  go_enter Try.func27, Try.ntmps27
  go_wp2_with fail
  refine (heldEdgeS_any n a cap 1 _ hn (by omega) (by omega) (HO.out.below (below_new _ _))).mono ?_
  rintro e w1 ⟨rfl, rfl⟩
  go_wp2_with fail
  go_ret
  exact ⟨rfl, below_new _ _⟩

/-- A row of the call's own, by the index. -/
theorem ownE3_of_row {w : World} {base : Nat} {v : Value} {l : List Ed} (h : OwnE w base v l) : ∃ a cap, v = .slice a l.length cap ∧ OwnE3 w base w.heap.size a l.length (eE l) := by
  have hx := h
  rcases h.2 with ⟨rfl, h0⟩ | ⟨g, cap, cur, rfl, hbg, hg, _⟩
  · exact ⟨none, 0, by rw [h0], Nat.le_refl _, .inl h0⟩
  · have hlt : g < w.heap.size := (Array.getElem?_eq_some_iff.1 hg).1
    refine ⟨_, cap, rfl, Nat.le_refl _, .inr ⟨g, 0, rfl, hbg, hlt, fun i hi => ?_, fun i => hx.frozenAt _⟩⟩
    obtain ⟨e0, e1, e2⟩ := el_at l i hi
    have c : ∀ j u, (el l)[j]? = some u → w.cell? ⟨g, j, none⟩ = some u := fun j u hj => by
      have hj2 : j < l.length * 3 := by have := (List.getElem?_eq_some_iff.1 hj).1; rw [el_len] at this; exact this
      have := hx.cellAt j (by omega)
      rw [this]; exact hj
    rw [Nat.zero_add]
    exact ⟨c _ _ e0, c _ _ e1, c _ _ e2⟩
/-- An answer that is a list of edges (or a code). -/
def GRes (c : Int) (zs : List Ed) (w : World) (e : Ending) (w' : World) : Prop :=
  ∃ a cap, e = .returned (.agg #[.int .i64 c, .slice a (if c = 0 then zs else []).length cap]) ∧ Below w.heap.size w w' ∧ OwnE3 w' w.heap.size w'.heap.size a (if c = 0 then zs else []).length (eE (if c = 0 then zs else []))
theorem gres_bad {c : Int} {zs : List Ed} {w w' : World} (hb : Below w.heap.size w w') (hc : c ≠ 0) : GRes c zs w (.returned (.agg #[.int .i64 c, .slice none 0 0])) w' := by
  rw [GRes]
  simp only [if_neg hc]
  exact ⟨none, 0, rfl, hb, Nat.le_refl _, .inl rfl⟩
theorem gres_ok {c : Int} {zs : List Ed} {w wq w' : World} {v : Value} {lo l h : Nat} (hc : c = 0) (hB : Below w.heap.size w wq) (hl : w.heap.size ≤ l) (hlh : l ≤ h) (hh : h ≤ lo)
    (ho : OwnE wq lo v zs) (hw : Writes l h wq w') (hs : w'.heap.size = wq.heap.size) : GRes c zs w (.returned (.agg #[.int .i64 0, v])) w' := by
  rw [GRes, hc]
  simp only [if_true]
  obtain ⟨a, cap, rfl, ho2⟩ := ownE3_of_row ho
  refine ⟨a, cap, rfl, Writes.below hB hw hl, ?_⟩
  rw [hs]
  exact (ho2.writes hw (.inr hh)).wide (by omega) (Nat.le_refl _) (by omega)
end Go.Proofs.Ytnmmnhfgkcdajaa
