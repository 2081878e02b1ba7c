/- What is held: lists of pairs of numbers, by the index; the laws' own helpers over them. -/
import Derived.Test.YtnplheilojhpmaaGreatQRb
namespace Go.Proofs.YtnplheilojhpmaaGreat
open Go.ChangeShapes Go.WideShapes Go.ChangeAt Go.RowKit Go.Deep Go.Joins
set_option linter.unusedVariables false
set_option maxRecDepth 20000

theorem ownH_of_row {w : World} {b n : Nat} {K V : Nat → Int} (h : w.rowIs b 104 (n * 2) (cv K V)) : Own w b (b + 1) (some ⟨b, 0, none⟩) n K V :=
  ⟨h.lt, .inr ⟨b, 0, rfl, Nat.le_refl _, by omega, fun i hi => by have := h.cell (i := i * 2) (by omega); rw [cv_key] at this; simpa using this, fun i hi => by have := h.cell (i := i * 2 + 1) (by omega); rw [cv_val] at this; simpa using this,
    fun i _ => h.frozen _, fun i _ => h.frozen _⟩⟩
theorem infoHeld : (Tryz.prog.info? 104).map (fun i => (i.zero, i.size, i.bytes)) = some (some (.agg #[.int .i64 0, .int .i64 0]), 2, 16) := by kernel_rfl
/-- 'make([]impl.Cell, n)'. -/
theorem run_make_helds (n : Nat) (hn : n ≤ 8796093022208) (w : World) :
    (Instr.makeSlice 43 (.int .i64 (n : Int)) (.int .i64 (n : Int))).run Tryz.prog w = .ok (.slice (some ⟨w.heap.size, 0, none⟩) n n) (w.alloc (.cells (madeCells #[.int .i64 0, .int .i64 0] (n * 2)) 104)) := by
  obtain ⟨i, hi, hzz⟩ := Option.map_eq_some_iff.1 infoHeld
  simp only [Prod.mk.injEq] at hzz
  obtain ⟨hz, hs, hb⟩ := hzz
  have hr := run_make (P := Tryz.prog) w 43 104 i _ Tryz.underlying43 hi hz .i64 .i64 n n (by omega) (Int.le_refl _) (by rw [hb]; omega) (by omega)
  simp only [Int.toNat_natCast, hs] at hr
  exact hr
theorem made_helds (w : World) (n : Nat) : (w.alloc (.cells (madeCells #[.int .i64 0, .int .i64 0] (n * 2)) 104)).rowIs w.heap.size 104 (n * 2) (cv (fun _ => 0) (fun _ => 0)) :=
  ⟨_, blk_alloc_new _ _, size_madeCells _ _, fun i hi => by
    have h : i % 2 = 0 ∨ i % 2 = 1 := by omega
    rcases h with h | h <;> simp [madeCells, hi, cv, h]⟩
/-- laws.eqCell of one cell with itself. -/
theorem eqHeld_same (k v : Int) (w : World) : Calls Tryz.prog 72 #[.agg #[.int .i64 k, .int .i64 v], .agg #[.int .i64 k, .int .i64 v]] w fun e w' =>
    e = .returned (.bool true) ∧ ∃ c1 c2 : Array Value, w' = (w.alloc (.cells c1 104)).alloc (.cells c2 104) := by
  go_enter Tryz.func72, Tryz.ntmps72
  go_wp2
  go_ret
  exact ⟨rfl, _, _, rfl⟩
theorem toHeld_any (k v : Int) (w : World) : Calls Tryz.prog 58 #[.agg #[.int .i64 k, .int .i64 v]] w fun e w' =>
    e = .returned (.agg #[.int .i64 k, .int .i64 v]) ∧ Below w.heap.size w w' := by
  go_enter Tryz.func58, Tryz.ntmps58
  go_wp2
  exact bodyPost_ret (v := .agg #[.int .i64 k, .int .i64 v]) (by simp [results, Tryz.results58, go_sem]) rfl ⟨rfl, (((Below.refl _ _).alloc (Nat.le_refl _) _).alloc (by simp) _).alloc (by simp; omega) _⟩
set_option maxHeartbeats 400000 in
theorem eqHeldS_some (n : Nat) (K V : Nat → Int) (b off cap b' off' cap' : Nat) (w : World) (hn : n ≤ 140737488355328) (hbl : b < w.heap.size) (hbl' : b' < w.heap.size)
    (hk : ∀ i, i < n → w.cell? ⟨b, off + i * 2, none⟩ = some (.int .i64 (K i))) (hv : ∀ i, i < n → w.cell? ⟨b, off + i * 2 + 1, none⟩ = some (.int .i64 (V i)))
    (hk' : ∀ i, i < n → w.cell? ⟨b', off' + i * 2, none⟩ = some (.int .i64 (K i))) (hv' : ∀ i, i < n → w.cell? ⟨b', off' + i * 2 + 1, none⟩ = some (.int .i64 (V i))) :
    Calls Tryz.prog 34 #[.slice (some ⟨b, off, none⟩) n cap, .slice (some ⟨b', off', none⟩) n cap'] w fun e w' => e = .returned (.bool true) ∧ Below w.heap.size w w' := by
  go_enter Tryz.func34, Tryz.ntmps34
  go_wp2
  go_loopw [5] (fun i wr => ∃ k : Nat, k ≤ n ∧ i = .int .i64 k ∧ Below w.heap.size w wr) (fun i _ => n - (intOf i).toNat)
  case atStart => exact ⟨0, Nat.zero_le _, rfl, Below.refl _ _⟩
  case round =>
    obtain ⟨k, hk0, rfl, hb⟩ := hrel
    by_cases hlt : k < n
    · have h1 : wr.cell? ⟨b, off + k * 2, none⟩ = some (.int .i64 (K k)) := (hb.cell (p := ⟨b, _, none⟩) hbl).trans (hk k hlt)
      have h2 : wr.cell? ⟨b, off + k * 2 + 1, none⟩ = some (.int .i64 (V k)) := (hb.cell (p := ⟨b, _, none⟩) hbl).trans (hv k hlt)
      have h3 : wr.cell? ⟨b', off' + k * 2, none⟩ = some (.int .i64 (K k)) := (hb.cell (p := ⟨b', _, none⟩) hbl').trans (hk' k hlt)
      have h4 : wr.cell? ⟨b', off' + k * 2 + 1, none⟩ = some (.int .i64 (V k)) := (hb.cell (p := ⟨b', _, none⟩) hbl').trans (hv' k hlt)
      have hlt' : (k : Int) < (n : Int) := by omega
      clear hk hk' hv hv'
      go_wp2
      go_region_held3 (fun w' => w'.cell? ⟨b, off + k * 2, none⟩ = some (.int .i64 (K k)) ∧ w'.cell? ⟨b, off + k * 2 + 1, none⟩ = some (.int .i64 (V k)) ∧ w'.cell? ⟨b', off' + k * 2, none⟩ = some (.int .i64 (K k)) ∧ w'.cell? ⟨b', off' + k * 2 + 1, none⟩ = some (.int .i64 (V k))) (go_keep)
        (first | (go_at_call 72; refine (eqHeld_same (K k) (V k) _).mono ?_; rintro e w' ⟨rfl, o1, o2, rfl⟩))
      have HB : Hid (Below w.heap.size w wr) := hb
      clear hb
      go_wp2
      go_roundw
      case rel => exact ⟨k + 1, hlt, by go_num, by have hs := HB.out.size; repeat (first | exact HB.out | apply Below.drew | refine Below.alloc ?_ (by first | omega | (simp; omega)) _)⟩
      case measure => simp [intOf]; omega
    · have hkn : k = n := by omega
      clear hk hk' hv hv'
      go_wp2
      go_ret
      exact ⟨rfl, hb⟩
theorem eqHeldS_zero (a a' : Option Addr) (cap cap' : Nat) (w : World) :
    Calls Tryz.prog 34 #[.slice a 0 cap, .slice a' 0 cap'] w fun e w' => e = .returned (.bool true) ∧ Below w.heap.size w w' := by
  go_enter Tryz.func34, Tryz.ntmps34
  go_wp2
  go_loop [5] (fun i => i = .int .i64 0) (fun _ => 0)
  case atStart => exact rfl
  case round =>
    obtain rfl := hrel
    go_wp2
    go_ret
    exact ⟨rfl, Below.refl _ _⟩
theorem eqHeldS_any (n : Nat) (K V : Nat → Int) (a a' : Option Addr) (cap cap' : Nat) (w : World) (hn : n ≤ 140737488355328) (h : CellsAt w a n K V) (h' : CellsAt w a' n K V) :
    Calls Tryz.prog 34 #[.slice a n cap, .slice a' n cap'] w fun e w' => e = .returned (.bool true) ∧ Below w.heap.size w w' := by
  rcases h with rfl | ⟨b, off, rfl, hl, hk, hv⟩
  · exact eqHeldS_zero a a' cap cap' w
  · rcases h' with rfl | ⟨b', off', rfl, hl', hk', hv'⟩
    · exact eqHeldS_zero _ a' cap cap' w
    · exact eqHeldS_some n K V b off cap b' off' cap' w hn hl hl' hk hv hk' hv'
theorem cvH_step {K V : Nat → Int} {w : World} {b n k : Nat} (h : w.rowIs b 104 (n * 2) (cv (fun i => if i < k then K i else 0) (fun i => if i < k then V i else 0))) :
    ((w.setCell ⟨b, k * 2, none⟩ (.int .i64 (K k))).setCell ⟨b, k * 2 + 1, none⟩ (.int .i64 (V k))).rowIs b 104 (n * 2) (cv (fun i => if i < k + 1 then K i else 0) (fun i => if i < k + 1 then V i else 0)) := by
  refine ((h.set (k * 2) _).set (k * 2 + 1) _).congr fun j _ => ?_
  by_cases e1 : j = k * 2 + 1
  · subst e1; rw [if_pos rfl, cv_val]; simp
  · rw [if_neg e1]
    by_cases e2 : j = k * 2
    · subst e2; rw [if_pos rfl, cv_key]; simp
    · rw [if_neg e2]
      have : (j / 2 < k) ↔ (j / 2 < k + 1) := by omega
      unfold cv; simp only [this]
set_option maxHeartbeats 400000 in
theorem toHeldS_some (n : Nat) (K V : Nat → Int) (b off cap : Nat) (w : World) (hn : n ≤ 8796093022208) (hbl : b < w.heap.size)
    (hk : ∀ i, i < n → w.cell? ⟨b, off + i * 2, none⟩ = some (.int .i64 (K i))) (hv : ∀ i, i < n → w.cell? ⟨b, off + i * 2 + 1, none⟩ = some (.int .i64 (V i))) :
    Calls Tryz.prog 24 #[.slice (some ⟨b, off, none⟩) n cap] w fun e w' =>
      e = .returned (.slice (some ⟨w.heap.size, 0, none⟩) n n) ∧ Below w.heap.size w w' ∧ w'.rowIs w.heap.size 104 (n * 2) (cv K V) := by
  have hmk := run_make_helds n hn
  go_enter Tryz.func24, Tryz.ntmps24
  go_wp2
  go_loopw [4] (fun i wr => ∃ k : Nat, k ≤ n ∧ i = .int .i64 k ∧ Below w.heap.size w wr ∧ wr.rowIs w.heap.size 104 (n * 2) (cv (fun i => if i < k then K i else 0) (fun i => if i < k then V i else 0))) (fun i _ => n - (intOf i).toNat)
  case atStart => exact ⟨0, Nat.zero_le _, rfl, (Below.refl _ _).alloc (Nat.le_refl _) _, (made_helds w n).congr (fun i _ => by simp)⟩
  case round =>
    obtain ⟨k, hk0, rfl, hb, hrow⟩ := hrel
    by_cases hlt : k < n
    · have h1 : wr.cell? ⟨b, off + k * 2, none⟩ = some (.int .i64 (K k)) := (hb.cell (p := ⟨b, _, none⟩) hbl).trans (hk k hlt)
      have h2 : wr.cell? ⟨b, off + k * 2 + 1, none⟩ = some (.int .i64 (V k)) := (hb.cell (p := ⟨b, _, none⟩) hbl).trans (hv k hlt)
      obtain ⟨v3, hv3⟩ : ∃ v, wr.cell? ⟨w.heap.size, k * 2, none⟩ = some v := ⟨_, hrow.cell (by omega)⟩
      obtain ⟨v4, hv4⟩ : ∃ v, wr.cell? ⟨w.heap.size, k * 2 + 1, none⟩ = some v := ⟨_, hrow.cell (by omega)⟩
      have hf3 := hrow.frozen (k * 2)
      have hf4 := hrow.frozen (k * 2 + 1)
      have hsz := hrow.lt
      have HR : Hid (wr.rowIs w.heap.size 104 (n * 2) (cv (fun i => if i < k then K i else 0) (fun i => if i < k then V i else 0))) := hrow
      have HB : Hid (Below w.heap.size w wr) := hb
      clear hk hv hmk hrow hb
      go_wp2_with fail
      refine (toHeld_any (K k) (V k) wr).mono ?_
      rintro e w1 ⟨rfl, hb1⟩
      have g3 : w1.cell? ⟨w.heap.size, k * 2, none⟩ = some v3 := (hb1.cell (p := ⟨_, _, none⟩) hsz).trans hv3
      have g4 : w1.cell? ⟨w.heap.size, k * 2 + 1, none⟩ = some v4 := (hb1.cell (p := ⟨_, _, none⟩) hsz).trans hv4
      have f3 : w1.frozen? ⟨w.heap.size, k * 2, none⟩ = false := (hb1.frozen (p := ⟨_, _, none⟩) hsz).trans hf3
      have f4 : w1.frozen? ⟨w.heap.size, k * 2 + 1, none⟩ = false := (hb1.frozen (p := ⟨_, _, none⟩) hsz).trans hf4
      have HB1 : Hid (Below wr.heap.size wr w1) := hb1
      clear hb1 h1 h2 hv3 hv4 hf3 hf4
      go_wp2_with fail
      go_roundw
      case rel => exact ⟨k + 1, hlt, by go_num, ((HB.out.trans (HB1.out.mono HB.out.size)).setCell (Nat.le_refl _) _).setCell (Nat.le_refl _) _, cvH_step (HR.out.of_block (HB1.out.block _ hsz))⟩
      case measure => simp [intOf]; omega
    · have hkn : k = n := by omega
      have HR : Hid (wr.rowIs w.heap.size 104 (n * 2) (cv K V)) := hrow.congr (fun i hi => by
        have : i / 2 < k := by omega
        simp [cv, this])
      clear hk hv hmk hrow
      go_wp2
      go_ret
      exact ⟨rfl, hb, HR.out⟩
theorem toHeldS_zero (K V : Nat → Int) (a : Option Addr) (cap : Nat) (w : World) :
    Calls Tryz.prog 24 #[.slice a 0 cap] w fun e w' =>
      e = .returned (.slice (some ⟨w.heap.size, 0, none⟩) 0 0) ∧ Below w.heap.size w w' ∧ w'.rowIs w.heap.size 104 (0 * 2) (cv K V) := by
  have hmk : ∀ w, (Instr.makeSlice 43 (.int .i64 0) (.int .i64 0)).run Tryz.prog w = .ok (.slice (some ⟨w.heap.size, 0, none⟩) 0 0) (w.alloc (.cells #[] 104)) := fun w => by
    have h := run_make_helds 0 (by omega) w
    rw [made_none] at h
    exact h
  go_enter Tryz.func24, Tryz.ntmps24
  go_wp2
  go_loop [4] (fun i => i = .int .i64 0) (fun _ => 0)
  case atStart => exact rfl
  case round =>
    obtain rfl := hrel
    go_wp2
    go_ret
    exact ⟨rfl, (Below.refl _ _).alloc (Nat.le_refl _) _, World.rowIs_alloc w #[] 104 _ (fun i hi => by simp at hi)⟩
theorem toHeldS_any (n : Nat) (K V : Nat → Int) (a : Option Addr) (cap : Nat) (w : World) (hn : n ≤ 8796093022208) (h : CellsAt w a n K V) :
    Calls Tryz.prog 24 #[.slice a n cap] w fun e w' =>
      e = .returned (.slice (some ⟨w.heap.size, 0, none⟩) n n) ∧ Below w.heap.size w w' ∧ w'.rowIs w.heap.size 104 (n * 2) (cv K V) := by
  rcases h with rfl | ⟨b, off, rfl, hbl, hk, hv⟩
  · exact toHeldS_zero K V a cap w
  · exact toHeldS_some n K V b off cap w hn hbl hk hv
set_option maxHeartbeats 400000 in
theorem markHeldS_some (n : Nat) (K V : Nat → Int) (b off cap lo hi : Nat) (m : Int) (w : World) (hn : n ≤ 8796093022208) (hm1 : 0 ≤ m) (hm2 : m ≤ 8796093022208) (hlo : lo ≤ b) (hhi : b < hi) (hr : Row2 w b off n K V) :
    Calls Tryz.prog 38 #[.slice (some ⟨b, off, none⟩) n cap, .int .i64 m] w fun e w' =>
      e = .returned (.int .i64 (m + n * 2)) ∧ Writes lo hi w w' ∧ Row2 w' b off n (mk m K n) (mk (m + 1) V n) := by
  go_enter Tryz.func38, Tryz.ntmps38
  go_wp2
  go_loopw [1, 5] (fun q i wr => ∃ k : Nat, k ≤ n ∧ i = .int .i64 k ∧ q = .int .i64 (m + k * 2) ∧ Writes lo hi w wr ∧ Row2 wr b off n (mk m K k) (mk (m + 1) V k)) (fun _ i _ => n - (intOf i).toNat)
  case atStart => exact ⟨0, Nat.zero_le _, rfl, by go_num, Writes.refl _ _ _, ⟨fun i h => by rw [hr.1 i h]; simp [mk], fun i h => by rw [hr.2.1 i h]; simp [mk], hr.2.2.1, hr.2.2.2⟩⟩
  case round =>
    obtain ⟨k, hk0, rfl, rfl, hb, hrow⟩ := hrel
    by_cases hlt : k < n
    · have h1 := hrow.1 k hlt
      have h2 := hrow.2.1 k hlt
      have h3 := hrow.2.2.1 k hlt
      have h4 := hrow.2.2.2 k hlt
      generalize mk m K k k = x1 at h1
      generalize mk (m + 1) V k k = x2 at h2
      have HR : Hid (Row2 wr b off n (mk m K k) (mk (m + 1) V k)) := hrow
      have HB : Hid (Writes lo hi w wr) := hb
      clear hr hrow hb
      go_wp2
      go_roundw
      case rel => exact ⟨k + 1, hlt, by go_num, by go_num, (HB.out.setCell (p := ⟨b, _, none⟩) hlo hhi _).setCell (p := ⟨b, _, none⟩) hlo hhi _, row2_step hlt HR.out⟩
      case measure => simp [intOf]; omega
    · have hkn : k = n := by omega
      have HR : Hid (Row2 wr b off n (mk m K n) (mk (m + 1) V n)) := by have h := hrow; rw [hkn] at h; exact h
      clear hr hrow
      go_wp2
      go_ret
      exact ⟨ret_int (by rw [hkn]), hb, HR.out⟩
theorem markHeldS_zero (a : Option Addr) (cap lo hi : Nat) (m : Int) (w : World) (hm1 : 0 ≤ m) (hm2 : m ≤ 8796093022208) :
    Calls Tryz.prog 38 #[.slice a 0 cap, .int .i64 m] w fun e w' => e = .returned (.int .i64 m) ∧ w' = w := by
  go_enter Tryz.func38, Tryz.ntmps38
  go_wp2
  go_loop [1, 5] (fun q i => q = .int .i64 m ∧ i = .int .i64 0) (fun _ _ => 0)
  case atStart => exact ⟨rfl, rfl⟩
  case round =>
    obtain ⟨rfl, rfl⟩ := hrel
    go_wp2
    go_ret
    exact ⟨rfl, rfl⟩
theorem markHeldS_any (n : Nat) (K V : Nat → Int) (a : Option Addr) (cap lo hi : Nat) (m : Int) (w : World) (hn : n ≤ 8796093022208) (hm1 : 0 ≤ m) (hm2 : m ≤ 8796093022208) (h : Own w lo hi a n K V) :
    Calls Tryz.prog 38 #[.slice a n cap, .int .i64 m] w fun e w' =>
      e = .returned (.int .i64 (m + n * 2)) ∧ Writes lo hi w w' ∧ Own w' lo hi a n (mK m) (mK (m + 1)) := by
  obtain ⟨h0, rfl | ⟨b, off, rfl, hlo, hhi, hr⟩⟩ := h
  · refine (markHeldS_zero a cap lo hi m w hm1 hm2).mono ?_
    rintro e w' ⟨rfl, rfl⟩
    exact ⟨ret_int (by omega), Writes.refl _ _ _, h0, .inl rfl⟩
  · refine (markHeldS_some n K V b off cap lo hi m w hn hm1 hm2 hlo hhi hr).mono ?_
    rintro e w' ⟨rfl, hw, h1, h2, h3⟩
    exact ⟨rfl, hw, Nat.le_trans h0 hw.size, .inr ⟨b, off, rfl, hlo, hhi, fun i hi => by rw [h1 i hi, mk_lt hi]; rfl, fun i hi => by rw [h2 i hi, mk_lt hi]; rfl, h3⟩⟩
theorem szHeldS_x (n : Nat) (a : Option Addr) (cap : Nat) (x : Int) (w : World) (hn : n ≤ 9223372036854775807) (h0 : 0 ≤ x) (h1 : x ≤ 1048576) :
    Calls Tryz.prog 16 #[.slice a n cap, .int .i64 x] w fun e w' => e = .returned (.int .i64 (if x - n < 0 then -1 else x - n)) ∧ w' = w := by
  by_cases h : x - (n : Int) < 0
  · go_enter Tryz.func16, Tryz.ntmps16
    go_wp2
    go_ret
    exact ⟨rfl, rfl⟩
  · go_enter Tryz.func16, Tryz.ntmps16
    go_wp2
    go_ret
    exact ⟨rfl, rfl⟩
theorem szHeldS_r (n : Nat) (a : Option Addr) (cap : Nat) (x : Int) (w : World) (hn : n ≤ 9223372036854775807) (h0 : 0 ≤ x) (h1 : x ≤ 1048576) :
    Calls Tryz.prog 16 #[.slice a n cap, .int .i64 x] w fun e w' => Below w.heap.size w w' ∧ ∃ r : Int, e = .returned (.int .i64 r) ∧ (r = -1 ∨ (0 ≤ r ∧ r = x - n)) := by
  refine (szHeldS_x n a cap x w hn h0 h1).mono ?_
  rintro e w' ⟨rfl, rfl⟩
  refine ⟨Below.refl _ _, _, rfl, ?_⟩
  by_cases h : x - (n : Int) < 0
  · exact .inl (if_pos h)
  · exact .inr (by rw [if_neg h]; omega)
theorem toHeldS_own (n : Nat) (K V : Nat → Int) (a : Option Addr) (cap : Nat) (w : World) (hn : n ≤ 1048576) (h : CellsAt w a n K V) :
    Calls Tryz.prog 24 #[.slice a n cap] w fun e w' => ∃ b, e = .returned (.slice (some ⟨b, 0, none⟩) n n) ∧ Below w.heap.size w w' ∧ Own w' w.heap.size w'.heap.size (some ⟨b, 0, none⟩) n K V := by
  refine (toHeldS_any n K V a cap w (by omega) h).mono ?_
  rintro e w' ⟨rfl, hb, hr⟩
  exact ⟨_, rfl, hb, (ownH_of_row hr).wide (Nat.le_refl _) hr.lt (Nat.le_refl _)⟩
theorem cellsHeld : Tryz.prog.cellsOf 106 = 2 := by kernel_rfl
theorem openHeldS {H : Type} {enc : TypeId × Value → H} {W : World} {fuel : Nat} {cs : List Value} {x : DataW H × List MemPlace}
    (h : DataW.trod enc Tryz.prog W 0 (fun _ => true) true fuel 30 cs = some x) :
    ∃ (a : Option Addr) (n cap : Nat) (K V : Nat → Int), cs = [.slice a n cap] ∧ n ≤ cap ∧ n ≤ 9223372036854775807 ∧ CellsAt W a n K V := by
  rcases open_slice Tryz.underlying30 h with ⟨rfl, _⟩ | ⟨a, l, c, m, nn, D, Pl, rfl, _, hl, hm, hmm, _, hx⟩
  · exact ⟨none, 0, 0, fun _ => 0, fun _ => 0, rfl, Nat.le_refl _, by omega, .inl rfl⟩
  · have hmc : m = c := by simpa using hmm
    unfold maxLen at hm
    rw [cellsHeld] at hx
    have each : ∀ i, i < l → ∃ q : Int × Int, W.cell? (a.add (i * 2)) = some (.int .i64 q.1) ∧ W.cell? (a.add (i * 2 + 1)) = some (.int .i64 q.2) := fun i hi => by
      obtain ⟨cs', h1, h2⟩ := hx i (by omega)
      obtain ⟨_, hlen, hcell⟩ := World.cells?_some h1
      obtain ⟨xs, k, hk, hxy, _, hxl, hf⟩ := DataW.trod_struct Tryz.underlying106 h2
      match xs, hxl, cs', hlen with
      | [y0, y1], _, [v0, v1], _ =>
        have g0 := hf 0 _ rfl
        have g1 := hf 1 _ rfl
        simp [cellsI1] at g0 g1
        have e0 := hcell 0 (by omega)
        have e1 := hcell 1 (by omega)
        rw [add_add] at e0 e1
        obtain ⟨z0, f0, _, _⟩ := DataW.trod_int Tryz.underlying2 g0
        obtain ⟨z1, f1, _, _⟩ := DataW.trod_int Tryz.underlying2 g1
        simp at f0 f1
        subst f0 f1
        exact ⟨(z0, z1), by simpa using e0, by simpa using e1⟩
    obtain ⟨q, hq⟩ := choose_lt each
    refine ⟨some a, l, c, fun i => (q i).1, fun i => (q i).2, rfl, by omega, by omega, ?_⟩
    by_cases hz0 : l = 0
    · exact .inl hz0
    · obtain ⟨b, off, spot⟩ := a
      have hc0 := (hq 0 (by omega)).1
      have hspot : spot = none := by simpa [Addr.add] using World.cell?_spot hc0
      subst hspot
      refine .inr ⟨b, off, rfl, Go.block_lt_of_cell hc0, fun i hi => ?_, fun i hi => ?_⟩
      · have k0 := (hq i hi).1
        rw [add_plain] at k0
        exact k0
      · have k1 := (hq i hi).2
        rw [add_plain] at k1
        rw [Nat.add_assoc]; exact k1
end Go.Proofs.YtnplheilojhpmaaGreat
