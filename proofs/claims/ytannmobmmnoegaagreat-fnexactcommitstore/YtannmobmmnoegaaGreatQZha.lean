/- Numbers in bytes: the model, and the walk of spec.l1Bytes. -/
import Derived.Test.YtannmobmmnoegaaGreatQFault
import Derived.Deep.AppendLies
import Derived.Deep.RegionHeld3
namespace Go.Proofs.YtannmobmmnoegaaGreat
open Go.ChangeShapes Go.WideShapes Go.ChangeAt Go.RowKit Go.Deep Go.Joins
set_option linter.unusedVariables false
set_option maxRecDepth 20000
open Go.RowKit Go.Deep

theorem ownH_of_row {w : World} {b n : Nat} {K V : Nat → Int} (h : w.rowIs b 124 (n * 2) (cv K V)) : Own w b (b + 1) (some ⟨b, 0, none⟩) n K V :=
  ⟨h.lt, .inr ⟨b, 0, rfl, Nat.le_refl _, by omega, fun i hi => by have := h.cell (i := i * 2) (by omega); rw [cv_key] at this; simpa using this, fun i hi => by have := h.cell (i := i * 2 + 1) (by omega); rw [cv_val] at this; simpa using this,
    fun i _ => h.frozen _, fun i _ => h.frozen _⟩⟩
theorem infoHeld : (Tryz.prog.info? 124).map (fun i => (i.zero, i.size, i.bytes)) = some (some (.agg #[.int .i64 0, .int .i64 0]), 2, 16) := by kernel_rfl
/-- 'make([]impl.Cell, n)'. -/
theorem run_make_helds (n : Nat) (hn : n ≤ 8796093022208) (w : World) :
    (Instr.makeSlice 40 (.int .i64 (n : Int)) (.int .i64 (n : Int))).run Tryz.prog w = .ok (.slice (some ⟨w.heap.size, 0, none⟩) n n) (w.alloc (.cells (madeCells #[.int .i64 0, .int .i64 0] (n * 2)) 124)) := by
  obtain ⟨i, hi, hzz⟩ := Option.map_eq_some_iff.1 infoHeld
  simp only [Prod.mk.injEq] at hzz
  obtain ⟨hz, hs, hb⟩ := hzz
  have hr := run_make (P := Tryz.prog) w 40 124 i _ Tryz.underlying40 hi hz .i64 .i64 n n (by omega) (Int.le_refl _) (by rw [hb]; omega) (by omega)
  simp only [Int.toNat_natCast, hs] at hr
  exact hr
theorem made_helds (w : World) (n : Nat) : (w.alloc (.cells (madeCells #[.int .i64 0, .int .i64 0] (n * 2)) 124)).rowIs w.heap.size 124 (n * 2) (cv (fun _ => 0) (fun _ => 0)) :=
  ⟨_, blk_alloc_new _ _, size_madeCells _ _, fun i hi => by
    have h : i % 2 = 0 ∨ i % 2 = 1 := by omega
    rcases h with h | h <;> simp [madeCells, hi, cv, h]⟩
/-- laws.eqCell of one cell with itself. -/
theorem eqHeld_same (k v : Int) (w : World) : Calls Tryz.prog 112 #[.agg #[.int .i64 k, .int .i64 v], .agg #[.int .i64 k, .int .i64 v]] w fun e w' =>
    e = .returned (.bool true) ∧ ∃ c1 c2 : Array Value, w' = (w.alloc (.cells c1 124)).alloc (.cells c2 124) := by
  go_enter Tryz.func112, Tryz.ntmps112
  go_wp2
  go_ret
  exact ⟨rfl, _, _, rfl⟩
theorem toHeld_any (k v : Int) (w : World) : Calls Tryz.prog 104 #[.agg #[.int .i64 k, .int .i64 v]] w fun e w' =>
    e = .returned (.agg #[.int .i64 k, .int .i64 v]) ∧ Below w.heap.size w w' := by
  go_enter Tryz.func104, Tryz.ntmps104
  go_wp2
  exact bodyPost_ret (v := .agg #[.int .i64 k, .int .i64 v]) (by simp [results, Tryz.results104, go_sem]) rfl ⟨rfl, (((Below.refl _ _).alloc (Nat.le_refl _) _).alloc (by simp) _).alloc (by simp; omega) _⟩
set_option maxHeartbeats 400000 in
theorem eqHeldS_some (n : Nat) (K V : Nat → Int) (b off cap b' off' cap' : Nat) (w : World) (hn : n ≤ 140737488355328) (hbl : b < w.heap.size) (hbl' : b' < w.heap.size)
    (hk : ∀ i, i < n → w.cell? ⟨b, off + i * 2, none⟩ = some (.int .i64 (K i))) (hv : ∀ i, i < n → w.cell? ⟨b, off + i * 2 + 1, none⟩ = some (.int .i64 (V i)))
    (hk' : ∀ i, i < n → w.cell? ⟨b', off' + i * 2, none⟩ = some (.int .i64 (K i))) (hv' : ∀ i, i < n → w.cell? ⟨b', off' + i * 2 + 1, none⟩ = some (.int .i64 (V i))) :
    Calls Tryz.prog 46 #[.slice (some ⟨b, off, none⟩) n cap, .slice (some ⟨b', off', none⟩) n cap'] w fun e w' => e = .returned (.bool true) ∧ Below w.heap.size w w' := by
  go_enter Tryz.func46, Tryz.ntmps46
  go_wp2
  go_loopw [5] (fun i wr => ∃ k : Nat, k ≤ n ∧ i = .int .i64 k ∧ Below w.heap.size w wr) (fun i _ => n - (intOf i).toNat)
  case atStart => exact ⟨0, Nat.zero_le _, rfl, Below.refl _ _⟩
  case round =>
    obtain ⟨k, hk0, rfl, hb⟩ := hrel
    by_cases hlt : k < n
    · have h1 : wr.cell? ⟨b, off + k * 2, none⟩ = some (.int .i64 (K k)) := (hb.cell (p := ⟨b, _, none⟩) hbl).trans (hk k hlt)
      have h2 : wr.cell? ⟨b, off + k * 2 + 1, none⟩ = some (.int .i64 (V k)) := (hb.cell (p := ⟨b, _, none⟩) hbl).trans (hv k hlt)
      have h3 : wr.cell? ⟨b', off' + k * 2, none⟩ = some (.int .i64 (K k)) := (hb.cell (p := ⟨b', _, none⟩) hbl').trans (hk' k hlt)
      have h4 : wr.cell? ⟨b', off' + k * 2 + 1, none⟩ = some (.int .i64 (V k)) := (hb.cell (p := ⟨b', _, none⟩) hbl').trans (hv' k hlt)
      have hlt' : (k : Int) < (n : Int) := by omega
      clear hk hk' hv hv'
      go_wp2
      go_region_held3 (fun w' => w'.cell? ⟨b, off + k * 2, none⟩ = some (.int .i64 (K k)) ∧ w'.cell? ⟨b, off + k * 2 + 1, none⟩ = some (.int .i64 (V k)) ∧ w'.cell? ⟨b', off' + k * 2, none⟩ = some (.int .i64 (K k)) ∧ w'.cell? ⟨b', off' + k * 2 + 1, none⟩ = some (.int .i64 (V k))) (go_keep)
        (first | (go_at_call 112; refine (eqHeld_same (K k) (V k) _).mono ?_; rintro e w' ⟨rfl, o1, o2, rfl⟩))
      have HB : Hid (Below w.heap.size w wr) := hb
      clear hb
      go_wp2
      go_roundw
      case rel => exact ⟨k + 1, hlt, by go_num, by have hs := HB.out.size; repeat (first | exact HB.out | apply Below.drew | refine Below.alloc ?_ (by first | omega | (simp; omega)) _)⟩
      case measure => simp [intOf]; omega
    · have hkn : k = n := by omega
      clear hk hk' hv hv'
      go_wp2
      go_ret
      exact ⟨rfl, hb⟩
theorem eqHeldS_zero (a a' : Option Addr) (cap cap' : Nat) (w : World) :
    Calls Tryz.prog 46 #[.slice a 0 cap, .slice a' 0 cap'] w fun e w' => e = .returned (.bool true) ∧ Below w.heap.size w w' := by
  go_enter Tryz.func46, Tryz.ntmps46
  go_wp2
  go_loop [5] (fun i => i = .int .i64 0) (fun _ => 0)
  case atStart => exact rfl
  case round =>
    obtain rfl := hrel
    go_wp2
    go_ret
    exact ⟨rfl, Below.refl _ _⟩
theorem eqHeldS_any (n : Nat) (K V : Nat → Int) (a a' : Option Addr) (cap cap' : Nat) (w : World) (hn : n ≤ 140737488355328) (h : CellsAt w a n K V) (h' : CellsAt w a' n K V) :
    Calls Tryz.prog 46 #[.slice a n cap, .slice a' n cap'] w fun e w' => e = .returned (.bool true) ∧ Below w.heap.size w w' := by
  rcases h with rfl | ⟨b, off, rfl, hl, hk, hv⟩
  · exact eqHeldS_zero a a' cap cap' w
  · rcases h' with rfl | ⟨b', off', rfl, hl', hk', hv'⟩
    · exact eqHeldS_zero _ a' cap cap' w
    · exact eqHeldS_some n K V b off cap b' off' cap' w hn hl hl' hk hv hk' hv'
theorem cvH_step {K V : Nat → Int} {w : World} {b n k : Nat} (h : w.rowIs b 124 (n * 2) (cv (fun i => if i < k then K i else 0) (fun i => if i < k then V i else 0))) :
    ((w.setCell ⟨b, k * 2, none⟩ (.int .i64 (K k))).setCell ⟨b, k * 2 + 1, none⟩ (.int .i64 (V k))).rowIs b 124 (n * 2) (cv (fun i => if i < k + 1 then K i else 0) (fun i => if i < k + 1 then V i else 0)) := by
  refine ((h.set (k * 2) _).set (k * 2 + 1) _).congr fun j _ => ?_
  by_cases e1 : j = k * 2 + 1
  · subst e1; rw [if_pos rfl, cv_val]; simp
  · rw [if_neg e1]
    by_cases e2 : j = k * 2
    · subst e2; rw [if_pos rfl, cv_key]; simp
    · rw [if_neg e2]
      have : (j / 2 < k) ↔ (j / 2 < k + 1) := by omega
      unfold cv; simp only [this]
set_option maxHeartbeats 400000 in
theorem toHeldS_some (n : Nat) (K V : Nat → Int) (b off cap : Nat) (w : World) (hn : n ≤ 8796093022208) (hbl : b < w.heap.size)
    (hk : ∀ i, i < n → w.cell? ⟨b, off + i * 2, none⟩ = some (.int .i64 (K i))) (hv : ∀ i, i < n → w.cell? ⟨b, off + i * 2 + 1, none⟩ = some (.int .i64 (V i))) :
    Calls Tryz.prog 38 #[.slice (some ⟨b, off, none⟩) n cap] w fun e w' =>
      e = .returned (.slice (some ⟨w.heap.size, 0, none⟩) n n) ∧ Below w.heap.size w w' ∧ w'.rowIs w.heap.size 124 (n * 2) (cv K V) := by
  have hmk := run_make_helds n hn
  go_enter Tryz.func38, Tryz.ntmps38
  go_wp2
  go_loopw [4] (fun i wr => ∃ k : Nat, k ≤ n ∧ i = .int .i64 k ∧ Below w.heap.size w wr ∧ wr.rowIs w.heap.size 124 (n * 2) (cv (fun i => if i < k then K i else 0) (fun i => if i < k then V i else 0))) (fun i _ => n - (intOf i).toNat)
  case atStart => exact ⟨0, Nat.zero_le _, rfl, (Below.refl _ _).alloc (Nat.le_refl _) _, (made_helds w n).congr (fun i _ => by simp)⟩
  case round =>
    obtain ⟨k, hk0, rfl, hb, hrow⟩ := hrel
    by_cases hlt : k < n
    · have h1 : wr.cell? ⟨b, off + k * 2, none⟩ = some (.int .i64 (K k)) := (hb.cell (p := ⟨b, _, none⟩) hbl).trans (hk k hlt)
      have h2 : wr.cell? ⟨b, off + k * 2 + 1, none⟩ = some (.int .i64 (V k)) := (hb.cell (p := ⟨b, _, none⟩) hbl).trans (hv k hlt)
      obtain ⟨v3, hv3⟩ : ∃ v, wr.cell? ⟨w.heap.size, k * 2, none⟩ = some v := ⟨_, hrow.cell (by omega)⟩
      obtain ⟨v4, hv4⟩ : ∃ v, wr.cell? ⟨w.heap.size, k * 2 + 1, none⟩ = some v := ⟨_, hrow.cell (by omega)⟩
      have hf3 := hrow.frozen (k * 2)
      have hf4 := hrow.frozen (k * 2 + 1)
      have hsz := hrow.lt
      have HR : Hid (wr.rowIs w.heap.size 124 (n * 2) (cv (fun i => if i < k then K i else 0) (fun i => if i < k then V i else 0))) := hrow
      have HB : Hid (Below w.heap.size w wr) := hb
      clear hk hv hmk hrow hb
      go_wp2_with fail
      refine (toHeld_any (K k) (V k) wr).mono ?_
      rintro e w1 ⟨rfl, hb1⟩
      have g3 : w1.cell? ⟨w.heap.size, k * 2, none⟩ = some v3 := (hb1.cell (p := ⟨_, _, none⟩) hsz).trans hv3
      have g4 : w1.cell? ⟨w.heap.size, k * 2 + 1, none⟩ = some v4 := (hb1.cell (p := ⟨_, _, none⟩) hsz).trans hv4
      have f3 : w1.frozen? ⟨w.heap.size, k * 2, none⟩ = false := (hb1.frozen (p := ⟨_, _, none⟩) hsz).trans hf3
      have f4 : w1.frozen? ⟨w.heap.size, k * 2 + 1, none⟩ = false := (hb1.frozen (p := ⟨_, _, none⟩) hsz).trans hf4
      have HB1 : Hid (Below wr.heap.size wr w1) := hb1
      clear hb1 h1 h2 hv3 hv4 hf3 hf4
      go_wp2_with fail
      go_roundw
      case rel => exact ⟨k + 1, hlt, by go_num, ((HB.out.trans (HB1.out.mono HB.out.size)).setCell (Nat.le_refl _) _).setCell (Nat.le_refl _) _, cvH_step (HR.out.of_block (HB1.out.block _ hsz))⟩
      case measure => simp [intOf]; omega
    · have hkn : k = n := by omega
      have HR : Hid (wr.rowIs w.heap.size 124 (n * 2) (cv K V)) := hrow.congr (fun i hi => by
        have : i / 2 < k := by omega
        simp [cv, this])
      clear hk hv hmk hrow
      go_wp2
      go_ret
      exact ⟨rfl, hb, HR.out⟩
theorem toHeldS_zero (K V : Nat → Int) (a : Option Addr) (cap : Nat) (w : World) :
    Calls Tryz.prog 38 #[.slice a 0 cap] w fun e w' =>
      e = .returned (.slice (some ⟨w.heap.size, 0, none⟩) 0 0) ∧ Below w.heap.size w w' ∧ w'.rowIs w.heap.size 124 (0 * 2) (cv K V) := by
  have hmk : ∀ w, (Instr.makeSlice 40 (.int .i64 0) (.int .i64 0)).run Tryz.prog w = .ok (.slice (some ⟨w.heap.size, 0, none⟩) 0 0) (w.alloc (.cells #[] 124)) := fun w => by
    have h := run_make_helds 0 (by omega) w
    rw [made_none] at h
    exact h
  go_enter Tryz.func38, Tryz.ntmps38
  go_wp2
  go_loop [4] (fun i => i = .int .i64 0) (fun _ => 0)
  case atStart => exact rfl
  case round =>
    obtain rfl := hrel
    go_wp2
    go_ret
    exact ⟨rfl, (Below.refl _ _).alloc (Nat.le_refl _) _, World.rowIs_alloc w #[] 124 _ (fun i hi => by simp at hi)⟩
theorem toHeldS_any (n : Nat) (K V : Nat → Int) (a : Option Addr) (cap : Nat) (w : World) (hn : n ≤ 8796093022208) (h : CellsAt w a n K V) :
    Calls Tryz.prog 38 #[.slice a n cap] w fun e w' =>
      e = .returned (.slice (some ⟨w.heap.size, 0, none⟩) n n) ∧ Below w.heap.size w w' ∧ w'.rowIs w.heap.size 124 (n * 2) (cv K V) := by
  rcases h with rfl | ⟨b, off, rfl, hbl, hk, hv⟩
  · exact toHeldS_zero K V a cap w
  · exact toHeldS_some n K V b off cap w hn hbl hk hv
set_option maxHeartbeats 400000 in
theorem markHeldS_some (n : Nat) (K V : Nat → Int) (b off cap lo hi : Nat) (m : Int) (w : World) (hn : n ≤ 8796093022208) (hm1 : 0 ≤ m) (hm2 : m ≤ 8796093022208) (hlo : lo ≤ b) (hhi : b < hi) (hr : Row2 w b off n K V) :
    Calls Tryz.prog 51 #[.slice (some ⟨b, off, none⟩) n cap, .int .i64 m] w fun e w' =>
      e = .returned (.int .i64 (m + n * 2)) ∧ Writes lo hi w w' ∧ Row2 w' b off n (mk m K n) (mk (m + 1) V n) := by
  go_enter Tryz.func51, Tryz.ntmps51
  go_wp2
  go_loopw [1, 5] (fun q i wr => ∃ k : Nat, k ≤ n ∧ i = .int .i64 k ∧ q = .int .i64 (m + k * 2) ∧ Writes lo hi w wr ∧ Row2 wr b off n (mk m K k) (mk (m + 1) V k)) (fun _ i _ => n - (intOf i).toNat)
  case atStart => exact ⟨0, Nat.zero_le _, rfl, by go_num, Writes.refl _ _ _, ⟨fun i h => by rw [hr.1 i h]; simp [mk], fun i h => by rw [hr.2.1 i h]; simp [mk], hr.2.2.1, hr.2.2.2⟩⟩
  case round =>
    obtain ⟨k, hk0, rfl, rfl, hb, hrow⟩ := hrel
    by_cases hlt : k < n
    · have h1 := hrow.1 k hlt
      have h2 := hrow.2.1 k hlt
      have h3 := hrow.2.2.1 k hlt
      have h4 := hrow.2.2.2 k hlt
      generalize mk m K k k = x1 at h1
      generalize mk (m + 1) V k k = x2 at h2
      have HR : Hid (Row2 wr b off n (mk m K k) (mk (m + 1) V k)) := hrow
      have HB : Hid (Writes lo hi w wr) := hb
      clear hr hrow hb
      go_wp2
      go_roundw
      case rel => exact ⟨k + 1, hlt, by go_num, by go_num, (HB.out.setCell (p := ⟨b, _, none⟩) hlo hhi _).setCell (p := ⟨b, _, none⟩) hlo hhi _, row2_step hlt HR.out⟩
      case measure => simp [intOf]; omega
    · have hkn : k = n := by omega
      have HR : Hid (Row2 wr b off n (mk m K n) (mk (m + 1) V n)) := by have h := hrow; rw [hkn] at h; exact h
      clear hr hrow
      go_wp2
      go_ret
      exact ⟨ret_int (by rw [hkn]), hb, HR.out⟩
theorem markHeldS_zero (a : Option Addr) (cap lo hi : Nat) (m : Int) (w : World) (hm1 : 0 ≤ m) (hm2 : m ≤ 8796093022208) :
    Calls Tryz.prog 51 #[.slice a 0 cap, .int .i64 m] w fun e w' => e = .returned (.int .i64 m) ∧ w' = w := by
  go_enter Tryz.func51, Tryz.ntmps51
  go_wp2
  go_loop [1, 5] (fun q i => q = .int .i64 m ∧ i = .int .i64 0) (fun _ _ => 0)
  case atStart => exact ⟨rfl, rfl⟩
  case round =>
    obtain ⟨rfl, rfl⟩ := hrel
    go_wp2
    go_ret
    exact ⟨rfl, rfl⟩
theorem markHeldS_any (n : Nat) (K V : Nat → Int) (a : Option Addr) (cap lo hi : Nat) (m : Int) (w : World) (hn : n ≤ 8796093022208) (hm1 : 0 ≤ m) (hm2 : m ≤ 8796093022208) (h : Own w lo hi a n K V) :
    Calls Tryz.prog 51 #[.slice a n cap, .int .i64 m] w fun e w' =>
      e = .returned (.int .i64 (m + n * 2)) ∧ Writes lo hi w w' ∧ Own w' lo hi a n (mK m) (mK (m + 1)) := by
  obtain ⟨h0, rfl | ⟨b, off, rfl, hlo, hhi, hr⟩⟩ := h
  · refine (markHeldS_zero a cap lo hi m w hm1 hm2).mono ?_
    rintro e w' ⟨rfl, rfl⟩
    exact ⟨ret_int (by omega), Writes.refl _ _ _, h0, .inl rfl⟩
  · refine (markHeldS_some n K V b off cap lo hi m w hn hm1 hm2 hlo hhi hr).mono ?_
    rintro e w' ⟨rfl, hw, h1, h2, h3⟩
    exact ⟨rfl, hw, Nat.le_trans h0 hw.size, .inr ⟨b, off, rfl, hlo, hhi, fun i hi => by rw [h1 i hi, mk_lt hi]; rfl, fun i hi => by rw [h2 i hi, mk_lt hi]; rfl, h3⟩⟩
set_option maxHeartbeats 400000 in
theorem heldHeldS_some (n b off cap : Nat) (m : Int) (w : World) (hn : n ≤ 8796093022208) (hm1 : 0 ≤ m) (hm2 : m ≤ 8796093022208)
    (hk : ∀ i, i < n → w.cell? ⟨b, off + i * 2, none⟩ = some (.int .i64 (mK m i))) (hv : ∀ i, i < n → w.cell? ⟨b, off + i * 2 + 1, none⟩ = some (.int .i64 (mK (m + 1) i))) :
    Calls Tryz.prog 120 #[.slice (some ⟨b, off, none⟩) n cap, .int .i64 m] w fun e w' => e = .returned (.int .i64 (m + n * 2)) ∧ w' = w := by
  go_enter Tryz.func120, Tryz.ntmps120
  go_wp2
  go_loop [1, 5] (fun q i => ∃ k : Nat, k ≤ n ∧ i = .int .i64 k ∧ q = .int .i64 (m + k * 2)) (fun _ i => n - (intOf i).toNat)
  case atStart => exact ⟨0, Nat.zero_le _, rfl, by go_num⟩
  case round =>
    obtain ⟨k, hk0, rfl, rfl⟩ := hrel
    by_cases hlt : k < n
    · have h1 : w.cell? ⟨b, off + k * 2, none⟩ = some (.int .i64 (m + k * 2)) := hk k hlt
      have h2 : w.cell? ⟨b, off + k * 2 + 1, none⟩ = some (.int .i64 (m + k * 2 + 1)) := by rw [hv k hlt]; unfold mK; congr 2; omega
      clear hk hv
      go_wp2
      go_round
      case rel => exact ⟨k + 1, hlt, by go_num, by go_num⟩
      case measure => simp [intOf]; omega
    · have hkn : k = n := by omega
      clear hk hv
      go_wp2
      go_ret
      exact ⟨rfl, rfl⟩
theorem heldHeldS_zero (a : Option Addr) (cap : Nat) (m : Int) (w : World) (hm1 : 0 ≤ m) (hm2 : m ≤ 8796093022208) :
    Calls Tryz.prog 120 #[.slice a 0 cap, .int .i64 m] w fun e w' => e = .returned (.int .i64 m) ∧ w' = w := by
  go_enter Tryz.func120, Tryz.ntmps120
  go_wp2
  go_loop [1, 5] (fun q i => q = .int .i64 m ∧ i = .int .i64 0) (fun _ _ => 0)
  case atStart => exact ⟨rfl, rfl⟩
  case round =>
    obtain ⟨rfl, rfl⟩ := hrel
    go_wp2
    go_ret
    exact ⟨rfl, rfl⟩
theorem heldHeldS_any (n : Nat) (a : Option Addr) (cap : Nat) (m : Int) (w : World) (hn : n ≤ 8796093022208) (hm1 : 0 ≤ m) (hm2 : m ≤ 8796093022208) (h : CellsAt w a n (mK m) (mK (m + 1))) :
    Calls Tryz.prog 120 #[.slice a n cap, .int .i64 m] w fun e w' => e = .returned (.int .i64 (m + n * 2)) ∧ w' = w := by
  rcases h with rfl | ⟨b, off, rfl, _, hk, hv⟩
  · refine (heldHeldS_zero a cap m w hm1 hm2).mono ?_
    rintro e w' ⟨rfl, rfl⟩
    exact ⟨ret_int (by omega), rfl⟩
  · exact heldHeldS_some n b off cap m w hn hm1 hm2 hk hv
theorem szHeldS_x (n : Nat) (a : Option Addr) (cap : Nat) (x : Int) (w : World) (hn : n ≤ 9223372036854775807) (h0 : 0 ≤ x) (h1 : x ≤ 1048576) :
    Calls Tryz.prog 28 #[.slice a n cap, .int .i64 x] w fun e w' => e = .returned (.int .i64 (if x - n < 0 then -1 else x - n)) ∧ w' = w := by
  by_cases h : x - (n : Int) < 0
  · go_enter Tryz.func28, Tryz.ntmps28
    go_wp2
    go_ret
    exact ⟨rfl, rfl⟩
  · go_enter Tryz.func28, Tryz.ntmps28
    go_wp2
    go_ret
    exact ⟨rfl, rfl⟩
theorem szHeldS_r (n : Nat) (a : Option Addr) (cap : Nat) (x : Int) (w : World) (hn : n ≤ 9223372036854775807) (h0 : 0 ≤ x) (h1 : x ≤ 1048576) :
    Calls Tryz.prog 28 #[.slice a n cap, .int .i64 x] w fun e w' => Below w.heap.size w w' ∧ ∃ r : Int, e = .returned (.int .i64 r) ∧ (r = -1 ∨ (0 ≤ r ∧ r = x - n)) := by
  refine (szHeldS_x n a cap x w hn h0 h1).mono ?_
  rintro e w' ⟨rfl, rfl⟩
  refine ⟨Below.refl _ _, _, rfl, ?_⟩
  by_cases h : x - (n : Int) < 0
  · exact .inl (if_pos h)
  · exact .inr (by rw [if_neg h]; omega)
theorem toHeldS_own (n : Nat) (K V : Nat → Int) (a : Option Addr) (cap : Nat) (w : World) (hn : n ≤ 1048576) (h : CellsAt w a n K V) :
    Calls Tryz.prog 38 #[.slice a n cap] w fun e w' => ∃ b, e = .returned (.slice (some ⟨b, 0, none⟩) n n) ∧ Below w.heap.size w w' ∧ Own w' w.heap.size w'.heap.size (some ⟨b, 0, none⟩) n K V := by
  refine (toHeldS_any n K V a cap w (by omega) h).mono ?_
  rintro e w' ⟨rfl, hb, hr⟩
  exact ⟨_, rfl, hb, (ownH_of_row hr).wide (Nat.le_refl _) hr.lt (Nat.le_refl _)⟩
theorem cellsHeld : Tryz.prog.cellsOf 149 = 2 := by kernel_rfl
theorem openHeldS {H : Type} {enc : TypeId × Value → H} {W : World} {fuel : Nat} {cs : List Value} {x : DataW H × List MemPlace}
    (h : DataW.trod enc Tryz.prog W 0 (fun _ => true) true fuel 30 cs = some x) :
    ∃ (a : Option Addr) (n cap : Nat) (K V : Nat → Int), cs = [.slice a n cap] ∧ n ≤ cap ∧ n ≤ 9223372036854775807 ∧ CellsAt W a n K V := by
  rcases open_slice Tryz.underlying30 h with ⟨rfl, _⟩ | ⟨a, l, c, m, nn, D, Pl, rfl, _, hl, hm, hmm, _, hx⟩
  · exact ⟨none, 0, 0, fun _ => 0, fun _ => 0, rfl, Nat.le_refl _, by omega, .inl rfl⟩
  · have hmc : m = c := by simpa using hmm
    unfold maxLen at hm
    rw [cellsHeld] at hx
    have each : ∀ i, i < l → ∃ q : Int × Int, W.cell? (a.add (i * 2)) = some (.int .i64 q.1) ∧ W.cell? (a.add (i * 2 + 1)) = some (.int .i64 q.2) := fun i hi => by
      obtain ⟨cs', h1, h2⟩ := hx i (by omega)
      obtain ⟨_, hlen, hcell⟩ := World.cells?_some h1
      obtain ⟨xs, k, hk, hxy, _, hxl, hf⟩ := DataW.trod_struct Tryz.underlying149 h2
      match xs, hxl, cs', hlen with
      | [y0, y1], _, [v0, v1], _ =>
        have g0 := hf 0 _ rfl
        have g1 := hf 1 _ rfl
        simp [cellsI1] at g0 g1
        have e0 := hcell 0 (by omega)
        have e1 := hcell 1 (by omega)
        rw [add_add] at e0 e1
        obtain ⟨z0, f0, _, _⟩ := DataW.trod_int Tryz.underlying2 g0
        obtain ⟨z1, f1, _, _⟩ := DataW.trod_int Tryz.underlying2 g1
        simp at f0 f1
        subst f0 f1
        exact ⟨(z0, z1), by simpa using e0, by simpa using e1⟩
    obtain ⟨q, hq⟩ := choose_lt each
    refine ⟨some a, l, c, fun i => (q i).1, fun i => (q i).2, rfl, by omega, by omega, ?_⟩
    by_cases hz0 : l = 0
    · exact .inl hz0
    · obtain ⟨b, off, spot⟩ := a
      have hc0 := (hq 0 (by omega)).1
      have hspot : spot = none := by simpa [Addr.add] using World.cell?_spot hc0
      subst hspot
      refine .inr ⟨b, off, rfl, Go.block_lt_of_cell hc0, fun i hi => ?_, fun i hi => ?_⟩
      · have k0 := (hq i hi).1
        rw [add_plain] at k0
        exact k0
      · have k1 := (hq i hi).2
        rw [add_plain] at k1
        rw [Nat.add_assoc]; exact k1
set_option maxHeartbeats 2000000 in
theorem specFault_some (id lsn : Int) (n : Nat) (K V : Nat → Int) (b off cap : Nat) (w : World) (hn : n ≤ 12) (hbl : b < w.heap.size)
    (hk : ∀ i, i < n → w.cell? ⟨b, off + i * 2, none⟩ = some (.int .i64 (K i))) (hv : ∀ i, i < n → w.cell? ⟨b, off + i * 2 + 1, none⟩ = some (.int .i64 (V i)))
    (hi1 : inB id 0 7 = true) (hi2 : inB lsn 0 1000000 = true) :
    Calls Tryz.prog 160 #[.agg #[.int .i64 id, .int .i64 lsn, .slice (some ⟨b, off, none⟩) n cap]] w fun e w' => e = .returned (.int .i64 (cff K V n 0)) ∧ Below w.heap.size w w' := by
  have hk2 : ∀ (o : Obj) (i : Nat), i < n → (w.alloc o).cell? ⟨b, off + i * 2, none⟩ = some (.int .i64 (K i)) := fun o i hi => cell_alloc (hk i hi) o
  have hv2 : ∀ (o : Obj) (i : Nat), i < n → (w.alloc o).cell? ⟨b, off + i * 2 + 1, none⟩ = some (.int .i64 (V i)) := fun o i hi => cell_alloc (hv i hi) o
  have HK : Hid (∀ (o : Obj) (i : Nat), i < n → (w.alloc o).cell? ⟨b, off + i * 2, none⟩ = some (.int .i64 (K i))) := hk2
  have HV : Hid (∀ (o : Obj) (i : Nat), i < n → (w.alloc o).cell? ⟨b, off + i * 2 + 1, none⟩ = some (.int .i64 (V i))) := hv2
  have hn' : ¬ (12 < n) := by omega
  clear hk hv hk2 hv2
  go_enter Tryz.func160, Tryz.ntmps160
  go_wp2_with (first | (go_at_call 68; refine (l1Key_any _ _).mono ?_; rintro e w' ⟨rfl, rfl⟩) | (go_at_call 69; refine (l1Value_any _ _).mono ?_; rintro e w' ⟨rfl, rfl⟩) | (go_at_call 61; refine (l1In_any _ _ _ _).mono ?_; rintro e w' ⟨rfl, rfl⟩) | (go_at_call 194; refine (l1Lsn_any _ _).mono ?_; rintro e w' ⟨rfl, rfl⟩))
  go_loopw [3] (fun i wr => ∃ k : Nat, k ≤ n ∧ i = .int .i64 k ∧ Hid (cff K V n 0 = cff K V (n - k) k) ∧ ∃ m, wr = (w.alloc (.cells #[.int .i64 id, .int .i64 lsn, .slice (some ⟨b, off, none⟩) n cap] 105)).drewN m) (fun i _ => n - (intOf i).toNat)
  case atStart => exact ⟨0, Nat.zero_le _, rfl, rfl, 0, rfl⟩
  case round =>
    obtain ⟨k, hk0, rfl, HC, m, rfl⟩ := hrel
    by_cases hlt : k < n
    · have h1 := fun o => HK.out o k hlt
      have h2 := fun o => HV.out o k hlt
      have hlt' : (k : Int) < (n : Int) := by omega
      have HA : Hid (cff K V n 0 = _) := HC.out.trans (cff_at hlt)
      clear HC
      by_cases hc1 : inB (K k) 0 31 = true
      · by_cases hc2 : inB (V k) 0 9999 = true
        · rcases Nat.eq_zero_or_pos k with hk9 | hpos
          · have hd : decide (0 < k) = false := by simp; omega
            have HC : Hid (cff K V n 0 = cff K V (n - (k + 1)) (k + 1)) := by
              refine HA.out.trans ?_
              rw [if_neg (by simp [hc1, hc2]), if_neg (by omega)]
            clear HA hk9
            go_wp2_with (first | (go_at_call 68; refine (l1Key_any _ _).mono ?_; rintro e w' ⟨rfl, rfl⟩) | (go_at_call 69; refine (l1Value_any _ _).mono ?_; rintro e w' ⟨rfl, rfl⟩) | (go_at_call 61; refine (l1In_any _ _ _ _).mono ?_; rintro e w' ⟨rfl, rfl⟩) | (go_at_call 194; refine (l1Lsn_any _ _).mono ?_; rintro e w' ⟨rfl, rfl⟩))
            go_quiet (fail)
            go_wp2
            go_roundw
            case rel => exact ⟨k + 1, hlt, by go_num, HC, _, rfl⟩
            case measure => simp [intOf]; omega
          · obtain ⟨j, rfl⟩ : ∃ j, k = j + 1 := ⟨k - 1, by omega⟩
            have h3 := fun o => HK.out o j (by omega)
            have hj1 : (j : Int) < (n : Int) := by omega
            have hj2 : j < n := by omega
            have hwj : IntKind.i64.wrap (j : Int) = (j : Int) := by rw [IntKind.wrap_i64]; omega
            by_cases hc3 : K (j + 1) ≤ K j
            · have HC : Hid (cff K V n 0 = 1) := by
                refine HA.out.trans ?_
                rw [if_neg (by simp [hc1, hc2]), if_pos ⟨by omega, by simpa using hc3⟩]
              clear HA
              go_wp2_with (first | (go_at_call 68; refine (l1Key_any _ _).mono ?_; rintro e w' ⟨rfl, rfl⟩) | (go_at_call 69; refine (l1Value_any _ _).mono ?_; rintro e w' ⟨rfl, rfl⟩) | (go_at_call 61; refine (l1In_any _ _ _ _).mono ?_; rintro e w' ⟨rfl, rfl⟩) | (go_at_call 194; refine (l1Lsn_any _ _).mono ?_; rintro e w' ⟨rfl, rfl⟩))
              go_quiet (fail)
              go_wp2
              go_ret
              exact ⟨ret_int HC.out.symm, by repeat (first | exact below_new _ _ | refine below_drewN ?_ _)⟩
            · have HC : Hid (cff K V n 0 = cff K V (n - (j + 1 + 1)) (j + 1 + 1)) := by
                refine HA.out.trans ?_
                rw [if_neg (by simp [hc1, hc2]), if_neg (by simp; omega)]
              have hc4 : decide (K (j + 1) ≤ K j) = false := by simp; omega
              clear HA
              go_wp2_with (first | (go_at_call 68; refine (l1Key_any _ _).mono ?_; rintro e w' ⟨rfl, rfl⟩) | (go_at_call 69; refine (l1Value_any _ _).mono ?_; rintro e w' ⟨rfl, rfl⟩) | (go_at_call 61; refine (l1In_any _ _ _ _).mono ?_; rintro e w' ⟨rfl, rfl⟩) | (go_at_call 194; refine (l1Lsn_any _ _).mono ?_; rintro e w' ⟨rfl, rfl⟩))
              go_quiet (fail)
              go_wp2
              go_roundw
              case rel => exact ⟨j + 1 + 1, hlt, by go_num, HC, _, rfl⟩
              case measure => simp [intOf]; omega
        · have hc4 : inB (V k) 0 9999 = false := by simpa using hc2
          have HC : Hid (cff K V n 0 = 3) := by
            refine HA.out.trans ?_
            rw [if_pos (.inr hc4)]
          clear HA hc2
          go_wp2_with (first | (go_at_call 68; refine (l1Key_any _ _).mono ?_; rintro e w' ⟨rfl, rfl⟩) | (go_at_call 69; refine (l1Value_any _ _).mono ?_; rintro e w' ⟨rfl, rfl⟩) | (go_at_call 61; refine (l1In_any _ _ _ _).mono ?_; rintro e w' ⟨rfl, rfl⟩) | (go_at_call 194; refine (l1Lsn_any _ _).mono ?_; rintro e w' ⟨rfl, rfl⟩))
          go_ret
          exact ⟨ret_int HC.out.symm, by repeat (first | exact below_new _ _ | refine below_drewN ?_ _)⟩
      · have hc4 : inB (K k) 0 31 = false := by simpa using hc1
        have HC : Hid (cff K V n 0 = 3) := by
          refine HA.out.trans ?_
          rw [if_pos (.inl hc4)]
        clear HA hc1
        go_wp2_with (first | (go_at_call 68; refine (l1Key_any _ _).mono ?_; rintro e w' ⟨rfl, rfl⟩) | (go_at_call 69; refine (l1Value_any _ _).mono ?_; rintro e w' ⟨rfl, rfl⟩) | (go_at_call 61; refine (l1In_any _ _ _ _).mono ?_; rintro e w' ⟨rfl, rfl⟩) | (go_at_call 194; refine (l1Lsn_any _ _).mono ?_; rintro e w' ⟨rfl, rfl⟩))
        go_ret
        exact ⟨ret_int HC.out.symm, by repeat (first | exact below_new _ _ | refine below_drewN ?_ _)⟩
    · have HC2 : Hid (cff K V n 0 = 0) := by
        refine HC.out.trans ?_
        rw [show n - k = 0 by omega, cff]
      clear HC
      go_wp2
      go_ret
      exact ⟨ret_int HC2.out.symm, by repeat (first | exact below_new _ _ | refine below_drewN ?_ _)⟩
theorem specFault_zero (id lsn : Int) (K V : Nat → Int) (a : Option Addr) (cap : Nat) (w : World) (hi1 : inB id 0 7 = true) (hi2 : inB lsn 0 1000000 = true) :
    Calls Tryz.prog 160 #[.agg #[.int .i64 id, .int .i64 lsn, .slice a 0 cap]] w fun e w' => e = .returned (.int .i64 (cff K V 0 0)) ∧ Below w.heap.size w w' := by
  go_enter Tryz.func160, Tryz.ntmps160
  go_wp2_with (first | (go_at_call 68; refine (l1Key_any _ _).mono ?_; rintro e w' ⟨rfl, rfl⟩) | (go_at_call 69; refine (l1Value_any _ _).mono ?_; rintro e w' ⟨rfl, rfl⟩) | (go_at_call 61; refine (l1In_any _ _ _ _).mono ?_; rintro e w' ⟨rfl, rfl⟩) | (go_at_call 194; refine (l1Lsn_any _ _).mono ?_; rintro e w' ⟨rfl, rfl⟩))
  go_loop [3] (fun i => i = .int .i64 0) (fun _ => 0)
  case atStart => exact rfl
  case round =>
    obtain rfl := hrel
    go_wp2
    go_ret
    exact ⟨rfl, below_new _ _⟩
theorem specFault_any (id lsn : Int) (n : Nat) (K V : Nat → Int) (a : Option Addr) (cap : Nat) (w : World) (hn : n ≤ 140737488355328) (h : CellsAt w a n K V) :
    Calls Tryz.prog 160 #[.agg #[.int .i64 id, .int .i64 lsn, .slice a n cap]] w fun e w' => e = .returned (.int .i64 (pf id lsn n K V)) ∧ Below w.heap.size w w' := by
  unfold pf
  by_cases h1 : inB id 0 7 = true
  · by_cases h2 : inB lsn 0 1000000 = true
    · rw [if_neg (by simp [h1, h2])]
      by_cases h3 : 12 < n
      · rw [if_pos h3]
        clear h
        go_enter Tryz.func160, Tryz.ntmps160
        go_wp2_with (first | (go_at_call 68; refine (l1Key_any _ _).mono ?_; rintro e w' ⟨rfl, rfl⟩) | (go_at_call 69; refine (l1Value_any _ _).mono ?_; rintro e w' ⟨rfl, rfl⟩) | (go_at_call 61; refine (l1In_any _ _ _ _).mono ?_; rintro e w' ⟨rfl, rfl⟩) | (go_at_call 194; refine (l1Lsn_any _ _).mono ?_; rintro e w' ⟨rfl, rfl⟩))
        go_ret
        exact ⟨rfl, below_new _ _⟩
      · rw [if_neg h3]
        rcases h with rfl | ⟨b, off, rfl, hbl, hk, hv⟩
        · exact specFault_zero id lsn K V a cap w h1 h2
        · exact specFault_some id lsn n K V b off cap w (by omega) hbl hk hv h1 h2
    · rw [if_pos (.inr (by simpa using h2))]
      have h4 : inB lsn 0 1000000 = false := by simpa using h2
      clear h2 h
      go_enter Tryz.func160, Tryz.ntmps160
      go_wp2_with (first | (go_at_call 68; refine (l1Key_any _ _).mono ?_; rintro e w' ⟨rfl, rfl⟩) | (go_at_call 69; refine (l1Value_any _ _).mono ?_; rintro e w' ⟨rfl, rfl⟩) | (go_at_call 61; refine (l1In_any _ _ _ _).mono ?_; rintro e w' ⟨rfl, rfl⟩) | (go_at_call 194; refine (l1Lsn_any _ _).mono ?_; rintro e w' ⟨rfl, rfl⟩))
      go_ret
      exact ⟨rfl, below_new _ _⟩
  · rw [if_pos (.inl (by simpa using h1))]
    have h4 : inB id 0 7 = false := by simpa using h1
    clear h1 h
    go_enter Tryz.func160, Tryz.ntmps160
    go_wp2_with (first | (go_at_call 68; refine (l1Key_any _ _).mono ?_; rintro e w' ⟨rfl, rfl⟩) | (go_at_call 69; refine (l1Value_any _ _).mono ?_; rintro e w' ⟨rfl, rfl⟩) | (go_at_call 61; refine (l1In_any _ _ _ _).mono ?_; rintro e w' ⟨rfl, rfl⟩) | (go_at_call 194; refine (l1Lsn_any _ _).mono ?_; rintro e w' ⟨rfl, rfl⟩))
    go_ret
    exact ⟨rfl, below_new _ _⟩
def plc (K : Nat → Int) (key : Int) : Nat → Nat → Nat
  | 0, i => i
  | m + 1, i => if K i < key then plc K key m (i + 1) else i
/-- The place of a key among n cells. -/
def pl (K : Nat → Int) (key : Int) (n : Nat) : Nat := plc K key n 0
def has (K : Nat → Int) (key : Int) (n : Nat) : Bool := decide (pl K key n < n) && decide (K (pl K key n) = key)
def Rising (K : Nat → Int) (n : Nat) : Prop := ∀ i j, i < j → j < n → K i < K j
/-- A page without a fault: its cells rise. -/
theorem cff_zero {K V : Nat → Int} : ∀ m i, cff K V m i = 0 → ∀ j, i ≤ j → j < i + m → (inB (K j) 0 31 = true ∧ inB (V j) 0 9999 = true ∧ (0 < j → K (j - 1) < K j))
  | 0, i, _ => fun j _ _ => by omega
  | m + 1, i, h => fun j h1 h2 => by
    rw [cff] at h
    by_cases c1 : inB (K i) 0 31 = false ∨ inB (V i) 0 9999 = false
    · rw [if_pos c1] at h; omega
    · rw [if_neg c1] at h
      by_cases c2 : 0 < i ∧ K i ≤ K (i - 1)
      · rw [if_pos c2] at h; omega
      · rw [if_neg c2] at h
        by_cases e : j = i
        · subst e
          refine ⟨?_, ?_, fun h0 => by omega⟩
          · cases hh : inB (K j) 0 31 with
            | true => rfl
            | false => exact absurd (.inl hh) c1
          · cases hh : inB (V j) 0 9999 with
            | true => rfl
            | false => exact absurd (.inr hh) c1
        · exact cff_zero m (i + 1) h j (by omega) (by omega)
structure GoodP (idn lsn : Int) (n : Nat) (K V : Nat → Int) : Prop where
  gid : inB idn 0 7 = true
  glsn : inB lsn 0 1000000 = true
  gn : n ≤ 12
  gkey : ∀ i, i < n → 0 ≤ K i ∧ K i ≤ 31
  gval : ∀ i, i < n → 0 ≤ V i ∧ V i ≤ 9999
  grise : Rising K n
theorem good_of {idn lsn : Int} {n : Nat} {K V : Nat → Int} (h : pf idn lsn n K V = 0) : GoodP idn lsn n K V := by
  unfold pf at h
  by_cases c1 : inB idn 0 7 = false ∨ inB lsn 0 1000000 = false
  · rw [if_pos c1] at h; omega
  · rw [if_neg c1] at h
    by_cases c2 : 12 < n
    · rw [if_pos c2] at h; omega
    · rw [if_neg c2] at h
      have hz := cff_zero n 0 h
      have hstep : ∀ i, i + 1 < n → K i < K (i + 1) := fun i hi => by
        have := (hz (i + 1) (Nat.zero_le _) (by omega)).2.2 (by omega)
        simpa using this
      refine ⟨?_, ?_, by omega, fun i hi => inB_iff.1 (hz i (Nat.zero_le _) (by omega)).1, fun i hi => inB_iff.1 (hz i (Nat.zero_le _) (by omega)).2.1, ?_⟩
      · cases hh : inB idn 0 7 with
        | true => rfl
        | false => exact absurd (.inl hh) c1
      · cases hh : inB lsn 0 1000000 with
        | true => rfl
        | false => exact absurd (.inr hh) c1
      · intro i j hij
        induction j with
        | zero => omega
        | succ j ih =>
          intro hj
          by_cases e : i = j
          · subst e; exact hstep i hj
          · have h1 := ih (by omega) (by omega)
            have h2 := hstep j hj
            omega

/-! ### the walks -/
def bl (zs : List Int) : List Value := zs.map (Value.int .u8)
theorem bl_len (zs : List Int) : (bl zs).length = zs.length := by simp [bl]
theorem bl_app (zs ys : List Int) : bl (zs ++ ys) = bl zs ++ bl ys := by simp [bl]
theorem bl_one (zs : List Int) : ∀ u ∈ bl zs, u.oneCell' = true := by
  intro u hu
  obtain ⟨z, _, rfl⟩ := List.mem_map.1 hu
  rfl
/-- The byte of a number at a place. -/
def byt (x : Int) (k : Nat) : Int := x / 2 ^ (8 * k) % 256
theorem byt_bd (x : Int) (k : Nat) : 0 ≤ byt x k ∧ byt x k ≤ 255 := by unfold byt; omega
/-- A number in so many bytes, the highest first. -/
def nb (x : Int) : Nat → List Int
  | 0 => []
  | s + 1 => byt x s :: nb x s
theorem nb_len (x : Int) : ∀ s, (nb x s).length = s
  | 0 => rfl
  | s + 1 => by simp [nb, nb_len x s]
/-- One byte appended. -/
theorem app_byte {w wr w1 : World} {B : Nat} {v v' : Value} {T : List Int} {z : Int} {c : Array Value} {t : TypeId} (hb : Below B w wr) (hB : B ≤ wr.heap.size) (hown : wr.ownsRow B 5 1 v T.length (bl T))
    (h1 : w1.ownsRow B 5 1 v' (T.length + 1) (bl T ++ [.int .u8 z])) (hg : (wr.alloc (.cells c t)).grownBy w1 v.ownBlock) :
    w1.ownsRow B 5 1 v' (T ++ [z]).length (bl (T ++ [z])) ∧ Below B w w1 := by
  refine ⟨?_, (hb.alloc hB _).grown hg (by simp; omega) fun q hq => (hown.lt q hq).1⟩
  rw [bl_app, List.length_append]
  exact h1
set_option maxHeartbeats 1000000 in
theorem l1Bytes_any (x : Int) (size : Nat) (w : World) (hs : size ≤ 4) (hx : 0 ≤ x) (hx2 : x ≤ 1000000) :
    Calls Tryz.prog 131 #[.int .i64 x, .int .i64 size] w fun e w' => ∃ v, e = .returned v ∧ Below w.heap.size w w' ∧ w'.ownsRow w.heap.size 5 1 v (nb x size).length (bl (nb x size)) ∧ v ≠ .slice none 0 0 := by
  obtain ⟨i0, hi, hz0, hz1, hz2⟩ := info_parts info5
  have HI : Hid (Tryz.prog.info? 5 = some i0 ∧ i0.zero = some (.int .u8 0) ∧ i0.size = 1 ∧ i0.bytes = 1) := ⟨hi, hz0, hz1, hz2⟩
  clear hi hz0 hz1 hz2
  go_enter Tryz.func131, Tryz.ntmps131
  go_wp2
  go_loopw [5, 6] (fun v i wr => ∃ j : Nat, j ≤ size ∧ i = .int .i64 ((j : Int) - 1) ∧ Below w.heap.size w wr ∧ Hid (v ≠ .slice none 0 0) ∧ ∃ T, Hid (T ++ nb x j = nb x size) ∧ wr.ownsRow w.heap.size 5 1 v T.length (bl T)) (fun _ i _ => (intOf i + 1).toNat)
  case atStart => exact ⟨size, Nat.le_refl _, by go_num, below_new _ _, by simp [Hid], [], rfl, World.ownsRow_lit w #[] 0 (Nat.le_refl _) (Nat.zero_le _) rfl⟩
  case round =>
    obtain ⟨j, hj, rfl, hb, HNE, T, HT, hown⟩ := hrel
    have HO : Hid (wr.ownsRow w.heap.size 5 1 u5 T.length (bl T)) := hown
    have HB : Hid (Below w.heap.size w wr) := hb
    have HS : Hid (w.heap.size ≤ wr.heap.size) := hb.size
    have HTL : Hid (T.length + j = size) := by have := congrArg List.length HT.out; rw [List.length_append, nb_len, nb_len] at this; exact this
    clear hown hb
    rcases Nat.eq_zero_or_pos j with rfl | hp
    · go_wp2
      go_ret
      refine ⟨_, rfl, HB.out, ?_, HNE.out⟩
      have := HT.out
      rw [nb, List.append_nil] at this
      rw [← this]
      exact HO.out
    · obtain ⟨k, rfl⟩ : ∃ k, j = k + 1 := ⟨j - 1, by omega⟩
      have hk : (k : Int) ≤ 3 := by omega
      go_wp2_with (at_builtin; refine wpList_append_own _ rfl _ _ 27 rfl w.heap.size 5 i0 (.int .u8 0) 1 1 Tryz.underlying27 HI.out.1 HI.out.2.1 HI.out.2.2.1 HI.out.2.2.2 rfl (by decide) _ _ _ rfl (HO.out.alloc _) ⟨wr.heap.size, 0, none⟩ 1 1 [.int .u8 (x / 2 ^ (8 * k) % 256)] rfl rfl (cell_one_new _ _ _) ?c2 ?c3 ?c4 ?c5 ?_)
      case c2 => intro u hu; simp at hu; subst hu; rfl
      case c3 => have := HTL.out; unfold maxLen; omega
      case c4 => have := HTL.out; omega
      case c5 => have := HS.out; simp; omega
      intro v' w1 ho1 hg1 hne1
      have HR : Hid _ := app_byte HB.out HS.out HO.out ho1 hg1
      have HNE1 : Hid (v' ≠ .slice none 0 0) := hne1
      clear ho1 hg1 hne1
      go_wp2
      go_roundw
      case rel => exact ⟨k, by omega, by go_num, HR.out.2, HNE1, T ++ [byt x k], by show T ++ [byt x k] ++ nb x k = nb x size; rw [← HT.out]; simp [nb], HR.out.1⟩
      case measure => simp [intOf]
end Go.Proofs.YtannmobmmnoegaaGreat
