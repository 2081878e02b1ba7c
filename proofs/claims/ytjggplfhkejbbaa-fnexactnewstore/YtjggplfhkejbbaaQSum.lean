/- Numbers read from bytes: the walks of impl.readNumber and spec.l1Take. -/
import Derived.Test.YtjggplfhkejbbaaQBase
import Derived.Test.YtjggplfhkejbbaaQByt
import Derived.Deep.RegionLaw
import Derived.Test.YtjggplfhkejbbaaQCel
import Derived.Laws.BitsLemmas
import Derived.Laws.BytesArg
namespace Go.Proofs.Ytjggplfhkejbbaa
open Go.RowKit Go.Deep
set_option linter.unusedVariables false
set_option maxRecDepth 20000

/-! ### spec.SumBytes -/
set_option maxHeartbeats 400000 in
theorem specSum_some (n : Nat) (z : Nat → Int) (b off cap : Nat) (w : World) (hn : n ≤ 140737488355328) (hz : Byt n z) (hc : ∀ i, i < n → w.cell? ⟨b, off + i, none⟩ = some (.int .u8 (z i))) :
    Calls Try.prog 121 #[.slice (some ⟨b, off, none⟩) n cap] w fun e w' => e = .returned (.int .i64 (sumB z n)) ∧ w' = w := by
  go_enter Try.func121, Try.ntmps121
  go_wp2
  go_loop [3, 4] (fun h i => ∃ k : Nat, k ≤ n ∧ i = .int .i64 k ∧ h = .int .i64 (sumB z k)) (fun _ i => n - (intOf i).toNat)
  case atStart => exact ⟨0, Nat.zero_le _, rfl, rfl⟩
  case round =>
    obtain ⟨k, hk, rfl, rfl⟩ := hrel
    have hbd := sumB_bd z k
    obtain ⟨hb1, hb2⟩ := hbd
    by_cases hlt : k < n
    · have hcell := hc k hlt
      obtain ⟨hz1, hz2⟩ := hz k hlt
      have HS : Hid (sumB z (k + 1) = (sumB z k * 269 + z k + 1) % 65521) := rfl
      clear hc hz
      go_wp2
      go_round
      case rel => exact ⟨k + 1, hlt, by go_num, by rw [HS.out]⟩
      case measure => simp [intOf]; omega
    · have hkn : k = n := by omega
      clear hc hz
      go_wp2
      go_ret
      exact ⟨rfl, rfl⟩
theorem specSum_zero (z : Nat → Int) (a : Option Addr) (cap : Nat) (w : World) :
    Calls Try.prog 121 #[.slice a 0 cap] w fun e w' => e = .returned (.int .i64 (sumB z 0)) ∧ w' = w := by
  go_enter Try.func121, Try.ntmps121
  go_wp2
  go_loop [3, 4] (fun h i => i = .int .i64 0 ∧ h = .int .i64 9) (fun _ _ => 0)
  case atStart => exact ⟨rfl, rfl⟩
  case round =>
    obtain ⟨rfl, rfl⟩ := hrel
    go_wp2
    go_ret
    exact ⟨rfl, rfl⟩
theorem specSum_any (n : Nat) (z : Nat → Int) (a : Option Addr) (cap : Nat) (w : World) (hn : n ≤ 140737488355328) (hz : Byt n z) (h : BytesAt w a n z) :
    Calls Try.prog 121 #[.slice a n cap] w fun e w' => e = .returned (.int .i64 (sumB z n)) ∧ w' = w := by
  rcases h with rfl | ⟨b, off, rfl, _, hc⟩
  · exact specSum_zero z a cap w
  · exact specSum_some n z b off cap w hn hz hc

/-! ### impl.SumBytes -/
set_option maxHeartbeats 400000 in
theorem implSum_some (n : Nat) (z : Nat → Int) (b off cap : Nat) (w : World) (hn : n ≤ 140737488355328) (hz : Byt n z) (hc : ∀ i, i < n → w.cell? ⟨b, off + i, none⟩ = some (.int .u8 (z i))) :
    Calls Try.prog 128 #[.slice (some ⟨b, off, none⟩) n cap] w fun e w' => e = .returned (.int .i64 (sumB z n)) ∧ w' = w := by
  go_enter Try.func128, Try.ntmps128
  go_wp2
  go_loop [3, 5, 8] (fun h _ i => ∃ k : Nat, k ≤ n ∧ i = .int .i64 k ∧ h = .int .i64 (sumB z k)) (fun _ _ i => n - (intOf i).toNat)
  case atStart => exact ⟨0, Nat.zero_le _, rfl, rfl⟩
  case round =>
    obtain ⟨k, hk, rfl, rfl⟩ := hrel
    have hbd := sumB_bd z k
    obtain ⟨hb1, hb2⟩ := hbd
    by_cases hlt : k < n
    · have hcell := hc k hlt
      obtain ⟨hz1, hz2⟩ := hz k hlt
      have HS : Hid (sumB z (k + 1) = (sumB z k * 269 + z k + 1) % 65521) := rfl
      clear hc hz
      go_wp2
      go_round
      case rel => exact ⟨k + 1, hlt, by go_num, by rw [HS.out]⟩
      case measure => simp [intOf]; omega
    · have hkn : k = n := by omega
      clear hc hz
      go_wp2
      go_ret
      exact ⟨rfl, rfl⟩
theorem implSum_zero (z : Nat → Int) (a : Option Addr) (cap : Nat) (w : World) :
    Calls Try.prog 128 #[.slice a 0 cap] w fun e w' => e = .returned (.int .i64 (sumB z 0)) ∧ w' = w := by
  go_enter Try.func128, Try.ntmps128
  go_wp2
  go_loop [3, 5, 8] (fun h _ i => i = .int .i64 0 ∧ h = .int .i64 9) (fun _ _ _ => 0)
  case atStart => exact ⟨rfl, rfl⟩
  case round =>
    obtain ⟨rfl, rfl⟩ := hrel
    go_wp2
    go_ret
    exact ⟨rfl, rfl⟩
theorem implSum_any (n : Nat) (z : Nat → Int) (a : Option Addr) (cap : Nat) (w : World) (hn : n ≤ 140737488355328) (hz : Byt n z) (h : BytesAt w a n z) :
    Calls Try.prog 128 #[.slice a n cap] w fun e w' => e = .returned (.int .i64 (sumB z n)) ∧ w' = w := by
  rcases h with rfl | ⟨b, off, rfl, _, hc⟩
  · exact implSum_zero z a cap w
  · exact implSum_some n z b off cap w hn hz hc

/-! ### laws.toByteS -/
set_option maxHeartbeats 400000 in
theorem toByteS_some (n : Nat) (z : Nat → Int) (b off cap : Nat) (w : World) (hn : n ≤ 140737488355328) (hbl : b < w.heap.size) (hc : ∀ i, i < n → w.cell? ⟨b, off + i, none⟩ = some (.int .u8 (z i))) :
    Calls Try.prog 55 #[.slice (some ⟨b, off, none⟩) n cap] w fun e w' =>
      e = .returned (.slice (some ⟨w.heap.size, 0, none⟩) n n) ∧ Below w.heap.size w w' ∧ w'.rowIs w.heap.size 5 n (fun i => .int .u8 (z i)) := by
  have hmk := run_make_row' (P := Try.prog) 27 5 (.int .u8 0) 1 Try.underlying27 info5 rfl .i64 .i64 n (by omega) (by omega)
  go_enter Try.func55, Try.ntmps55
  go_wp2
  go_loopw [4] (fun i wr => ∃ k : Nat, k ≤ n ∧ i = .int .i64 k ∧ Below w.heap.size w wr ∧ wr.rowIs w.heap.size 5 n (fun j => if j < k then .int .u8 (z j) else .int .u8 0)) (fun i _ => n - (intOf i).toNat)
  case atStart => exact ⟨0, Nat.zero_le _, rfl, (Below.refl _ _).alloc (Nat.le_refl _) _, (World.rowIs_made w _ n 5).congr (fun i _ => by simp)⟩
  case round =>
    obtain ⟨k, hk, rfl, hb, hrow⟩ := hrel
    by_cases hlt : k < n
    · have hcell : wr.cell? ⟨b, off + k, none⟩ = some (.int .u8 (z k)) := (hb.cell (p := ⟨b, off + k, none⟩) hbl).trans (hc k hlt)
      obtain ⟨v3, hv3⟩ : ∃ v, wr.cell? ⟨w.heap.size, k, none⟩ = some v := ⟨_, hrow.cell hlt⟩
      have hfz := hrow.frozen k
      clear hc hmk
      have HR : Hid (wr.rowIs w.heap.size 5 n (fun j => if j < k then .int .u8 (z j) else .int .u8 0)) := hrow
      have HB : Hid (Below w.heap.size w wr) := hb
      clear hrow hb
      go_wp2
      go_roundw
      case rel => exact ⟨k + 1, hlt, by go_num, HB.out.setCell (Nat.le_refl _) _, (HR.out.set k _).congr (fun i hi => by by_cases e : i = k <;> by_cases e2 : i < k <;> simp [e, e2] <;> omega)⟩
      case measure => simp [intOf]; omega
    · have hkn : k = n := by omega
      have HR : Hid (wr.rowIs w.heap.size 5 n (fun j => .int .u8 (z j))) := hrow.congr (fun i hi => by simp; omega)
      clear hc hmk hrow
      go_wp2
      go_ret
      exact ⟨rfl, hb, HR.out⟩
theorem toByteS_zero (z : Nat → Int) (a : Option Addr) (cap : Nat) (w : World) :
    Calls Try.prog 55 #[.slice a 0 cap] w fun e w' =>
      e = .returned (.slice (some ⟨w.heap.size, 0, none⟩) 0 0) ∧ Below w.heap.size w w' ∧ w'.rowIs w.heap.size 5 0 (fun i => .int .u8 (z i)) := by
  have hmk : ∀ w, (Instr.makeSlice 27 (.int .i64 0) (.int .i64 0)).run Try.prog w = .ok (.slice (some ⟨w.heap.size, 0, none⟩) 0 0) (w.alloc (.cells #[] 5)) := fun w => by
    have h := run_make_row' (P := Try.prog) 27 5 (.int .u8 0) 1 Try.underlying27 info5 rfl .i64 .i64 0 (by omega) (by omega) w
    rw [made_none] at h
    exact h
  go_enter Try.func55, Try.ntmps55
  go_wp2
  go_loop [4] (fun i => i = .int .i64 0) (fun _ => 0)
  case atStart => exact rfl
  case round =>
    obtain rfl := hrel
    go_wp2
    go_ret
    exact ⟨rfl, (Below.refl _ _).alloc (Nat.le_refl _) _, World.rowIs_alloc w #[] 5 _ (fun i hi => by simp at hi)⟩
theorem toByteS_any (n : Nat) (z : Nat → Int) (a : Option Addr) (cap : Nat) (w : World) (hn : n ≤ 140737488355328) (h : BytesAt w a n z) :
    Calls Try.prog 55 #[.slice a n cap] w fun e w' =>
      e = .returned (.slice (some ⟨w.heap.size, 0, none⟩) n n) ∧ Below w.heap.size w w' ∧ w'.rowIs w.heap.size 5 n (fun i => .int .u8 (z i)) := by
  rcases h with rfl | ⟨b, off, rfl, hbl, hc⟩
  · exact toByteS_zero z a cap w
  · exact toByteS_some n z b off cap w hn hbl hc

/-! ### laws.eqByteS: two rows of the same bytes -/
set_option maxHeartbeats 400000 in
theorem eqByteS_same (n : Nat) (z : Nat → Int) (b off cap b' off' cap' : Nat) (w : World) (hn : n ≤ 140737488355328) (hc : ∀ i, i < n → w.cell? ⟨b, off + i, none⟩ = some (.int .u8 (z i))) (hc' : ∀ i, i < n → w.cell? ⟨b', off' + i, none⟩ = some (.int .u8 (z i))) :
    Calls Try.prog 67 #[.slice (some ⟨b, off, none⟩) n cap, .slice (some ⟨b', off', none⟩) n cap'] w fun e w' => e = .returned (.bool true) ∧ ∃ m, w' = w.drewN m := by
  go_enter Try.func67, Try.ntmps67
  go_wp2
  go_loopw [5] (fun i wr => ∃ k : Nat, k ≤ n ∧ i = .int .i64 k ∧ ∃ m, wr = w.drewN m) (fun i _ => n - (intOf i).toNat)
  case atStart => exact ⟨0, Nat.zero_le _, rfl, 0, rfl⟩
  case round =>
    obtain ⟨k, hk, rfl, m, rfl⟩ := hrel
    by_cases hlt : k < n
    · have hcell := hc k hlt
      have hcell' := hc' k hlt
      have hlt' : (k : Int) < (n : Int) := by omega
      clear hc hc'
      go_wp2
      go_quiet (fail)
      go_wp2
      go_roundw
      case rel => exact ⟨k + 1, hlt, by go_num, _, rfl⟩
      case measure => simp [intOf]; omega
    · have hkn : k = n := by omega
      clear hc hc'
      go_wp2
      go_ret
      exact ⟨rfl, _, rfl⟩
/-- The maker's cell holds a slice that owns the bytes zs. -/
def MK (w : World) (C base : Nat) (v : Value) (zs : List Int) : Prop := w.cell? ⟨C, 0, none⟩ = some v ∧ w.frozen? ⟨C, 0, none⟩ = false ∧ w.ownsRow base 5 1 v zs.length (bl zs)
/-- What was there is as it was, but for the maker's cell and its row. -/
structure Upd (C : Nat) (v : Value) (w w' : World) : Prop where
  os : w'.os = w.os
  tape : w'.tape = w.tape
  output : w'.output = w.output
  size : w.heap.size ≤ w'.heap.size
  block : ∀ k, k < w.heap.size → k ≠ C → v.ownBlock ≠ some k → w'.heap[k]? = w.heap[k]?
def Lies (w : World) (v v' : Value) : Prop := v'.ownBlock = v.ownBlock ∨ ∃ g, w.heap.size ≤ g ∧ v'.ownBlock = some g
theorem Upd.refl (C : Nat) (v : Value) (w : World) : Upd C v w w := ⟨rfl, rfl, rfl, Nat.le_refl _, fun _ _ _ _ => rfl⟩
theorem Upd.trans {C : Nat} {v v1 : Value} {w w1 w2 : World} (h : Upd C v w w1) (l : Lies w v v1) (k : Upd C v1 w1 w2) : Upd C v w w2 := by
  refine ⟨k.os.trans h.os, k.tape.trans h.tape, k.output.trans h.output, Nat.le_trans h.size k.size, fun i hi hC hv => ?_⟩
  refine (k.block i (Nat.lt_of_lt_of_le hi h.size) hC ?_).trans (h.block i hi hC hv)
  rcases l with l | ⟨g, hg, l⟩
  · rw [l]; exact hv
  · rw [l]; intro e; simp at e; omega
theorem Lies.trans {w w1 : World} {v v1 v2 : Value} (h : Lies w v v1) (hs : w.heap.size ≤ w1.heap.size) (k : Lies w1 v1 v2) : Lies w v v2 := by
  rcases k with k | ⟨g, hg, k⟩
  · rcases h with h | ⟨g, hg, h⟩
    · exact .inl (k.trans h)
    · exact .inr ⟨g, hg, k.trans h⟩
  · exact .inr ⟨g, by omega, k⟩
theorem slice_of_own {w : World} {base n : Nat} {v : Value} {xs : List Value} (h : w.ownsRow base 5 1 v n xs) : ∃ a cap, v = .slice a n cap ∧ n ≤ cap + 0 := by
  rcases h.2 with ⟨rfl, h0⟩ | ⟨g, cap, cur, rfl, _, _, hnc, _⟩
  · exact ⟨none, 0, by rw [h0], by omega⟩
  · exact ⟨_, cap, rfl, by omega⟩
/-- One byte appended through the maker's cell. -/
theorem mk_step {wr w1 : World} {C base g cap2 : Nat} {v : Value} {Z : List Int} {z : Int} {c : Array Value} (hC : C < base) (hB : base ≤ wr.heap.size) (hm : MK wr C base v Z)
    (h1 : w1.ownsRow base 5 1 (.slice (some ⟨g, 0, none⟩) (Z.length + 1) cap2) (Z.length + 1) (bl Z ++ [.int .u8 z])) (hg : (wr.alloc (.cells c 5)).drew.grownBy w1 v.ownBlock) (hat : v.ownBlock = some g ∨ g = wr.heap.size + 1) :
    MK (w1.setCell ⟨C, 0, none⟩ (.slice (some ⟨g, 0, none⟩) (Z.length + 1) cap2)) C base (.slice (some ⟨g, 0, none⟩) (Z.length + 1) cap2) (Z ++ [z]) ∧ Upd C v wr (w1.setCell ⟨C, 0, none⟩ (.slice (some ⟨g, 0, none⟩) (Z.length + 1) cap2)) ∧ Lies wr v (.slice (some ⟨g, 0, none⟩) (Z.length + 1) cap2) := by
  obtain ⟨m1, m2, m3⟩ := hm
  have hlt : C < (wr.alloc (.cells c 5)).drew.heap.size := by show C < (wr.alloc (.cells c 5)).heap.size; rw [World.size_alloc]; omega
  have hne : some C ≠ v.ownBlock := fun e => by have := (m3.lt C e.symm).1; omega
  have hblk : ∀ k, k < wr.heap.size → v.ownBlock ≠ some k → w1.heap[k]? = wr.heap[k]? := fun k hk hv => by
    rw [hg.block k (by show k < (wr.alloc (.cells c 5)).heap.size; rw [World.size_alloc]; omega) (fun e => hv e.symm)]
    exact Below.heap_alloc _ _ _ hk
  have hcell : w1.cell? ⟨C, 0, none⟩ = some v := (World.cell?_of_block (w := wr) (a := ⟨C, 0, none⟩) (hblk C (by omega) (fun e => hne e.symm))).trans m1
  have hfz : w1.frozen? ⟨C, 0, none⟩ = false := (World.frozen?_of_block (w := wr) (a := ⟨C, 0, none⟩) (hblk C (by omega) (fun e => hne e.symm))).trans m2
  have hsz : wr.heap.size ≤ w1.heap.size := by have := hg.size; simp at this; omega
  refine ⟨⟨?_, ?_, ?_⟩, ⟨?_, ?_, ?_, ?_, ?_⟩, ?_⟩
  · exact World.cell?_setCell_same _ _ _ hcell
  · show (w1.setCell ⟨C, 0, none⟩ _).frozen? ⟨C, 0, none⟩ = false
    rw [World.frozen?_setCell]; exact hfz
  · rw [List.length_append, bl_app]
    exact ownsRow_setCell_below (a := ⟨C, 0, none⟩) h1 hC _
  · exact hg.os
  · exact hg.tape
  · exact hg.output
  · show wr.heap.size ≤ (w1.setCell ⟨C, 0, none⟩ _).heap.size
    simpa [World.setCell] using hsz
  · intro k hk hkC hv
    show (w1.setCell ⟨C, 0, none⟩ _).heap[k]? = _
    rw [Below.heap_setCell _ _ _ _ hkC]
    exact hblk k hk hv
  · rcases hat with h | h
    · exact .inl h.symm
    · exact .inr ⟨g, by omega, rfl⟩
theorem cell_C {wr w1 : World} {C base : Nat} {v : Value} {Z : List Int} {c : Array Value} (hC : C < base) (hB : base ≤ wr.heap.size) (hm : MK wr C base v Z) (hg : (wr.alloc (.cells c 5)).drew.grownBy w1 v.ownBlock) :
    w1.cell? ⟨C, 0, none⟩ = some v ∧ w1.frozen? ⟨C, 0, none⟩ = false := by
  obtain ⟨m1, m2, m3⟩ := hm
  have hne : some C ≠ v.ownBlock := fun e => by have := (m3.lt C e.symm).1; omega
  have hblk : w1.heap[C]? = wr.heap[C]? := by
    rw [hg.block C (by show C < (wr.alloc (.cells c 5)).heap.size; rw [World.size_alloc]; omega) hne]
    exact Below.heap_alloc _ _ _ (by omega)
  exact ⟨(World.cell?_of_block (w := wr) (a := ⟨C, 0, none⟩) hblk).trans m1, (World.frozen?_of_block (w := wr) (a := ⟨C, 0, none⟩) hblk).trans m2⟩

theorem one_u8 (z : Int) : ∀ u ∈ [Value.int .u8 z], u.oneCell' = true := by intro u hu; simp at hu; subst hu; rfl
theorem le_max {n : Nat} (h : n ≤ 1004) : n + 1 ≤ maxLen := by unfold maxLen; omega
theorem le_by {n : Nat} (h : n ≤ 1004) : (n + 1) * 1 ≤ 140737488355328 := by omega
theorem le_al {w : World} {o : Obj} {b : Nat} (h : b ≤ w.heap.size) : b ≤ (w.alloc o).drew.heap.size := by show b ≤ (w.alloc o).heap.size; rw [World.size_alloc]; omega
set_option maxHeartbeats 2000000 in
theorem putNumber_any (C base : Nat) (x : Int) (width : Nat) (v : Value) (zs : List Int) (w : World) (hs : width ≤ 4) (hx : 0 ≤ x) (hx2 : x ≤ 1000000) (hz : zs.length ≤ 1000) (hC : C < base) (hB : base ≤ w.heap.size) (hm : MK w C base v zs) :
    Calls Try.prog 122 #[.pointer (some ⟨C, 0, none⟩), .int .i64 x, .int .i64 width] w fun e w' => e = .returned (.tuple #[]) ∧ ∃ v', MK w' C base v' (zs ++ nb x width) ∧ Upd C v w w' ∧ Lies w v v' := by
  obtain ⟨i0, hi, hz0, hz1, hz2⟩ := info_parts info5
  have HI : Hid (Try.prog.info? 5 = some i0 ∧ i0.zero = some (.int .u8 0) ∧ i0.size = 1 ∧ i0.bytes = 1) := ⟨hi, hz0, hz1, hz2⟩
  have HM0 : Hid (MK w C base v zs) := hm
  have HCB : Hid (C < base ∧ base ≤ w.heap.size) := ⟨hC, hB⟩
  have hwx : IntKind.u64.wrap x = x := by rw [IntKind.wrap_u64]; omega
  clear hi hz0 hz1 hz2 hm hC hB
  go_enter Try.func122, Try.ntmps122
  go_wp2
  go_loopw [7] (fun i wr => ∃ j : Nat, j ≤ width ∧ i = .int .i64 (8 * ((j : Int) - 1)) ∧ ∃ T v', Hid (T ++ nb x j = nb x width) ∧ Hid (MK wr C base v' (zs ++ T)) ∧ Hid (Upd C v w wr) ∧ Hid (Lies w v v')) (fun i _ => (intOf i + 8).toNat)
  case atStart => exact ⟨width, Nat.le_refl _, by go_num, [], v, rfl, by rw [List.append_nil]; exact HM0, Upd.refl _ _ _, .inl rfl⟩
  case round =>
    obtain ⟨j, hj, rfl, T, v', HT, HM, HU, HL⟩ := hrel
    rcases Nat.eq_zero_or_pos j with rfl | hp
    · go_wp2
      go_end0
      refine ⟨rfl, v', ?_, HU.out, HL.out⟩
      have h := HT.out
      rw [nb, List.append_nil] at h
      rw [← h]
      exact HM.out
    · obtain ⟨k, rfl⟩ : ∃ k, j = k + 1 := ⟨j - 1, by omega⟩
      have hk : (k : Int) ≤ 3 := by omega
      obtain ⟨a, cap, rfl, -⟩ := slice_of_own HM.out.2.2
      have hc0 := HM.out.1
      have hc1 : ∀ o : Obj, (wr.alloc o).cell? ⟨C, 0, none⟩ = some (.slice a (zs ++ T).length cap) := fun o => cell_alloc hc0 o
      have HTL : Hid (T.length + (k + 1) = width) := by have := congrArg List.length HT.out; rw [List.length_append, nb_len, nb_len] at this; exact this
      have HZL : Hid ((zs ++ T).length ≤ 1004) := by have := HTL.out; show (zs ++ T).length ≤ 1004; rw [List.length_append]; omega
      generalize hZ : zs ++ T = Z at *
      have HZ : Hid (zs ++ T = Z) := hZ
      clear hZ
      have HBW : Hid (base ≤ wr.heap.size) := Nat.le_trans HCB.out.2 HU.out.size
      go_wp2
      go_region_law ((refine step_append_lies (P := Try.prog) (wr.alloc (.cells #[.int .u8 (x / 2 ^ (8 * k) % 256)] 5)).drew rfl (.tmp 20) (.tmp 25) 140 rfl base 5 i0 (.int .u8 0) 1 1 Try.underlying140 HI.out.1 HI.out.2.1 HI.out.2.2.1 HI.out.2.2.2 rfl (by decide) (.slice a Z.length cap) Z.length (bl Z) rfl (HM.out.2.2.alloc _) ⟨wr.heap.size, 0, none⟩ 1 1 [.int .u8 (x / 2 ^ (8 * k) % 256)] rfl rfl (cell_one_new _ _ _) (one_u8 _) (by decide) (le_max HZL.out) (le_by HZL.out) (le_al HBW.out) (wr.heap.size + 1) (World.size_alloc _ _) ?_; intro g cap2 w1 hown1 hgrow hat hlt; obtain ⟨kc, kf⟩ := cell_C HCB.out.1 HBW.out HM.out hgrow))
      all_goals
        have HR : Hid _ := mk_step HCB.out.1 HBW.out HM.out hown1 hgrow hat
        go_wp2
        go_roundw
        case rel => exact ⟨k, by omega, by go_num, T ++ [byt x k], _, by show T ++ [byt x k] ++ nb x k = nb x width; rw [← HT.out]; simp [nb], by show MK _ C base _ (zs ++ (T ++ [byt x k])); rw [← List.append_assoc, HZ.out]; exact HR.out.1, HU.out.trans HL.out HR.out.2.1, HL.out.trans HU.out.size HR.out.2.2⟩
        case measure => simp [intOf]; omega
/-- One byte appended through the maker's cell, in a plain region. -/
theorem mk_step' {wr w1 : World} {C base g cap2 : Nat} {v : Value} {Z : List Int} {z : Int} {c : Array Value} (hC : C < base) (hB : base ≤ wr.heap.size) (hm : MK wr C base v Z)
    (h1 : w1.ownsRow base 5 1 (.slice (some ⟨g, 0, none⟩) (Z.length + 1) cap2) (Z.length + 1) (bl Z ++ [.int .u8 z])) (hg : (wr.alloc (.cells c 5)).grownBy w1 v.ownBlock) (hat : v.ownBlock = some g ∨ g = wr.heap.size + 1) :
    MK (w1.setCell ⟨C, 0, none⟩ (.slice (some ⟨g, 0, none⟩) (Z.length + 1) cap2)) C base (.slice (some ⟨g, 0, none⟩) (Z.length + 1) cap2) (Z ++ [z]) ∧ Upd C v wr (w1.setCell ⟨C, 0, none⟩ (.slice (some ⟨g, 0, none⟩) (Z.length + 1) cap2)) ∧ Lies wr v (.slice (some ⟨g, 0, none⟩) (Z.length + 1) cap2) :=
  mk_step (c := c) hC hB hm h1 ⟨hg.os, hg.tape, hg.output, hg.size, hg.block⟩ hat
theorem cell_C' {wr w1 : World} {C base : Nat} {v : Value} {Z : List Int} {c : Array Value} (hC : C < base) (hB : base ≤ wr.heap.size) (hm : MK wr C base v Z) (hg : (wr.alloc (.cells c 5)).grownBy w1 v.ownBlock) :
    w1.cell? ⟨C, 0, none⟩ = some v ∧ w1.frozen? ⟨C, 0, none⟩ = false :=
  cell_C (c := c) hC hB hm ⟨hg.os, hg.tape, hg.output, hg.size, hg.block⟩

set_option maxHeartbeats 2000000 in
theorem fillTo_any (C base : Nat) (v : Value) (zs : List Int) (w : World) (hz : zs.length ≤ 46) (hC : C < base) (hB : base ≤ w.heap.size) (hm : MK w C base v zs) :
    Calls Try.prog 123 #[.pointer (some ⟨C, 0, none⟩), .int .i64 46] w fun e w' => e = .returned (.tuple #[]) ∧ ∃ v', MK w' C base v' (zs ++ List.replicate (46 - zs.length) 0) ∧ Upd C v w w' ∧ Lies w v v' := by
  obtain ⟨i0, hi, hz0, hz1, hz2⟩ := info_parts info5
  have HI : Hid (Try.prog.info? 5 = some i0 ∧ i0.zero = some (.int .u8 0) ∧ i0.size = 1 ∧ i0.bytes = 1) := ⟨hi, hz0, hz1, hz2⟩
  have HM0 : Hid (MK w C base v zs) := hm
  have HCB : Hid (C < base ∧ base ≤ w.heap.size) := ⟨hC, hB⟩
  clear hi hz0 hz1 hz2 hm hC hB
  go_enter Try.func123, Try.ntmps123
  go_wp2
  go_loopg [4] (46 - zs.length) (fun gk _ wr => ∃ m v', gk + m = 46 - zs.length ∧ Hid (MK wr C base v' (zs ++ List.replicate m 0)) ∧ Hid (Upd C v w wr) ∧ Hid (Lies w v v'))
  case atStart => exact ⟨0, v, by omega, by rw [List.replicate_zero, List.append_nil]; exact HM0, Upd.refl _ _ _, .inl rfl⟩
  case round =>
    obtain ⟨m, v', hgk, HM, HU, HL⟩ := hrel
    obtain ⟨a, cap, rfl, -⟩ := slice_of_own HM.out.2.2
    have hc0 := HM.out.1
    have hc1 : ∀ o : Obj, (wr.alloc o).cell? ⟨C, 0, none⟩ = some (.slice a (zs ++ List.replicate m 0).length cap) := fun o => cell_alloc hc0 o
    have hZl : (zs ++ List.replicate m 0).length = zs.length + m := by simp
    have HZL : Hid ((zs ++ List.replicate m 0).length = zs.length + m) := hZl
    generalize hZ : zs ++ List.replicate m 0 = Z at *
    have HZ : Hid (zs ++ List.replicate m 0 = Z) := hZ
    clear hZ hZl
    have HBW : Hid (base ≤ wr.heap.size) := Nat.le_trans HCB.out.2 HU.out.size
    have HZ4 : Hid (Z.length ≤ 1004) := by have := HZL.out; show Z.length ≤ 1004; omega
    by_cases hlt : Z.length < 46
    · have hlt' : (Z.length : Int) < 46 := by omega
      go_wp2_with (at_builtin; refine wpList_append_lies _ rfl (.tmp 13) (.tmp 14) 140 rfl base 5 i0 (.int .u8 0) 1 1 Try.underlying140 HI.out.1 HI.out.2.1 HI.out.2.2.1 HI.out.2.2.2 rfl (by decide) (.slice a Z.length cap) Z.length (bl Z) rfl (HM.out.2.2.alloc _) ⟨wr.heap.size, 0, none⟩ 1 1 [.int .u8 0] rfl rfl (cell_one_new _ _ _) (one_u8 _) (by decide) (le_max HZ4.out) (le_by HZ4.out) (le_al HBW.out) (wr.heap.size + 1) (World.size_alloc _ _) ?_)
      intro g cap2 w1 hown1 hgrow hat hlt1
      obtain ⟨kc, kf⟩ := cell_C' HCB.out.1 HBW.out HM.out hgrow
      have HR : Hid _ := mk_step' HCB.out.1 HBW.out HM.out hown1 hgrow hat
      have HGK : Hid (m + 1 + (gk - 1) = 46 - zs.length ∧ 0 < gk) := by have := HZL.out; exact ⟨by omega, by omega⟩
      clear hown1 hgrow hat hlt1 hc0 hc1
      go_wp2
      go_roundg (gk - 1)
      case measure => have := HGK.out.2; omega
      case rel => exact ⟨m + 1, _, by have := HGK.out.1; omega, by show MK _ C base _ (zs ++ List.replicate (m + 1) 0); rw [List.replicate_succ', ← List.append_assoc, HZ.out]; exact HR.out.1, HU.out.trans HL.out HR.out.2.1, HL.out.trans HU.out.size HR.out.2.2⟩
    · have hge : ¬ ((Z.length : Int) < 46) := by omega
      have HM46 : Hid (m = 46 - zs.length) := by have := HZL.out; show m = 46 - zs.length; omega
      go_wp2
      go_end0
      refine ⟨rfl, _, ?_, HU.out, HL.out⟩
      rw [← HM46.out, HZ.out]
      exact HM.out
theorem bytes_of_own {w : World} {base : Nat} {a : Option Addr} {cap : Nat} {zs : List Int} (h : w.ownsRow base 5 1 (.slice a zs.length cap) zs.length (bl zs)) : BytesAt w a zs.length (fun i => zs.getD i 0) := by
  rcases h.2 with ⟨_, h0⟩ | ⟨g, cap2, cur, e, hbg, hg, hnc, hcm, hcs, htake⟩
  · exact .inl h0
  · simp only [Value.slice.injEq] at e
    obtain ⟨rfl, -, rfl⟩ := e
    refine .inr ⟨g, 0, rfl, ?_, fun i hi => ?_⟩
    · obtain ⟨hlt, _⟩ := Array.getElem?_eq_some_iff.1 hg
      exact hlt
    · have := h.cellAt i (by omega)
      rw [Nat.zero_add, this]
      simp [bl, hi]
def sm (zs : List Int) : Int := sumB (fun i => zs.getD i 0) zs.length
def BytL (zs : List Int) : Prop := ∀ z ∈ zs, 0 ≤ z ∧ z ≤ 255
theorem byt_of {zs : List Int} (h : BytL zs) : Byt zs.length (fun i => zs.getD i 0) := fun i hi => by
  have : zs.getD i 0 = zs[i] := by simp [hi]
  show 0 ≤ zs.getD i 0 ∧ zs.getD i 0 ≤ 255
  rw [this]; exact h _ (List.getElem_mem hi)
set_option maxHeartbeats 2000000 in
theorem putSum_any (C base : Nat) (v : Value) (zs : List Int) (w : World) (hz : zs.length ≤ 1000) (hby : BytL zs) (hC : C < base) (hB : base ≤ w.heap.size) (hm : MK w C base v zs) :
    Calls Try.prog 124 #[.pointer (some ⟨C, 0, none⟩)] w fun e w' => e = .returned (.tuple #[]) ∧ ∃ v', MK w' C base v' (zs ++ nb (sm zs) 2) ∧ Upd C v w w' ∧ Lies w v v' := by
  obtain ⟨a, cap, rfl, -⟩ := slice_of_own hm.2.2
  have hc0 := hm.1
  have hsb := sumB_bd (fun i => zs.getD i 0) zs.length
  have HM : Hid (MK w C base (.slice a zs.length cap) zs) := hm
  have HS : Hid (0 ≤ sm zs ∧ sm zs ≤ 65520) := hsb
  clear hm hsb
  go_enter Try.func124, Try.ntmps124
  go_wp2_with fail
  refine (implSum_any zs.length (fun i => zs.getD i 0) a cap w (by omega) (byt_of hby) (bytes_of_own HM.out.2.2)).mono ?_
  rintro e w1 ⟨rfl, rfl⟩
  go_wp2_with fail
  refine (putNumber_any C base (sm zs) 2 _ zs _ (by omega) HS.out.1 (by have := HS.out.2; omega) hz hC hB HM.out).mono ?_
  rintro e w2 ⟨rfl, v', hm', hu', hl'⟩
  go_wp2_with fail
  go_end0
  exact ⟨rfl, v', hm', hu', hl'⟩
/-- Where putPage stands: the maker's bytes, the page's box, and that nothing older but the maker's cell has turned. -/
structure St (w : World) (C : Nat) (idn lsn : Int) (sl : Value) (wi : World) (v : Value) (zs : List Int) : Prop where
  mkr : MK wi C (w.heap.size + 1) v zs
  box : Box3 wi w.heap.size (.int .i64 idn) (.int .i64 lsn) sl
  os : wi.os = w.os
  tape : wi.tape = w.tape
  output : wi.output = w.output
  hsz : w.heap.size + 1 ≤ wi.heap.size
  block : ∀ k, k < w.heap.size → k ≠ C → wi.heap[k]? = w.heap[k]?
theorem own_far {w : World} {base n k : Nat} {v : Value} {xs : List Value} (h : w.ownsRow base 5 1 v n xs) (hk : k < base) : v.ownBlock ≠ some k := fun e => by have := (h.lt k e).1; omega
theorem own_lt {w : World} {base n k : Nat} {v : Value} {xs : List Value} (h : w.ownsRow base 5 1 v n xs) (hk : w.heap.size ≤ k) : v.ownBlock ≠ some k := fun e => by have := (h.lt k e).2; omega
theorem St.step {w wi wj : World} {C : Nat} {idn lsn : Int} {sl v v' : Value} {zs zs' : List Int} (h : St w C idn lsn sl wi v zs) (hC : C < w.heap.size) (hm : MK wj C (w.heap.size + 1) v' zs') (hu : Upd C v wi.drew wj) : St w C idn lsn sl wj v' zs' := by
  have hb := fun k (hk : k < wi.heap.size) (hkC : k ≠ C) (hv : v.ownBlock ≠ some k) => hu.block k hk hkC hv
  have hB := hb w.heap.size (by have := h.hsz; omega) (by omega) (own_far h.mkr.2.2 (by omega))
  refine ⟨hm, ⟨?_, ?_, ?_⟩, hu.os.trans h.os, hu.tape.trans h.tape, hu.output.trans h.output, Nat.le_trans h.hsz hu.size, fun k hk hkC => (hb k (by have := h.hsz; omega) hkC (own_far h.mkr.2.2 (by omega))).trans (h.block k hk hkC)⟩
  · exact (World.cell?_of_block (w := wi) (a := ⟨w.heap.size, 0, none⟩) hB).trans h.box.1
  · exact (World.cell?_of_block (w := wi) (a := ⟨w.heap.size, 1, none⟩) hB).trans h.box.2.1
  · exact (World.cell?_of_block (w := wi) (a := ⟨w.heap.size, 2, none⟩) hB).trans h.box.2.2
theorem St.alloc {w wi : World} {C : Nat} {idn lsn : Int} {sl v : Value} {zs : List Int} (h : St w C idn lsn sl wi v zs) (hC : C < w.heap.size) (o : Array Value) (t : TypeId) : St w C idn lsn sl (wi.alloc (.cells o t)) v zs := by
  refine ⟨⟨cell_alloc h.mkr.1 _, ?_, h.mkr.2.2.alloc _⟩, h.box.alloc _, h.os, h.tape, h.output, by have := h.hsz; rw [World.size_alloc]; omega, fun k hk hkC => (Below.heap_alloc _ _ _ (by have := h.hsz; omega)).trans (h.block k hk hkC)⟩
  rw [frozen?_alloc_cells]; exact h.mkr.2.1
/-- The bytes of the first k cells. -/
def cb (K V : Nat → Int) : Nat → List Int
  | 0 => []
  | k + 1 => cb K V k ++ nb (K k) 1 ++ nb (V k) 2
theorem cb_len (K V : Nat → Int) : ∀ k, (cb K V k).length = 3 * k
  | 0 => rfl
  | k + 1 => by simp [cb, cb_len K V k, nb_len]; omega
def hd (idn lsn : Int) (n : Nat) : List Int := nb idn 1 ++ nb lsn 4 ++ nb (n : Int) 1
theorem hd_len (idn lsn : Int) (n : Nat) : (hd idn lsn n).length = 6 := by simp [hd, nb_len]
def bdy (idn lsn : Int) (n : Nat) (K V : Nat → Int) : List Int := hd idn lsn n ++ cb K V n
def fld (idn lsn : Int) (n : Nat) (K V : Nat → Int) : List Int := bdy idn lsn n K V ++ List.replicate (46 - (bdy idn lsn n K V).length) 0
def pgb (idn lsn : Int) (n : Nat) (K V : Nat → Int) : List Int := fld idn lsn n K V ++ nb (sm (fld idn lsn n K V)) 2
theorem nb_byt (x : Int) : ∀ s, BytL (nb x s)
  | 0 => fun z hz => by simp [nb] at hz
  | s + 1 => fun z hz => by
    simp only [nb, List.mem_cons] at hz
    rcases hz with rfl | hz
    · exact byt_bd x s
    · exact nb_byt x s z hz
theorem BytL.app {a b : List Int} (h : BytL a) (k : BytL b) : BytL (a ++ b) := fun z hz => by
  rcases List.mem_append.1 hz with hz | hz
  · exact h z hz
  · exact k z hz
theorem cb_byt (K V : Nat → Int) : ∀ k, BytL (cb K V k)
  | 0 => fun z hz => by simp [cb] at hz
  | k + 1 => ((cb_byt K V k).app (nb_byt _ _)).app (nb_byt _ _)
theorem fld_byt (idn lsn : Int) (n : Nat) (K V : Nat → Int) : BytL (fld idn lsn n K V) :=
  ((((nb_byt _ _).app (nb_byt _ _)).app (nb_byt _ _)).app (cb_byt K V n)).app fun z hz => by rw [List.eq_of_mem_replicate hz]; omega

theorem cbox1 {wr wA : World} {C base : Nat} {v : Value} {Z : List Int} {x y : Value} (hm : MK wr C base v Z) (hC : C < wr.heap.size) (hu : Upd C v (wr.alloc (.cells #[x, y] 124)).drew wA) :
    wA.cell? ⟨wr.heap.size, 0, none⟩ = some x ∧ wA.cell? ⟨wr.heap.size, 1, none⟩ = some y := by
  have hb := hu.block wr.heap.size (by show wr.heap.size < (wr.alloc (.cells #[x, y] 124)).heap.size; rw [World.size_alloc]; omega) (by omega) (own_lt hm.2.2 (Nat.le_refl _))
  have h2 := Box2.new wr x y 124
  exact ⟨(World.cell?_of_block (w := wr.alloc (.cells #[x, y] 124)) (a := ⟨wr.heap.size, 0, none⟩) hb).trans h2.1, (World.cell?_of_block (w := wr.alloc (.cells #[x, y] 124)) (a := ⟨wr.heap.size, 1, none⟩) hb).trans h2.2⟩
theorem cbox2 {wr wA wB : World} {C base : Nat} {v vA : Value} {Z : List Int} {o : Obj} {x y : Value} (hm : MK wr C base v Z) (hC : C < wr.heap.size) (hl : Lies (wr.alloc o).drew v vA) (hlt : wr.heap.size < wA.heap.size) (hu : Upd C vA wA.drew wB)
    (h0 : wA.cell? ⟨wr.heap.size, 0, none⟩ = some x) (h1 : wA.cell? ⟨wr.heap.size, 1, none⟩ = some y) : wB.cell? ⟨wr.heap.size, 0, none⟩ = some x ∧ wB.cell? ⟨wr.heap.size, 1, none⟩ = some y := by
  have hne : vA.ownBlock ≠ some wr.heap.size := by
    rcases hl with hl | ⟨g, hg, hl⟩
    · rw [hl]; exact own_lt hm.2.2 (Nat.le_refl _)
    · rw [hl]
      have hg' : (wr.alloc o).heap.size ≤ g := hg
      rw [World.size_alloc] at hg'
      intro e; simp at e; omega
  have hb := hu.block wr.heap.size hlt (by omega) hne
  exact ⟨(World.cell?_of_block (w := wA) (a := ⟨wr.heap.size, 0, none⟩) hb).trans h0, (World.cell?_of_block (w := wA) (a := ⟨wr.heap.size, 1, none⟩) hb).trans h1⟩

set_option maxHeartbeats 4000000 in
theorem putPage_any (C : Nat) (idn lsn : Int) (n : Nat) (K V : Nat → Int) (a : Option Addr) (cap : Nat) (w : World) (g : GoodP idn lsn n K V) (hC : C < w.heap.size) (hA : CellsAt w a n K V) (hbC : ∀ b o, a = some ⟨b, o, none⟩ → n = 0 ∨ b ≠ C)
    (hm : MK w C (w.heap.size + 1) (.slice none 0 0) []) :
    Calls Try.prog 101 #[.pointer (some ⟨C, 0, none⟩), .agg #[.int .i64 idn, .int .i64 lsn, (.slice a n cap)]] w fun e w' => e = .returned (.tuple #[]) ∧ ∃ v', MK w' C (w.heap.size + 1) v' (pgb idn lsn n K V) ∧
      (w'.os = w.os ∧ w'.tape = w.tape ∧ w'.output = w.output ∧ w.heap.size ≤ w'.heap.size ∧ ∀ k, k < w.heap.size → k ≠ C → w'.heap[k]? = w.heap[k]?) := by
  have HG : Hid (GoodP idn lsn n K V) := g
  have hi1 := inB_iff.1 g.gid
  have hi2 := inB_iff.1 g.glsn
  have hn12 := g.gn
  obtain ⟨hi1a, hi1b⟩ := hi1
  obtain ⟨hi2a, hi2b⟩ := hi2
  have B1 : Hid (0 ≤ idn ∧ idn ≤ 1000000) := ⟨hi1a, by omega⟩
  have B2 : Hid (0 ≤ lsn ∧ lsn ≤ 1000000) := ⟨hi2a, hi2b⟩
  have B3 : Hid (0 ≤ (n : Int) ∧ (n : Int) ≤ 1000000) := ⟨by omega, by omega⟩
  have HCB : Hid (C < (w.heap.size + 1)) := by show C < (w.heap.size + 1); omega
  have HCw : Hid (C < w.heap.size) := hC
  have ST0 : Hid (St w C idn lsn (.slice a n cap) (w.alloc (.cells #[.int .i64 idn, .int .i64 lsn, (.slice a n cap)] 67)) (.slice none 0 0) []) :=
    ⟨⟨cell_alloc hm.1 _, by rw [frozen?_alloc_cells]; exact hm.2.1, World.ownsRow_nil _ _ _ _⟩, Box3.new _ _ _ _ _, rfl, rfl, rfl, by rw [World.size_alloc]; exact Nat.le_refl _, fun k hk _ => Below.heap_alloc _ _ _ hk⟩
  have HSRC : Hid (∀ b o, a = some ⟨b, o, none⟩ → n = 0 ∨ b ≠ C) := hbC
  have HK : Hid (CellsAt w a n K V) := hA
  have HZ1 : Hid (([] : List Int).length ≤ 1000) := by show ([] : List Int).length ≤ 1000; simp
  have HZ2 : Hid (([] ++ nb idn 1).length ≤ 1000) := by show ([] ++ nb idn 1).length ≤ 1000; simp [nb_len]
  have HZ3 : Hid (([] ++ nb idn 1 ++ nb lsn 4).length ≤ 1000) := by show ([] ++ nb idn 1 ++ nb lsn 4).length ≤ 1000; simp [nb_len]
  clear g hm hA hbC hC
  go_enter Try.func101, Try.ntmps101
  go_wp2
  go_region_held3 (fun w' => w'.cell? ⟨w.heap.size, 0, none⟩ = some (.int .i64 idn) ∧ w'.cell? ⟨w.heap.size, 1, none⟩ = some (.int .i64 lsn) ∧ w'.cell? ⟨w.heap.size, 2, none⟩ = some (.slice a n cap)) (go_keep)
    (first | (go_at_call 122; have HH := putNumber_any C (w.heap.size + 1) idn 1 (.slice none 0 0) [] (w.alloc (.cells #[.int .i64 idn, .int .i64 lsn, (.slice a n cap)] 67)).drew (by decide) B1.out.1 B1.out.2 HZ1.out HCB.out ST0.out.hsz ST0.out.mkr; refine HH.mono ?_; clear HH; rintro e w1 ⟨rfl, v1, hm1, hu1, hl1⟩; obtain ⟨q10, q11, q12⟩ := (ST0.out.step HCw.out hm1 hu1).box))
  have ST1 : Hid (St w C idn lsn (.slice a n cap) w1 v1 ([] ++ nb idn 1)) := ST0.out.step HCw.out hm1 hu1
  clear hm1 hu1 hl1 
  go_wp2
  go_region_held3 (fun w' => w'.cell? ⟨w.heap.size, 0, none⟩ = some (.int .i64 idn) ∧ w'.cell? ⟨w.heap.size, 1, none⟩ = some (.int .i64 lsn) ∧ w'.cell? ⟨w.heap.size, 2, none⟩ = some (.slice a n cap)) (go_keep)
    (first | (go_at_call 122; have HH := putNumber_any C (w.heap.size + 1) lsn 4 v1 ([] ++ nb idn 1) w1.drew (by decide) B2.out.1 B2.out.2 HZ2.out HCB.out ST1.out.hsz ST1.out.mkr; refine HH.mono ?_; clear HH; rintro e w2 ⟨rfl, v2, hm2, hu2, hl2⟩; obtain ⟨q20, q21, q22⟩ := (ST1.out.step HCw.out hm2 hu2).box))
  have ST2 : Hid (St w C idn lsn (.slice a n cap) w2 v2 (([] ++ nb idn 1) ++ nb lsn 4)) := ST1.out.step HCw.out hm2 hu2
  clear hm2 hu2 hl2 q10 q11 q12
  go_wp2
  go_region_held3 (fun w' => w'.cell? ⟨w.heap.size, 0, none⟩ = some (.int .i64 idn) ∧ w'.cell? ⟨w.heap.size, 1, none⟩ = some (.int .i64 lsn) ∧ w'.cell? ⟨w.heap.size, 2, none⟩ = some (.slice a n cap)) (go_keep)
    (first | (go_at_call 122; have HH := putNumber_any C (w.heap.size + 1) (n : Int) 1 v2 ([] ++ nb idn 1 ++ nb lsn 4) w2.drew (by decide) B3.out.1 B3.out.2 HZ3.out HCB.out ST2.out.hsz ST2.out.mkr; refine HH.mono ?_; clear HH; rintro e w3 ⟨rfl, v3, hm3, hu3, hl3⟩; obtain ⟨q30, q31, q32⟩ := (ST2.out.step HCw.out hm3 hu3).box))
  have ST3 : Hid (St w C idn lsn (.slice a n cap) w3 v3 (([] ++ nb idn 1 ++ nb lsn 4) ++ nb (n : Int) 1)) := ST2.out.step HCw.out hm3 hu3
  clear hm3 hu3 hl3 q20 q21 q22
  have ST : Hid (St w C idn lsn (.slice a n cap) w3 v3 (hd idn lsn n ++ cb K V 0)) := by show St w C idn lsn (.slice a n cap) w3 v3 (hd idn lsn n ++ cb K V 0); rw [cb, List.append_nil]; exact ST3.out
  clear ST0 ST1 ST2 ST3 HZ1 HZ2 HZ3
  go_wp2
  go_loopw [5, 28] (fun _ i wr => ∃ k : Nat, k ≤ n ∧ i = .int .i64 k ∧ ∃ v', Hid (St w C idn lsn (.slice a n cap) wr v' (hd idn lsn n ++ cb K V k))) (fun _ i _ => n - (intOf i).toNat)
  case atStart => exact ⟨0, Nat.zero_le _, rfl, v3, ST⟩
  case round =>
    clear ST q30 q31 q32
    obtain ⟨k, hk0, rfl, v', ST⟩ := hrel
    by_cases hlt : k < n
    · rcases HK.out with h | ⟨b, off, rfl, hbl, hck, hcv⟩
      · omega
      have hbb : b < w.heap.size ∧ b ≠ C := by
        refine ⟨hbl, ?_⟩
        rcases HSRC.out b off rfl with h | h
        · omega
        · exact h
      have h1 : wr.cell? ⟨b, off + k * 2, none⟩ = some (.int .i64 (K k)) := (World.cell?_of_block (w := w) (a := ⟨b, off + k * 2, none⟩) (ST.out.block b hbb.1 hbb.2)).trans (hck k hlt)
      have h2 : wr.cell? ⟨b, off + k * 2 + 1, none⟩ = some (.int .i64 (V k)) := (World.cell?_of_block (w := w) (a := ⟨b, off + k * 2 + 1, none⟩) (ST.out.block b hbb.1 hbb.2)).trans (hcv k hlt)
      clear hbl hck hcv
      clear hbb
      have hlt' : (k : Int) < (n : Int) := by omega
      have HKB : Hid (0 ≤ K k ∧ K k ≤ 1000000) := by have := HG.out.gkey k hlt; exact ⟨this.1, by omega⟩
      have HVB : Hid (0 ≤ V k ∧ V k ≤ 1000000) := by have := HG.out.gval k hlt; exact ⟨this.1, by omega⟩
      have HZ1 : Hid ((hd idn lsn n ++ cb K V k).length ≤ 1000) := by show (hd idn lsn n ++ cb K V k).length ≤ 1000; rw [List.length_append, hd_len, cb_len]; omega
      have HZ2 : Hid ((hd idn lsn n ++ cb K V k ++ nb (K k) 1).length ≤ 1000) := by show (hd idn lsn n ++ cb K V k ++ nb (K k) 1).length ≤ 1000; rw [List.length_append, List.length_append, hd_len, cb_len, nb_len]; omega
      have HCr : Hid (C < wr.heap.size) := by have := ST.out.hsz; have := HCw.out; show C < wr.heap.size; omega
      have STa : Hid (St w C idn lsn (.slice (some ⟨b, off, none⟩) n cap) (wr.alloc (.cells #[.int .i64 (K k), .int .i64 (V k)] 124)) v' (hd idn lsn n ++ cb K V k)) := ST.out.alloc HCw.out _ _
      go_wp2
      go_region_held3 (fun w' => w'.cell? ⟨wr.heap.size, 0, none⟩ = some (.int .i64 (K k)) ∧ w'.cell? ⟨wr.heap.size, 1, none⟩ = some (.int .i64 (V k))) (go_keep)
        (first | (go_at_call 122; have HH := putNumber_any C (w.heap.size + 1) (K k) 1 v' (hd idn lsn n ++ cb K V k) (wr.alloc (.cells #[.int .i64 (K k), .int .i64 (V k)] 124)).drew (by decide) HKB.out.1 HKB.out.2 HZ1.out HCB.out STa.out.hsz STa.out.mkr; refine HH.mono ?_; clear HH; rintro e wA ⟨rfl, vA, hmA, huA, hlA⟩; obtain ⟨cA0, cA1⟩ := cbox1 ST.out.mkr HCr.out huA))
      have STA : Hid (St w C idn lsn (.slice (some ⟨b, off, none⟩) n cap) wA vA (hd idn lsn n ++ cb K V k ++ nb (K k) 1)) := STa.out.step HCw.out hmA huA
      have HLA : Hid (Lies (wr.alloc (.cells #[.int .i64 (K k), .int .i64 (V k)] 124)).drew v' vA) := hlA
      have HSA : Hid (wr.heap.size < wA.heap.size) := by
        have hq := huA.size
        have hq2 : (wr.alloc (.cells #[.int .i64 (K k), .int .i64 (V k)] 124)).heap.size ≤ wA.heap.size := hq
        rw [World.size_alloc] at hq2
        show wr.heap.size < wA.heap.size
        omega
      clear hmA huA hlA h1 h2
      go_wp2
      go_region_held3 (fun w' => w'.cell? ⟨wr.heap.size, 0, none⟩ = some (.int .i64 (K k)) ∧ w'.cell? ⟨wr.heap.size, 1, none⟩ = some (.int .i64 (V k))) (go_keep)
        (first | (go_at_call 122; have HH := putNumber_any C (w.heap.size + 1) (V k) 2 vA (hd idn lsn n ++ cb K V k ++ nb (K k) 1) wA.drew (by decide) HVB.out.1 HVB.out.2 HZ2.out HCB.out STA.out.hsz STA.out.mkr; refine HH.mono ?_; clear HH; rintro e wB ⟨rfl, vB, hmB, huB, hlB⟩; obtain ⟨cB0, cB1⟩ := cbox2 ST.out.mkr HCr.out HLA.out HSA.out huB cA0 cA1))
      have STB : Hid (St w C idn lsn (.slice (some ⟨b, off, none⟩) n cap) wB vB (hd idn lsn n ++ cb K V (k + 1))) := by
        show St w C idn lsn (.slice (some ⟨b, off, none⟩) n cap) wB vB (hd idn lsn n ++ cb K V (k + 1))
        rw [cb, ← List.append_assoc, ← List.append_assoc]
        exact STA.out.step HCw.out hmB huB
      clear hmB huB hlB
      go_wp2
      go_roundw
      case rel => exact ⟨k + 1, hlt, by go_num, vB, STB⟩
      case measure => simp [intOf]; omega
    · have hkn : k = n := by omega
      have STn : Hid (St w C idn lsn (.slice a n cap) wr v' (bdy idn lsn n K V)) := by show St w C idn lsn (.slice a n cap) wr v' (bdy idn lsn n K V); rw [bdy, ← hkn]; rw [hkn]; have h := ST.out; rw [hkn] at h; exact h
      have HBL : Hid ((bdy idn lsn n K V).length ≤ 46) := by show (bdy idn lsn n K V).length ≤ 46; rw [bdy, List.length_append, hd_len, cb_len]; omega
      have HFL : Hid ((fld idn lsn n K V).length ≤ 1000) := by show (fld idn lsn n K V).length ≤ 1000; rw [fld, List.length_append, List.length_replicate]; have := HBL.out; omega
      clear ST hkn
      go_wp2_with fail
      refine (fillTo_any C (w.heap.size + 1) v' (bdy idn lsn n K V) wr HBL.out HCB.out STn.out.hsz STn.out.mkr).mono ?_
      rintro e wA ⟨rfl, vA, hmA, huA, hlA⟩
      have STA : Hid (St w C idn lsn (.slice a n cap) wA vA (fld idn lsn n K V)) := STn.out.step HCw.out hmA ⟨huA.os, huA.tape, huA.output, huA.size, huA.block⟩
      clear hmA huA hlA
      go_wp2_with fail
      refine (putSum_any C (w.heap.size + 1) vA (fld idn lsn n K V) wA HFL.out (fld_byt _ _ _ _ _) HCB.out STA.out.hsz STA.out.mkr).mono ?_
      rintro e wB ⟨rfl, vB, hmB, huB, hlB⟩
      have STB : Hid (St w C idn lsn (.slice a n cap) wB vB (pgb idn lsn n K V)) := STA.out.step HCw.out hmB ⟨huB.os, huB.tape, huB.output, huB.size, huB.block⟩
      clear hmB huB hlB
      go_wp2_with fail
      go_end0
      exact ⟨rfl, vB, STB.out.mkr, STB.out.os, STB.out.tape, STB.out.output, by have := STB.out.hsz; omega, STB.out.block⟩
/-- A list of cells, place by place. -/
def cl : List (Int × Int) → List Value
  | [] => []
  | c :: r => .int .i64 c.1 :: .int .i64 c.2 :: cl r
theorem cl_len : ∀ L, (cl L).length = L.length * 2
  | [] => rfl
  | c :: r => by simp only [cl, List.length_cons, cl_len r]; omega
theorem cl_app : ∀ L M, cl (L ++ M) = cl L ++ cl M
  | [], M => rfl
  | c :: r, M => by simp only [List.cons_append, cl, cl_app r M]
def kOf (L : List (Int × Int)) (i : Nat) : Int := (L.getD i (0, 0)).1
def vOf (L : List (Int × Int)) (i : Nat) : Int := (L.getD i (0, 0)).2
theorem cl_key : ∀ (L : List (Int × Int)) (i : Nat), i < L.length → (cl L)[i * 2]? = some (.int .i64 (kOf L i)) ∧ (cl L)[i * 2 + 1]? = some (.int .i64 (vOf L i))
  | [], i, h => by simp at h
  | c :: r, 0, _ => by simp [cl, kOf, vOf]
  | c :: r, i + 1, h => by
    have ih := cl_key r i (by simpa using h)
    have e1 : (i + 1) * 2 = i * 2 + 1 + 1 := by omega
    rw [e1]
    simp only [cl, List.getElem?_cons_succ]
    exact ih
/-- What a slice owns that was appended to. -/
theorem own_of_row {w : World} {base : Nat} {v : Value} {L : List (Int × Int)} (h : w.ownsRow base 124 2 v L.length (cl L)) : ∃ a cap, v = .slice a L.length cap ∧ Own w base w.heap.size a L.length (kOf L) (vOf L) := by
  rcases h.2 with ⟨rfl, h0⟩ | ⟨g, cap, cur, rfl, hbg, hg, hnc, hcm, hcs, htake⟩
  · exact ⟨none, 0, by rw [h0], Nat.le_refl _, .inl h0⟩
  · have hlt : g < w.heap.size := by
      obtain ⟨hlt, _⟩ := Array.getElem?_eq_some_iff.1 hg
      exact hlt
    refine ⟨some ⟨g, 0, none⟩, cap, rfl, Nat.le_refl _, .inr ⟨g, 0, rfl, hbg, hlt, fun i hi => ?_, fun i hi => ?_, fun i hi => ?_, fun i hi => ?_⟩⟩
    · have := h.cellAt (i * 2) (by omega)
      rw [(cl_key L i hi).1] at this
      simpa using this
    · have := h.cellAt (i * 2 + 1) (by omega)
      rw [(cl_key L i hi).2] at this
      simpa using this
    · exact h.frozenAt _
    · exact h.frozenAt _

def wo (K V : Nat → Int) (key : Int) : Nat → List (Int × Int)
  | 0 => []
  | k + 1 => if K k = key then wo K V key k else wo K V key k ++ [(K k, V k)]
theorem wo_len (K V : Nat → Int) (key : Int) : ∀ k, (wo K V key k).length ≤ k
  | 0 => by simp [wo]
  | k + 1 => by have := wo_len K V key k; simp only [wo]; split <;> simp <;> omega
/-- One cell appended. -/
theorem app_one {w wr w1 : World} {B : Nat} {v v' : Value} {L : List (Int × Int)} {k x : Int} {c : Array Value} {t : TypeId} (hb : Below B w wr) (hB : B ≤ wr.heap.size) (hown : wr.ownsRow B 124 2 v L.length (cl L))
    (h1 : w1.ownsRow B 124 2 v' (L.length + 1) (cl L ++ [.int .i64 k, .int .i64 x])) (hg : (wr.alloc (.cells c t)).grownBy w1 v.ownBlock) :
    w1.ownsRow B 124 2 v' (L ++ [(k, x)]).length (cl (L ++ [(k, x)])) ∧ Below B w w1 := by
  refine ⟨?_, (hb.alloc hB _).grown hg (by simp; omega) fun q hq => (hown.lt q hq).1⟩
  rw [cl_app]
  simpa [cl] using h1

theorem cell_two_new2 (w : World) (o : Obj) (a b : Value) (t : TypeId) : ∀ j u, [a, b][j]? = some u → ((w.alloc o).alloc (.cells #[a, b] t)).cell? ((⟨w.heap.size + 1, 0, none⟩ : Addr).add j) = some u := by
  have h := cell_two_new (w.alloc o) a b t
  simpa using h
/-- m cells from the i-th on. -/
def lst (K V : Nat → Int) (i m : Nat) : List (Int × Int) := (List.range m).map fun q => (K (i + q), V (i + q))
theorem lst_len (K V : Nat → Int) (i m : Nat) : (lst K V i m).length = m := by simp [lst]
theorem lst_get (K V : Nat → Int) (i m q : Nat) (h : q < m) : kOf (lst K V i m) q = K (i + q) ∧ vOf (lst K V i m) q = V (i + q) := by
  simp [kOf, vOf, lst, h]
/-- Where the key's cell goes, and where the rest begins. -/
def nx (K : Nat → Int) (key : Int) (n : Nat) : Nat := if has K key n = true then pl K key n + 1 else pl K key n
def wi (K V : Nat → Int) (key val : Int) (n : Nat) : List (Int × Int) := lst K V 0 (pl K key n) ++ [(key, val)] ++ lst K V (nx K key n) (n - nx K key n)
theorem nx_le (K : Nat → Int) (key : Int) (n : Nat) : nx K key n ≤ n := by
  unfold nx
  have := pl_le K key n
  by_cases h : has K key n = true
  · rw [if_pos h]; have := (has_iff.1 h).1; omega
  · rw [if_neg h]; omega
theorem wi_len (K V : Nat → Int) (key val : Int) (n : Nat) : (wi K V key val n).length ≤ n + 1 := by
  have h1 := pl_le K key n
  have h2 := nx_le K key n
  have h3 : pl K key n ≤ nx K key n := by unfold nx; split <;> omega
  simp only [wi, List.length_append, lst_len, List.length_cons, List.length_nil]; omega
theorem news_cells {w : World} {b off n : Nat} {K V : Nat → Int} (hk : ∀ i, i < n → w.cell? ⟨b, off + i * 2, none⟩ = some (.int .i64 (K i))) (hv : ∀ i, i < n → w.cell? ⟨b, off + i * 2 + 1, none⟩ = some (.int .i64 (V i)))
    (i m : Nat) (him : i + m ≤ n) (o : Nat) (ho : o = off + i * 2) : ∀ j u, (cl (lst K V i m))[j]? = some u → w.cell? ((⟨b, o, none⟩ : Addr).add j) = some u := by
  intro j u hj
  subst ho
  rw [WideShapes.add_plain]
  have hlt : j < m * 2 := by
    have := (List.getElem?_eq_some_iff.1 hj).1
    rw [cl_len, lst_len] at this; exact this
  have hq : j / 2 < m := by omega
  have hkey := cl_key (lst K V i m) (j / 2) (by rw [lst_len]; exact hq)
  have hg := lst_get K V i m (j / 2) hq
  rcases Nat.mod_two_eq_zero_or_one j with e | e
  · have e1 : j / 2 * 2 = j := by omega
    rw [e1, hg.1] at hkey
    rw [hkey.1] at hj
    have := hk (i + j / 2) (by omega)
    rw [show off + i * 2 + j = off + (i + j / 2) * 2 by omega, this]; exact hj
  · have e1 : j / 2 * 2 + 1 = j := by omega
    rw [e1, hg.2] at hkey
    rw [hkey.2] at hj
    have := hv (i + j / 2) (by omega)
    rw [show off + i * 2 + j = off + (i + j / 2) * 2 + 1 by omega, this]; exact hj
theorem cl_one : ∀ L, ∀ u ∈ cl L, u.oneCell' = true
  | [], u, h => by simp [cl] at h
  | c :: r, u, h => by
    simp only [cl, List.mem_cons] at h
    rcases h with rfl | rfl | h
    · rfl
    · rfl
    · exact cl_one r u h
theorem rows_at {w : World} {b off n : Nat} {K V : Nat → Int} (h : CellsAt w (some ⟨b, off, none⟩) n K V) :
    (∀ i, i < n → w.cell? ⟨b, off + i * 2, none⟩ = some (.int .i64 (K i))) ∧ (∀ i, i < n → w.cell? ⟨b, off + i * 2 + 1, none⟩ = some (.int .i64 (V i))) := by
  rcases h with rfl | ⟨b', off', e, _, hk, hv⟩
  · exact ⟨fun i hi => by omega, fun i hi => by omega⟩
  · simp only [Option.some.injEq, Addr.mk.injEq, and_true] at e
    obtain ⟨rfl, rfl⟩ := e
    exact ⟨hk, hv⟩
/-- A list appended. -/
theorem app_list {w wr w1 : World} {B : Nat} {v v' : Value} {L M : List (Int × Int)} {m : Nat} (hm : M.length = m) (hb : Below B w wr) (hB : B ≤ wr.heap.size) (hown : wr.ownsRow B 124 2 v L.length (cl L))
    (h1 : w1.ownsRow B 124 2 v' (L.length + m) (cl L ++ cl M)) (hg : wr.grownBy w1 v.ownBlock) :
    w1.ownsRow B 124 2 v' (L ++ M).length (cl (L ++ M)) ∧ Below B w w1 := by
  refine ⟨?_, hb.grown hg hB fun q hq => (hown.lt q hq).1⟩
  rw [cl_app, List.length_append, hm]
  exact h1

theorem ownsRow_down {w : World} {B B' : Nat} {v : Value} {n : Nat} {xs : List Value} (h : w.ownsRow B 124 2 v n xs) (hb : B' ≤ B) : w.ownsRow B' 124 2 v n xs := by
  refine ⟨h.1, ?_⟩
  rcases h.2 with h2 | ⟨g, cap, cur, hv, hg, r⟩
  · exact .inl h2
  · exact .inr ⟨g, cap, cur, hv, by omega, r⟩
/-- Bytes in a block from lo on, below hi, that may be written. -/
def OwnB (w : World) (lo hi : Nat) (a : Option Addr) (n : Nat) (z : Nat → Int) : Prop :=
  hi ≤ w.heap.size ∧ (n = 0 ∨ ∃ g off, a = some ⟨g, off, none⟩ ∧ lo ≤ g ∧ g < hi ∧ (∀ i, i < n → w.cell? ⟨g, off + i, none⟩ = some (.int .u8 (z i))) ∧ (∀ i, i < n → w.frozen? ⟨g, off + i, none⟩ = false))
theorem OwnB.at {w : World} {lo hi : Nat} {a : Option Addr} {n : Nat} {z : Nat → Int} (h : OwnB w lo hi a n z) : BytesAt w a n z := by
  obtain ⟨h0, h1 | ⟨g, off, ha, _, hl, hc, _⟩⟩ := h
  · exact .inl h1
  · exact .inr ⟨g, off, ha, by omega, hc⟩
theorem OwnB.writes {w w' : World} {lo hi lo' hi' : Nat} {a : Option Addr} {n : Nat} {z : Nat → Int} (h : OwnB w lo hi a n z) (hw : Writes lo' hi' w w') (hd : hi ≤ lo' ∨ hi' ≤ lo) : OwnB w' lo hi a n z := by
  obtain ⟨h0, h1 | ⟨g, off, ha, h2, hl, hc, hf⟩⟩ := h
  · exact ⟨Nat.le_trans h0 hw.size, .inl h1⟩
  · have hb := hw.block g (by omega) (by omega)
    exact ⟨Nat.le_trans h0 hw.size, .inr ⟨g, off, ha, h2, hl, fun i hi => (World.cell?_of_block (w := w) (a := ⟨g, _, none⟩) hb).trans (hc i hi), fun i hi => (World.frozen?_of_block (w := w) (a := ⟨g, _, none⟩) hb).trans (hf i hi)⟩⟩
theorem OwnB.below {w w' : World} {lo hi : Nat} {a : Option Addr} {n : Nat} {z : Nat → Int} (h : OwnB w lo hi a n z) (hb : Below w.heap.size w w') : OwnB w' lo hi a n z :=
  h.writes (Writes.of_below (lo := hi) (hi := hi) hb) (.inl (Nat.le_refl _))
theorem OwnB.wide {w : World} {lo hi lo' hi' : Nat} {a : Option Addr} {n : Nat} {z : Nat → Int} (h : OwnB w lo hi a n z) (h1 : lo' ≤ lo) (h2 : hi ≤ hi') (h3 : hi' ≤ w.heap.size) : OwnB w lo' hi' a n z := by
  obtain ⟨h0, h4 | ⟨g, off, ha, h5, hl, r⟩⟩ := h
  · exact ⟨h3, .inl h4⟩
  · exact ⟨h3, .inr ⟨g, off, ha, by omega, by omega, r⟩⟩
def zOf (zs : List Int) (i : Nat) : Int := zs.getD i 0
theorem ownB_of_row {w : World} {base : Nat} {v : Value} {zs : List Int} (h : w.ownsRow base 5 1 v zs.length (bl zs)) : ∃ a cap, v = .slice a zs.length cap ∧ OwnB w base w.heap.size a zs.length (zOf zs) := by
  rcases h.2 with ⟨rfl, h0⟩ | ⟨g, cap, cur, rfl, hbg, hg, hnc, hcm, hcs, htake⟩
  · exact ⟨none, 0, by rw [h0], Nat.le_refl _, .inl h0⟩
  · have hlt : g < w.heap.size := by
      obtain ⟨hlt, _⟩ := Array.getElem?_eq_some_iff.1 hg
      exact hlt
    refine ⟨some ⟨g, 0, none⟩, cap, rfl, Nat.le_refl _, .inr ⟨g, 0, rfl, hbg, hlt, fun i hi => ?_, fun i hi => h.frozenAt _⟩⟩
    have := h.cellAt i (by omega)
    rw [Nat.zero_add, this]
    simp [bl, hi, zOf]
/-- An answer that is bytes (or a code). -/
def BRes (c : Int) (zs : List Int) (w : World) (e : Ending) (w' : World) : Prop :=
  ∃ a cap, e = .returned (.agg #[.int .i64 c, .slice a (if c = 0 then zs else []).length cap]) ∧ Below w.heap.size w w' ∧ OwnB w' w.heap.size w'.heap.size a (if c = 0 then zs else []).length (zOf (if c = 0 then zs else []))
theorem bres_bad {c : Int} {zs : List Int} {w w' : World} (hb : Below w.heap.size w w') (hc : c ≠ 0) : BRes c zs w (.returned (.agg #[.int .i64 c, .slice none 0 0])) w' := by
  rw [BRes]
  simp only [if_neg hc]
  exact ⟨none, 0, rfl, hb, Nat.le_refl _, .inl rfl⟩
theorem bres_ok {x : Int} {zs : List Int} {w wq w' : World} {a : Option Addr} {cap lo : Nat} (E : Hid (x = 0)) (hB : Below w.heap.size w wq) (hlo : w.heap.size + 2 ≤ lo)
    (ho : OwnB wq lo wq.heap.size a zs.length (zOf zs)) (hw : Writes (w.heap.size + 1) (w.heap.size + 2) wq w') (hs : w'.heap.size = wq.heap.size) :
    BRes x zs w (.returned (.agg #[.int .i64 0, .slice a zs.length cap])) w' := by
  rw [BRes, E.out]
  simp only [if_true]
  have hb : Below w.heap.size w w' := Writes.below hB hw (by omega)
  refine ⟨a, cap, rfl, hb, ?_⟩
  rw [hs]
  exact OwnB.wide (OwnB.writes ho hw (.inr (by omega))) (by omega) (Nat.le_refl _) (by omega)

def BRes2 (c : Int) (zs : List Int) (w : World) (e : Ending) (w' : World) : Prop :=
  ∃ a cap, e = .returned (.agg #[.int .i64 c, .slice a (if c = 0 then zs else []).length cap]) ∧ Below w.heap.size w w' ∧ OwnB w' w.heap.size w'.heap.size a (if c = 0 then zs else []).length (zOf (if c = 0 then zs else [])) ∧ (if c = 0 then zs else []).length ≤ cap
theorem bres2_bad {c : Int} {zs : List Int} {w w' : World} (hb : Below w.heap.size w w') (hc : c ≠ 0) : BRes2 c zs w (.returned (.agg #[.int .i64 c, .slice none 0 0])) w' := by
  rw [BRes2]
  simp only [if_neg hc]
  exact ⟨none, 0, rfl, hb, ⟨Nat.le_refl _, .inl rfl⟩, Nat.le_refl _⟩
theorem bres2_ok {x : Int} {zs : List Int} {w wq w' : World} {a : Option Addr} {cap lo : Nat} (E : Hid (x = 0)) (hB : Below w.heap.size w wq) (hlo : w.heap.size + 2 ≤ lo)
    (ho : OwnB wq lo wq.heap.size a zs.length (zOf zs)) (hw : Writes (w.heap.size + 1) (w.heap.size + 2) wq w') (hs : w'.heap.size = wq.heap.size) (hcp : zs.length ≤ cap) :
    BRes2 x zs w (.returned (.agg #[.int .i64 0, .slice a zs.length cap])) w' := by
  rw [BRes2, E.out]
  simp only [if_true]
  have hb : Below w.heap.size w w' := Writes.below hB hw (by omega)
  refine ⟨a, cap, rfl, hb, ?_, hcp⟩
  rw [hs]
  exact OwnB.wide (OwnB.writes ho hw (.inr (by omega))) (by omega) (Nat.le_refl _) (by omega)
theorem own_cap {w : World} {base : Nat} {a : Option Addr} {n cap : Nat} {xs : List Value} (h : w.ownsRow base 5 1 (.slice a n cap) n xs) : n ≤ cap := by
  rcases h.2 with ⟨e, h0⟩ | ⟨_, _, _, e, _, _, h9, _⟩
  · omega
  · simp only [Value.slice.injEq] at e
    omega
set_option maxHeartbeats 2000000 in
theorem implPack2 (idn lsn : Int) (n : Nat) (K V : Nat → Int) (a : Option Addr) (cap : Nat) (w : World) (hn : n ≤ 140737488355328) (h : CellsAt w a n K V) :
    Calls Try.prog 71 #[.agg #[.int .i64 idn, .int .i64 lsn, .slice a n cap]] w (BRes2 (pf idn lsn n K V) (pgb idn lsn n K V) w) := by
  have hb0 : ∀ o1 o2, Below w.heap.size w ((w.alloc o1).alloc o2) := fun o1 o2 => ((Below.refl _ _).alloc (Nat.le_refl _) _).alloc (by simp) _
  by_cases h0 : pf idn lsn n K V = 0
  · have HG : Hid (GoodP idn lsn n K V) := good_of h0
    have E : Hid (pf idn lsn n K V = 0) := h0
    have HBN : Hid (∀ b o, a = some ⟨b, o, none⟩ → n = 0 ∨ b < w.heap.size) := by
      intro b o e
      rcases h with h | ⟨b', o', e', hl, _⟩
      · exact .inl h
      · rw [e] at e'
        simp only [Option.some.injEq, Addr.mk.injEq, and_true] at e'
        exact .inr (by omega)
    go_enter Try.func71, Try.ntmps71
    go_wp2_with fail
    refine (implFault_any idn lsn n K V _ cap _ (by omega) (h.below (hb0 _ _))).mono ?_
    rintro e w1 ⟨rfl, hb1⟩
    rw [h0]
    have HA : Hid (CellsAt w1 a n K V) := (h.below (hb0 _ _)).below hb1
    obtain ⟨hc, hf⟩ := bcell hb1
    have hz : w.heap.size + 1 < w1.heap.size := by have hq := hb1.size; simp at hq; omega
    have k0 : w1.cell? ⟨w.heap.size, 0, none⟩ = some (.int .i64 idn) := by rw [hc _ _ (by simp <;> omega)]; simp [go_sem]
    have k1 : w1.cell? ⟨w.heap.size, 1, none⟩ = some (.int .i64 lsn) := by rw [hc _ _ (by simp <;> omega)]; simp [go_sem]
    have k2 : w1.cell? ⟨w.heap.size, 2, none⟩ = some (.slice a n cap) := by rw [hc _ _ (by simp <;> omega)]; simp [go_sem]
    have r0 : w1.cell? ⟨w.heap.size + 1, 0, none⟩ = some (.int .i64 0) := by simp [hc]
    have r1 : w1.cell? ⟨w.heap.size + 1, 1, none⟩ = some (.slice none 0 0) := by simp [hc]
    have f0 : ∀ i, w1.frozen? ⟨w.heap.size + 1, i, none⟩ = false := fun i => by simp [hf, go_sem]
    have m0 := fun o : Obj => cell_alloc k0 o
    have m1 := fun o : Obj => cell_alloc k1 o
    have m2 := fun o : Obj => cell_alloc k2 o
    have HB : Hid (Below w.heap.size w w1) := below_then (hb0 _ _) hb1
    clear h0 hc hf hb1 hb0 h
    go_wp2_with fail
    refine (putPage_any w1.heap.size idn lsn n K V a cap (w1.alloc (.cells #[.slice none 0 0] 142)) HG.out (by simp) (HA.out.below (below_new _ _)) ?_ ⟨by simp, by simp, World.ownsRow_nil _ _ _ _⟩).mono ?_
    · intro b o e
      rcases HBN.out b o e with h | h
      · exact .inl h
      · exact .inr (by omega)
    rintro e w3 ⟨rfl, v3, hm3, hos, htape, hout, hsz3, hblk⟩
    obtain ⟨a3, cap3, rfl, ho3⟩ := ownB_of_row hm3.2.2
    have HCP : Hid ((pgb idn lsn n K V).length ≤ cap3) := own_cap hm3.2.2
    have hc3 := hm3.1
    have hs3 : w1.heap.size + 1 ≤ w3.heap.size := by rw [World.size_alloc] at hsz3; exact hsz3
    have hbk : ∀ k, k < w1.heap.size → w3.heap[k]? = w1.heap[k]? := fun k hk => (hblk k (by rw [World.size_alloc]; omega) (by omega)).trans (Below.heap_alloc _ _ _ hk)
    have t0 : w3.cell? ⟨w.heap.size + 1, 0, none⟩ = some (.int .i64 0) := (World.cell?_of_block (w := w1) (a := ⟨w.heap.size + 1, 0, none⟩) (hbk _ hz)).trans r0
    have t1 : w3.cell? ⟨w.heap.size + 1, 1, none⟩ = some (.slice none 0 0) := (World.cell?_of_block (w := w1) (a := ⟨w.heap.size + 1, 1, none⟩) (hbk _ hz)).trans r1
    have fz : ∀ i, w3.frozen? ⟨w.heap.size + 1, i, none⟩ = false := fun i => (World.frozen?_of_block (w := w1) (a := ⟨w.heap.size + 1, i, none⟩) (hbk _ hz)).trans (f0 i)
    have HB3 : Hid (Below w.heap.size w w3) := ⟨hos.trans HB.out.os, htape.trans HB.out.tape, hout.trans HB.out.output, by have := HB.out.size; omega, fun k hk => (hbk k (by omega)).trans (HB.out.block k hk)⟩
    have HO3 : Hid (OwnB w3 ((w1.alloc (.cells #[.slice none 0 0] 142)).heap.size + 1) w3.heap.size a3 (pgb idn lsn n K V).length (zOf (pgb idn lsn n K V))) := ho3
    generalize pgb idn lsn n K V = Z at *
    clear hm3 ho3 hblk hbk hos htape hout hsz3 r0 r1 f0 m0 m1 m2 k0 k1 k2 HA
    go_wp2_with fail
    refine bodyPost_ret (v := .agg #[.int .i64 0, .slice a3 Z.length cap3]) (by simp [results, Try.results71, go_sem, *]) rfl ?_
    refine bres2_ok E HB3.out ?_ HO3.out ?_ (by simp [World.setCell]) HCP.out
    · rw [World.size_alloc]; omega
    · repeat (first | exact Writes.refl _ _ _ | apply Writes.drew | refine Writes.setCell ?_ (by first | omega | (simp <;> omega)) (by first | omega | (simp <;> omega)) _)
  · have hd : (pf idn lsn n K V != 0) = true := by simpa using h0
    have HNZ : Hid (pf idn lsn n K V ≠ 0) := h0
    go_enter Try.func71, Try.ntmps71
    go_wp2_with fail
    refine (implFault_any idn lsn n K V _ cap _ (by omega) (h.below (hb0 _ _))).mono ?_
    rintro e w1 ⟨rfl, hb1⟩
    obtain ⟨hc, hf⟩ := bcell hb1
    generalize pf idn lsn n K V = c at *
    clear h0
    go_wp2_with fail
    refine bodyPost_ret (v := .agg #[.int .i64 c, .slice none 0 0]) (by simp [results, Try.results71, go_sem, hc]) rfl ?_
    refine bres2_bad ?_ HNZ.out
    repeat (first | exact below_then (hb0 _ _) hb1 | refine Below.setCell ?_ (by first | omega | (simp <;> omega)) _)
theorem implPack_any (idn lsn : Int) (n : Nat) (K V : Nat → Int) (a : Option Addr) (cap : Nat) (w : World) (hn : n ≤ 140737488355328) (h : CellsAt w a n K V) :
    Calls Try.prog 71 #[.agg #[.int .i64 idn, .int .i64 lsn, .slice a n cap]] w (BRes (pf idn lsn n K V) (pgb idn lsn n K V) w) := by
  refine (implPack2 idn lsn n K V a cap w hn h).mono ?_
  rintro e w' ⟨a', cap', h1, h2, h3, h4⟩
  exact ⟨a', cap', h1, h2, h3⟩
theorem step_appB {ops : Array Oper} {o : Oper} {a : Act} {K : Act → World → Prop} {Q : Exit → Act → World → Prop} {E : Prop} (w : World) (hgd : o.guard = none) (s x : Operand)
    (ho : o.op = .call { callee := .builtin .append, args := #[s, x], argTypes := #[27, 27] })
    (base : Nat) (v : Value) (n : Nat) (xs : List Value) (hs : a.eval s = v) (hown : w.ownsRow base 5 1 v n xs)
    (ad : Addr) (m c : Nat) (news : List Value) (hx : a.eval x = .slice (some ad) m c) (hl : news.length = m) (hnews : ∀ j u, news[j]? = some u → w.cell? (ad.add j) = some u) (h1 : ∀ u ∈ news, u.oneCell' = true)
    (h63 : n + m ≤ 100000) (hbase : base ≤ w.heap.size)
    (h : ∀ v' w', w'.ownsRow base 5 1 v' (n + m) (xs ++ news) → w.grownBy w' v.ownBlock → K (a.put o.dst v') w') :
    if Region.wanted o (yielded ops a.tmps) = true then Oper.wp Try.prog o a w K Q else E := by
  have hw : Region.wanted o (yielded ops a.tmps) = true := by simp [Region.wanted, hgd]
  rw [if_pos hw]
  obtain ⟨i0, hi, hz0, hz1, hz2⟩ := info_parts info5
  exact wp_append_own w s x 27 ho base 5 i0 _ 1 1 Try.underlying27 hi hz0 hz1 hz2 rfl (by decide) v n xs hs hown ad m c news hx (by omega) hnews h1 (by unfold maxLen; omega) (by omega) hbase fun v' w' h2 h3 _ => h v' w' h2 h3
theorem formB {w : World} {base n : Nat} {v : Value} {xs : List Value} (h : w.ownsRow base 5 1 v n xs) (hne : v ≠ .slice none 0 0) : ∃ g cap, v = .slice (some ⟨g, 0, none⟩) n cap ∧ base ≤ g ∧ g < w.heap.size := by
  rcases h.2 with ⟨rfl, h0⟩ | ⟨g, cap, cur, rfl, hb, hg, _⟩
  · exact absurd rfl hne
  · exact ⟨g, cap, rfl, hb, by obtain ⟨hlt, _⟩ := Array.getElem?_eq_some_iff.1 hg; exact hlt⟩
theorem keepB {w W : World} {o o2 : Obj} (h : Below (w.heap.size + 1) (w.alloc o) W.drew) : Below (w.heap.size + 1) (w.alloc o) (W.alloc o2).drew :=
  (Below.alloc (w := W) ⟨h.os, h.tape, h.output, h.size, h.block⟩ (by have := h.size; rw [World.size_alloc] at this; exact this) o2).drew
theorem keepB' {w W : World} {o o2 : Obj} (h : Below (w.heap.size + 1) (w.alloc o) W) : Below (w.heap.size + 1) (w.alloc o) (W.alloc o2) :=
  h.alloc (by have := h.size; rw [World.size_alloc] at this; exact this) o2
theorem hszB {w W : World} {o : Obj} (h : Below (w.heap.size + 1) (w.alloc o) W) : w.heap.size + 1 ≤ W.heap.size := by have := h.size; rw [World.size_alloc] at this; exact this
theorem belB {w W wq : World} {o : Obj} (h : Below (w.heap.size + 1) (w.alloc o) W) (hq : Below W.heap.size W wq) : Below (w.heap.size + 1) (w.alloc o) wq := h.trans (hq.mono (hszB h))
theorem grB {w W wa : World} {o : Obj} {v : Value} {n : Nat} {xs : List Value} (h : Below (w.heap.size + 1) (w.alloc o) W) (ho : W.ownsRow (w.heap.size + 1) 5 1 v n xs) (hg : W.grownBy wa v.ownBlock) : Below (w.heap.size + 1) (w.alloc o) wa :=
  h.grown hg (hszB h) fun q hq => (ho.lt q hq).1
theorem rowB_below {W wq : World} {B n : Nat} {v : Value} {xs : List Value} (h : W.ownsRow B 5 1 v n xs) (hb : Below W.heap.size W wq) : wq.ownsRow B 5 1 v n xs := by
  refine ⟨h.1, ?_⟩
  rcases h.2 with h2 | ⟨g, cap, cur, hv, hbg, hg, r⟩
  · exact .inl h2
  · have hlt : g < W.heap.size := by obtain ⟨hlt, _⟩ := Array.getElem?_eq_some_iff.1 hg; exact hlt
    exact .inr ⟨g, cap, cur, hv, hbg, (hb.block g hlt).trans hg, r⟩
theorem own8a (w : World) (o : Obj) (x : Value) : ((w.alloc o).alloc (.cells #[x] 5)).drew.ownsRow (w.heap.size + 1) 5 1 (.slice (some ⟨w.heap.size + 1, 0, none⟩) 1 1) 1 [x] := by
  have h := World.ownsRow_lit (base := w.heap.size + 1) (size := 1) (e := 5) (w.alloc o) #[x] 1 (by simp) (by unfold maxLen; omega) rfl
  rw [World.size_alloc] at h
  exact h
theorem own8b {B : Nat} {w : World} {x : Value} (hB : B ≤ w.heap.size) : (w.alloc (.cells #[x] 5)).ownsRow B 5 1 (.slice (some ⟨w.heap.size, 0, none⟩) 1 1) 1 [x] := World.ownsRow_lit w #[x] 1 hB (by unfold maxLen; omega) rfl
theorem newsB {W : World} {B n g cap : Nat} {xs : List Value} (h : W.ownsRow B 5 1 (.slice (some ⟨g, 0, none⟩) n cap) n xs) : ∀ j u, xs[j]? = some u → W.cell? ((⟨g, 0, none⟩ : Addr).add j) = some u := h.cells rfl
theorem newsB_alloc {W : World} {B n g cap : Nat} {xs : List Value} {o : Obj} (h : W.ownsRow B 5 1 (.slice (some ⟨g, 0, none⟩) n cap) n xs) : ∀ j u, xs[j]? = some u → (W.alloc o).cell? ((⟨g, 0, none⟩ : Addr).add j) = some u := (h.alloc o).cells rfl
theorem cellsq2 {w W wq : World} {o : Obj} {B i j : Nat} {x y : Value} (h : Below (w.heap.size + 1) (w.alloc o) W ∧ W.cell? ⟨B, i, none⟩ = some x ∧ W.cell? ⟨B, j, none⟩ = some y) (hq : Below W.heap.size W wq) :
    Below (w.heap.size + 1) (w.alloc o) wq ∧ wq.cell? ⟨B, i, none⟩ = some x ∧ wq.cell? ⟨B, j, none⟩ = some y := ⟨belB h.1 hq, cell_below h.2.1 hq, cell_below h.2.2 hq⟩
theorem cellsg {w W wa : World} {o : Obj} {i j : Nat} {x y v : Value} {n : Nat} {xs : List Value} (h : Below (w.heap.size + 1) (w.alloc o) W ∧ W.cell? ⟨w.heap.size, i, none⟩ = some x ∧ W.cell? ⟨w.heap.size, j, none⟩ = some y) (ho : W.ownsRow (w.heap.size + 1) 5 1 v n xs) (hg : W.grownBy wa v.ownBlock) :
    Below (w.heap.size + 1) (w.alloc o) wa ∧ wa.cell? ⟨w.heap.size, i, none⟩ = some x ∧ wa.cell? ⟨w.heap.size, j, none⟩ = some y := by
  have hb := hg.block w.heap.size (by have := hszB h.1; omega) (fun e => by have := (ho.lt _ e.symm).1; omega)
  exact ⟨grB h.1 ho hg, (World.cell?_of_block (w := W) (a := ⟨w.heap.size, i, none⟩) hb).trans h.2.1, (World.cell?_of_block (w := W) (a := ⟨w.heap.size, j, none⟩) hb).trans h.2.2⟩
theorem rowB_down {w : World} {B B' : Nat} {v : Value} {n : Nat} {xs : List Value} (h : w.ownsRow B 5 1 v n xs) (hb : B' ≤ B) : w.ownsRow B' 5 1 v n xs := by
  refine ⟨h.1, ?_⟩
  rcases h.2 with h2 | ⟨g, cap, cur, hv, hg, r⟩
  · exact .inl h2
  · exact .inr ⟨g, cap, cur, hv, by omega, r⟩
theorem cellsq3 {w W wq : World} {o : Obj} {A B C i j l : Nat} {x y z : Value} (h : Below (w.heap.size + 1) (w.alloc o) W ∧ W.cell? ⟨A, i, none⟩ = some x ∧ W.cell? ⟨B, j, none⟩ = some y ∧ W.cell? ⟨C, l, none⟩ = some z) (hq : Below W.heap.size W wq) :
    Below (w.heap.size + 1) (w.alloc o) wq ∧ wq.cell? ⟨A, i, none⟩ = some x ∧ wq.cell? ⟨B, j, none⟩ = some y ∧ wq.cell? ⟨C, l, none⟩ = some z := ⟨belB h.1 hq, cell_below h.2.1 hq, cell_below h.2.2.1 hq, cell_below h.2.2.2 hq⟩
theorem cellsg3 {w W wa : World} {o : Obj} {b i j l : Nat} {x y z v : Value} {n : Nat} {xs : List Value} (hbb : b < w.heap.size) (h : Below (w.heap.size + 1) (w.alloc o) W ∧ W.cell? ⟨w.heap.size, i, none⟩ = some x ∧ W.cell? ⟨b, j, none⟩ = some y ∧ W.cell? ⟨b, l, none⟩ = some z) (ho : W.ownsRow (w.heap.size + 1) 5 1 v n xs) (hg : W.grownBy wa v.ownBlock) :
    Below (w.heap.size + 1) (w.alloc o) wa ∧ wa.cell? ⟨w.heap.size, i, none⟩ = some x ∧ wa.cell? ⟨b, j, none⟩ = some y ∧ wa.cell? ⟨b, l, none⟩ = some z := by
  have hb := hg.block w.heap.size (by have := hszB h.1; omega) (fun e => by have := (ho.lt _ e.symm).1; omega)
  have hc := hg.block b (by have := hszB h.1; omega) (fun e => by have := (ho.lt _ e.symm).1; omega)
  exact ⟨grB h.1 ho hg, (World.cell?_of_block (w := W) (a := ⟨w.heap.size, i, none⟩) hb).trans h.2.1, (World.cell?_of_block (w := W) (a := ⟨b, j, none⟩) hc).trans h.2.2.1, (World.cell?_of_block (w := W) (a := ⟨b, l, none⟩) hc).trans h.2.2.2⟩
theorem newsOne {wr wq : World} {x : Value} (hbq : Below (wr.alloc (.cells #[x] 5)).drew.heap.size (wr.alloc (.cells #[x] 5)).drew wq) : ∀ j u, [x][j]? = some u → wq.cell? ((⟨wr.heap.size, 0, none⟩ : Addr).add j) = some u := by
  intro j u hj
  have h := cell_one_new wr x 5 j u hj
  rw [WideShapes.add_plain] at h ⊢
  exact cell_below (w := (wr.alloc (.cells #[x] 5)).drew) h hbq
/-- The bytes of the call's answer are still there behind an append to an earlier row. -/
theorem keptQ {wr W wa : World} {B Bq n nq gq cq : Nat} {v : Value} {xs ys : List Value} (ho : wr.ownsRow B 5 1 v n xs) (hq : W.ownsRow Bq 5 1 (.slice (some ⟨gq, 0, none⟩) nq cq) nq ys) (hgq : Bq ≤ gq) (hB : wr.heap.size ≤ Bq) (hg : W.grownBy wa v.ownBlock) : wa.ownsRow Bq 5 1 (.slice (some ⟨gq, 0, none⟩) nq cq) nq ys := by
  refine hq.kept hg (.inr fun e => ?_)
  have := (ho.lt gq (by rw [← e]; rfl)).2
  omega
theorem nb_bl4 (x : Int) : (bl (nb x 4)).length = 4 := by rw [bl_len, nb_len]
theorem nb_bl2 (x : Int) : (bl (nb x 2)).length = 2 := by rw [bl_len, nb_len]
theorem byt_small {x : Int} (h0 : 0 ≤ x) (h1 : x ≤ 255) : nb x 1 = [x] := by simp only [nb, byt]; congr 1; simp; omega

set_option maxHeartbeats 4000000 in
theorem specPk_any (idn lsn : Int) (n : Nat) (K V : Nat → Int) (pa : Option Addr) (pcap : Nat) (w : World) (g : GoodP idn lsn n K V) (h : CellsAt w pa n K V) :
    Calls Try.prog 100 #[.agg #[.int .i64 idn, .int .i64 lsn, (.slice pa n pcap)]] w fun e w' => ∃ v, e = .returned v ∧ Below w.heap.size w w' ∧ w'.ownsRow w.heap.size 5 1 v (pgb idn lsn n K V).length (bl (pgb idn lsn n K V)) := by
  have HG : Hid (GoodP idn lsn n K V) := g
  obtain ⟨hi1a, hi1b⟩ := inB_iff.1 g.gid
  obtain ⟨hi2a, hi2b⟩ := inB_iff.1 g.glsn
  have hn12 := g.gn
  have hb0 : Below (w.heap.size + 1) (w.alloc (.cells #[.int .i64 idn, .int .i64 lsn, (.slice pa n pcap)] 67)) (w.alloc (.cells #[.int .i64 idn, .int .i64 lsn, (.slice pa n pcap)] 67)).drew := (Below.refl _ _).drew
  have hw8 : IntKind.u8.wrap idn = idn := by rw [IntKind.wrap_u8]; omega
  have HA : Hid (CellsAt w pa n K V) := h
  obtain ⟨i0, hi, hz0, hz1, hz2⟩ := info_parts info5
  have HI : Hid (Try.prog.info? 5 = some i0 ∧ i0.zero = some (.int .u8 0) ∧ i0.size = 1 ∧ i0.bytes = 1) := ⟨hi, hz0, hz1, hz2⟩
  clear hi hz0 hz1 hz2 g h
  go_enter Try.func100, Try.ntmps100
  go_wp2
  have hold0 : Below (w.heap.size + 1) (w.alloc (.cells #[.int .i64 idn, .int .i64 lsn, (.slice pa n pcap)] 67)) (w.alloc (.cells #[.int .i64 idn, .int .i64 lsn, (.slice pa n pcap)] 67)).drew ∧ (w.alloc (.cells #[.int .i64 idn, .int .i64 lsn, (.slice pa n pcap)] 67)).drew.cell? ⟨w.heap.size, 0, none⟩ = some (.int .i64 idn) ∧ (w.alloc (.cells #[.int .i64 idn, .int .i64 lsn, (.slice pa n pcap)] 67)).drew.cell? ⟨w.heap.size, 1, none⟩ = some (.int .i64 lsn) := ⟨hb0, by simp, by simp⟩
  go_region_held3 (fun w' => Below (w.heap.size + 1) (w.alloc (.cells #[.int .i64 idn, .int .i64 lsn, (.slice pa n pcap)] 67)) w' ∧ w'.cell? ⟨w.heap.size, 0, none⟩ = some (.int .i64 idn) ∧ w'.cell? ⟨w.heap.size, 1, none⟩ = some (.int .i64 lsn)) (first | assumption | (obtain ⟨hKa, hKb, hKc⟩ := ‹Below (w.heap.size + 1) _ _ ∧ _ ∧ _›; exact ⟨by first | exact keepB hKa | exact keepB' hKa, by go_keep, by go_keep⟩))
    (first | (go_at_call 120; refine (l1Bytes_any lsn 4 _ (by decide) hi2a hi2b).mono ?_; rintro e wq ⟨vq, rfl, hbq, hoq, hneq⟩; obtain ⟨gq, cq, rfl, hgq⟩ := formB hoq hneq; have HX := (‹Below (w.heap.size + 1) _ _ ∧ _ ∧ _›); have hC := cellsq2 HX hbq; clear HX) | (have HX := (‹Below (w.heap.size + 1) _ _ ∧ _ ∧ _›); refine step_appB _ rfl (.tmp 8) (.tmp 11) rfl (w.heap.size + 1) _ 1 [(.int .u8 idn)] rfl (rowB_below (own8a w _ _) hbq) ⟨gq, 0, none⟩ 4 cq (bl (nb lsn 4)) rfl (nb_bl4 _) (newsB hoq) (bl_one _) (by decide) (hszB HX.1) ?_; intro v12 w12 ho12 hg12; have hS12 := grB HX.1 (rowB_below (own8a w _ _) hbq) hg12; have hD12 := cellsg HX (rowB_below (own8a w _ _) hbq) hg12) | (have HX := (‹Below (w.heap.size + 1) _ _ ∧ _ ∧ _›); refine step_appB _ rfl (.tmp 8) (.tmp 11) rfl (w.heap.size + 1) _ 1 [(.int .u8 idn)] rfl (own8b (hszB hC.1)) ⟨gq, 0, none⟩ 4 cq (bl (nb lsn 4)) rfl (nb_bl4 _) (newsB_alloc hoq) (bl_one _) (by decide) (hszB HX.1) ?_; intro v12 w12 ho12 hg12; have hS12 := grB HX.1 (own8b (hszB hC.1)) hg12; have hD12 := cellsg HX (own8b (hszB hC.1)) hg12))
  all_goals
    have PS12 : Hid (Below (w.heap.size + 1) (w.alloc (.cells #[.int .i64 idn, .int .i64 lsn, (.slice pa n pcap)] 67)) w12 ∧ w12.ownsRow (w.heap.size + 1) 5 1 v12 (nb idn 1 ++ nb lsn 4).length (bl (nb idn 1 ++ nb lsn 4))) := by
      refine ⟨hD12.1, ?_⟩
      rw [byt_small hi1a (by omega), List.length_append, nb_len, bl_app]
      exact ho12
    have k2 : w12.cell? ⟨w.heap.size, 2, none⟩ = some (.slice pa n pcap) := by rw [PS12.out.1.cell (p := ⟨w.heap.size, 2, none⟩) (by simp)]; simp
    have m2 := fun o : Obj => cell_alloc k2 o
    have hwn : IntKind.u8.wrap (n : Int) = (n : Int) := by rw [IntKind.wrap_u8]; omega
    have HSZ : Hid ((w.heap.size + 1) ≤ w12.heap.size) := hszB PS12.out.1
    have HLN : Hid ((nb idn 1 ++ nb lsn 4).length = 5) := by show (nb idn 1 ++ nb lsn 4).length = 5; simp [nb_len]
    clear ho12 hg12 hS12 hD12
    go_wp2_with (at_builtin; refine wpList_append_own _ rfl (.tmp 13) (.tmp 18) 27 rfl (w.heap.size + 1) 5 i0 (.int .u8 0) 1 1 Try.underlying27 HI.out.1 HI.out.2.1 HI.out.2.2.1 HI.out.2.2.2 rfl (by decide) _ _ _ rfl (PS12.out.2.alloc _) ⟨w12.heap.size, 0, none⟩ 1 1 [.int .u8 (n : Int)] rfl rfl (cell_one_new _ _ _) (one_u8 _) ?c3 ?c4 ?c5 ?_)
    case c3 => rw [HLN.out]; unfold maxLen; omega
    case c4 => rw [HLN.out]; omega
    case c5 => have := HSZ.out; simp; omega
    intro v19 w19 ho19 hg19 _
    have HR19 := app_byte PS12.out.1 HSZ.out PS12.out.2 ho19 hg19
    have PS19 : Hid (Below (w.heap.size + 1) (w.alloc (.cells #[.int .i64 idn, .int .i64 lsn, (.slice pa n pcap)] 67)) w19 ∧ w19.ownsRow (w.heap.size + 1) 5 1 v19 (hd idn lsn n ++ cb K V 0).length (bl (hd idn lsn n ++ cb K V 0))) := by
      refine ⟨HR19.2, ?_⟩
      rw [cb, List.append_nil, hd, byt_small (x := (n : Int)) (by omega) (by omega)]
      exact HR19.1
    clear ho19 hg19 HR19 PS12 HSZ HLN k2 m2
    obtain ⟨a19, cap19, rfl, -⟩ := slice_of_own PS19.out.2
    go_wp2
    go_loopw [3, 4] (fun v i wr => ∃ k a cap, k ≤ n ∧ i = .int .i64 (k : Nat) ∧ v = .slice a (hd idn lsn n ++ cb K V k).length cap ∧ Hid (Below (w.heap.size + 1) (w.alloc (.cells #[.int .i64 idn, .int .i64 lsn, (.slice pa n pcap)] 67)) wr ∧ wr.ownsRow (w.heap.size + 1) 5 1 (.slice a (hd idn lsn n ++ cb K V k).length cap) (hd idn lsn n ++ cb K V k).length (bl (hd idn lsn n ++ cb K V k)))) (fun _ i _ => n - (intOf i).toNat)
    case atStart => exact ⟨0, a19, cap19, Nat.zero_le _, rfl, rfl, PS19⟩
    case round =>
      clear PS19
      obtain ⟨k, a, cap, hk0, rfl, rfl, PSr⟩ := hrel
      have k2 : wr.cell? ⟨w.heap.size, 2, none⟩ = some (.slice pa n pcap) := by rw [PSr.out.1.cell (p := ⟨w.heap.size, 2, none⟩) (by simp)]; simp
      by_cases hlt : k < n
      · rcases HA.out with h | ⟨b, off, rfl, hbl, hck, hcv⟩
        · omega
        have HBB : Hid (b < w.heap.size) := hbl
        have h1 : wr.cell? ⟨b, off + k * 2, none⟩ = some (.int .i64 (K k)) := by
          rw [PSr.out.1.cell (p := ⟨b, off + k * 2, none⟩) (by have := HBB.out; show b < (w.heap.size + 1); omega)]
          exact cell_alloc (hck k hlt) _
        have h2 : wr.cell? ⟨b, off + k * 2 + 1, none⟩ = some (.int .i64 (V k)) := by
          rw [PSr.out.1.cell (p := ⟨b, off + k * 2 + 1, none⟩) (by have := HBB.out; show b < (w.heap.size + 1); omega)]
          exact cell_alloc (hcv k hlt) _
        clear hck hcv hbl
        have hlt' : (k : Int) < (n : Int) := by omega
        have hkb := HG.out.gkey k hlt
        have hwk : IntKind.u8.wrap (K k) = K k := by rw [IntKind.wrap_u8]; omega
        have HKB : Hid (0 ≤ K k ∧ K k ≤ 255) := ⟨hkb.1, by omega⟩
        have HVB : Hid (0 ≤ V k ∧ V k ≤ 1000000) := by have := HG.out.gval k hlt; exact ⟨this.1, by omega⟩
        have HZL : Hid ((hd idn lsn n ++ cb K V k).length ≤ 1000) := by show (hd idn lsn n ++ cb K V k).length ≤ 1000; rw [List.length_append, hd_len, cb_len]; omega
        have HCB : Hid (hd idn lsn n ++ cb K V (k + 1) = hd idn lsn n ++ cb K V k ++ [K k] ++ nb (V k) 2) := by
          show hd idn lsn n ++ cb K V (k + 1) = _
          rw [cb, byt_small HKB.out.1 HKB.out.2]; simp [List.append_assoc]
        clear hkb
        generalize hd idn lsn n ++ cb K V k = Z at *
        have HO : Hid (wr.ownsRow (w.heap.size + 1) 5 1 (.slice a Z.length cap) Z.length (bl Z)) := PSr.out.2
        have HL1 : Hid (Z.length + 1 ≤ 100000) := by have := HZL.out; show Z.length + 1 ≤ 100000; omega
        have HL2 : Hid (Z.length + 1 + 2 ≤ 100000) := by have := HZL.out; show Z.length + 1 + 2 ≤ 100000; omega
        have HQ1 : Hid (wr.heap.size ≤ (wr.alloc (.cells #[.int .u8 (K k)] 5)).drew.heap.size) := by show wr.heap.size ≤ (wr.alloc (.cells #[.int .u8 (K k)] 5)).heap.size; rw [World.size_alloc]; omega
        have hold1 : Below (w.heap.size + 1) (w.alloc (.cells #[.int .i64 idn, .int .i64 lsn, (.slice (some ⟨b, off, none⟩) n pcap)] 67)) wr.drew ∧ wr.drew.cell? ⟨w.heap.size, 2, none⟩ = some (.slice (some ⟨b, off, none⟩) n pcap) ∧ wr.drew.cell? ⟨b, off + k * 2, none⟩ = some (.int .i64 (K k)) ∧ wr.drew.cell? ⟨b, off + k * 2 + 1, none⟩ = some (.int .i64 (V k)) := ⟨PSr.out.1.drew, k2, h1, h2⟩
        go_wp2
        go_region_held3 (fun w' => Below (w.heap.size + 1) (w.alloc (.cells #[.int .i64 idn, .int .i64 lsn, (.slice (some ⟨b, off, none⟩) n pcap)] 67)) w' ∧ w'.cell? ⟨w.heap.size, 2, none⟩ = some (.slice (some ⟨b, off, none⟩) n pcap) ∧ w'.cell? ⟨b, off + k * 2, none⟩ = some (.int .i64 (K k)) ∧ w'.cell? ⟨b, off + k * 2 + 1, none⟩ = some (.int .i64 (V k))) (first | assumption | (obtain ⟨hKa, hKb, hKc, hKd⟩ := (‹Below (w.heap.size + 1) _ _ ∧ _ ∧ _ ∧ _›); exact ⟨by first | exact keepB hKa | exact keepB' hKa, by go_keep, by go_keep, by go_keep⟩))
          (first | (go_at_call 120; have hk36 := ho36; have HX := (‹Below (w.heap.size + 1) _ _ ∧ _ ∧ _ ∧ _›); refine (l1Bytes_any (V k) 2 _ (by decide) HVB.out.1 HVB.out.2).mono ?_; rintro e wq ⟨vq, rfl, hbq, hoq, hneq⟩; obtain ⟨gq, cq, rfl, hgq⟩ := formB hoq hneq; have hC := cellsq3 HX hbq; clear HX; have hoA := rowB_below hk36 hbq) | (go_at_call 120; have HX := (‹Below (w.heap.size + 1) _ _ ∧ _ ∧ _ ∧ _›); refine (l1Bytes_any (V k) 2 _ (by decide) HVB.out.1 HVB.out.2).mono ?_; rintro e wq ⟨vq, rfl, hbq, hoq, hneq⟩; obtain ⟨gq, cq, rfl, hgq⟩ := formB hoq hneq; have hC := cellsq3 HX hbq; clear HX; skip) | (have HX := (‹Below (w.heap.size + 1) _ _ ∧ _ ∧ _ ∧ _›); refine step_appB _ rfl (.tmp 27) (.tmp 35) rfl (w.heap.size + 1) (.slice a Z.length cap) Z.length (bl Z) rfl (HO.out.alloc _) ⟨wr.heap.size, 0, none⟩ 1 1 [(.int .u8 (K k))] rfl rfl (cell_one_new _ _ _) (one_u8 _) HL1.out (hszB HX.1) ?_; intro v36 w36 ho36 hg36; have hD36 := cellsg3 HBB.out HX (HO.out.alloc _) hg36) | (have HX := (‹Below (w.heap.size + 1) _ _ ∧ _ ∧ _ ∧ _›); refine step_appB _ rfl (.tmp 27) (.tmp 35) rfl (w.heap.size + 1) (.slice a Z.length cap) Z.length (bl Z) rfl (rowB_below (HO.out.alloc _) hbq) ⟨wr.heap.size, 0, none⟩ 1 1 [(.int .u8 (K k))] rfl rfl (newsOne hbq) (one_u8 _) HL1.out (hszB HX.1) ?_; intro v36 w36 ho36 hg36; have hD36 := cellsg3 HBB.out HX (rowB_below (HO.out.alloc _) hbq) hg36; have hoqk := keptQ HO.out hoq hgq.1 HQ1.out hg36) | (have HX := (‹Below (w.heap.size + 1) _ _ ∧ _ ∧ _ ∧ _›); refine step_appB _ rfl (.tmp 27) (.tmp 35) rfl (w.heap.size + 1) (.slice a Z.length cap) Z.length (bl Z) rfl ((rowB_below HO.out hbq).alloc _) ⟨wq.heap.size, 0, none⟩ 1 1 [(.int .u8 (K k))] rfl rfl (cell_one_new _ _ _) (one_u8 _) HL1.out (hszB HX.1) ?_; intro v36 w36 ho36 hg36; have hD36 := cellsg3 HBB.out HX ((rowB_below HO.out hbq).alloc _) hg36; have hoqk := keptQ HO.out (hoq.alloc _) hgq.1 (Nat.le_refl _) hg36) | (have HX := (‹Below (w.heap.size + 1) _ _ ∧ _ ∧ _ ∧ _›); refine step_appB _ rfl (.tmp 36) (.tmp 43) rfl (w.heap.size + 1) v36 (Z.length + 1) (bl Z ++ [(.int .u8 (K k))]) rfl hoA ⟨gq, 0, none⟩ 2 cq (bl (nb (V k) 2)) rfl (nb_bl2 _) (newsB hoq) (bl_one _) HL2.out (hszB HX.1) ?_; intro v44 w44 ho44 hg44; have hD44 := cellsg3 HBB.out HX hoA hg44) | (have HX := (‹Below (w.heap.size + 1) _ _ ∧ _ ∧ _ ∧ _›); refine step_appB _ rfl (.tmp 36) (.tmp 43) rfl (w.heap.size + 1) v36 (Z.length + 1) (bl Z ++ [(.int .u8 (K k))]) rfl ho36 ⟨gq, 0, none⟩ 2 cq (bl (nb (V k) 2)) rfl (nb_bl2 _) (newsB hoqk) (bl_one _) HL2.out (hszB HX.1) ?_; intro v44 w44 ho44 hg44; have hD44 := cellsg3 HBB.out HX ho36 hg44))
        all_goals
          have HR : Hid (Below (w.heap.size + 1) (w.alloc (.cells #[.int .i64 idn, .int .i64 lsn, (.slice (some ⟨b, off, none⟩) n pcap)] 67)) w44 ∧ w44.ownsRow (w.heap.size + 1) 5 1 v44 (hd idn lsn n ++ cb K V (k + 1)).length (bl (hd idn lsn n ++ cb K V (k + 1)))) := by
            refine ⟨hD44.1, ?_⟩
            rw [HCB.out, List.length_append, List.length_append, nb_len, bl_app, bl_app]
            exact ho44
          obtain ⟨a44, cap44, rfl, -⟩ := slice_of_own HR.out.2
          clear hold1 hD44 ho44 hg44 h1 h2 k2
          go_wp2
          go_roundw
          case rel => first | exact ⟨k + 1, a44, cap44, hlt, by go_num, rfl, HR⟩ | ((repeat apply Exists.intro); exact ⟨⟨k + 1, a44, cap44, hlt, by go_num, rfl, HR⟩, rfl⟩)
          case measure => simp [intOf]; omega
      · have hkn : k = n := by omega
        have PSb : Hid (Below (w.heap.size + 1) (w.alloc (.cells #[.int .i64 idn, .int .i64 lsn, (.slice pa n pcap)] 67)) wr ∧ wr.ownsRow (w.heap.size + 1) 5 1 (.slice a (bdy idn lsn n K V).length cap) (bdy idn lsn n K V).length (bl (bdy idn lsn n K V))) := by
          have h := PSr.out
          rw [hkn] at h
          exact h
        have HLE : Hid ((hd idn lsn n ++ cb K V k).length = (bdy idn lsn n K V).length) := by show (hd idn lsn n ++ cb K V k).length = (bdy idn lsn n K V).length; rw [hkn, bdy]
        have HBL : Hid ((bdy idn lsn n K V).length ≤ 46) := by show (bdy idn lsn n K V).length ≤ 46; rw [bdy, List.length_append, hd_len, cb_len]; omega
        have HF0 : Hid (fld idn lsn n K V = bdy idn lsn n K V ++ List.replicate (46 - (bdy idn lsn n K V).length) 0) := rfl
        have HFB : Hid (BytL (fld idn lsn n K V)) := fld_byt _ _ _ _ _
        have HPG : Hid (pgb idn lsn n K V = fld idn lsn n K V ++ nb (sm (fld idn lsn n K V)) 2) := rfl
        clear hkn PSr
        rw [HLE.out]
        clear HLE
        generalize fld idn lsn n K V = F at *
        generalize bdy idn lsn n K V = D at *
        go_wp2
        go_loopg [3] (46 - D.length) (fun gk v wr => ∃ m a cap, gk + m = 46 - D.length ∧ v = .slice a (D ++ List.replicate m 0).length cap ∧ Hid (Below (w.heap.size + 1) (w.alloc (.cells #[.int .i64 idn, .int .i64 lsn, (.slice pa n pcap)] 67)) wr ∧ wr.ownsRow (w.heap.size + 1) 5 1 (.slice a (D ++ List.replicate m 0).length cap) (D ++ List.replicate m 0).length (bl (D ++ List.replicate m 0))))
        case atStart => exact ⟨0, a, cap, by omega, by rw [List.replicate_zero, List.append_nil], by rw [List.replicate_zero, List.append_nil]; exact PSb⟩
        case round =>
          clear PSb
          obtain ⟨m, a2, cap2, hgk, rfl, PSr⟩ := hrel
          have HZL : Hid ((D ++ List.replicate m 0).length = D.length + m) := by show (D ++ List.replicate m 0).length = D.length + m; simp
          generalize hZ : D ++ List.replicate m 0 = Z at *
          have HZ : Hid (D ++ List.replicate m 0 = Z) := hZ
          clear hZ
          have HSZ : Hid ((w.heap.size + 1) ≤ wr.heap.size) := hszB PSr.out.1
          by_cases hlt : Z.length < 46
          · have hlt' : (Z.length : Int) < 46 := by omega
            have HGK : Hid (m + 1 + (gk - 1) = 46 - D.length ∧ 0 < gk) := by have := HZL.out; exact ⟨by omega, by omega⟩
            go_wp2_with (at_builtin; refine wpList_append_own _ rfl (.tmp 48) (.tmp 49) 27 rfl (w.heap.size + 1) 5 i0 (.int .u8 0) 1 1 Try.underlying27 HI.out.1 HI.out.2.1 HI.out.2.2.1 HI.out.2.2.2 rfl (by decide) _ _ _ rfl (PSr.out.2.alloc _) ⟨wr.heap.size, 0, none⟩ 1 1 [.int .u8 0] rfl rfl (cell_one_new _ _ _) (one_u8 _) ?c3 ?c4 ?c5 ?_)
            case c3 => unfold maxLen; omega
            case c4 => omega
            case c5 => have := HSZ.out; simp; omega
            intro v50 w50 ho50 hg50 _
            have HR := app_byte PSr.out.1 HSZ.out PSr.out.2 ho50 hg50
            have HR2 : Hid (Below (w.heap.size + 1) (w.alloc (.cells #[.int .i64 idn, .int .i64 lsn, (.slice pa n pcap)] 67)) w50 ∧ w50.ownsRow (w.heap.size + 1) 5 1 v50 (D ++ List.replicate (m + 1) 0).length (bl (D ++ List.replicate (m + 1) 0))) := by
              refine ⟨HR.2, ?_⟩
              rw [List.replicate_succ', ← List.append_assoc, HZ.out]
              exact HR.1
            obtain ⟨a50, cap50, rfl, -⟩ := slice_of_own HR2.out.2
            clear ho50 hg50 HR
            go_wp2
            go_roundg (gk - 1)
            case measure => have := HGK.out.2; omega
            case rel => exact ⟨m + 1, a50, cap50, by have := HGK.out.1; omega, rfl, HR2⟩
          · have hge : ¬ ((Z.length : Int) < 46) := by omega
            have HZF : Hid (Z = F) := by
              have h1 : m = 46 - D.length := by have := HZL.out; omega
              show Z = F
              rw [← HZ.out, h1, HF0.out]
            have HL46 : Hid (Z.length = 46) := by have := HZL.out; have := HBL.out; show Z.length = 46; omega
            have HZB : Hid (BytL Z) := by show BytL Z; rw [HZF.out]; exact HFB.out
            have HSM : Hid (0 ≤ sm Z ∧ sm Z ≤ 65520) := sumB_bd (fun i => Z.getD i 0) Z.length
            clear HZ hgk HZL
            go_wp2_with fail
            refine (specSum_any Z.length (fun i => Z.getD i 0) a2 cap2 wr (by have := HL46.out; omega) (byt_of HZB.out) (bytes_of_own PSr.out.2)).mono ?_
            rintro e wz ⟨rfl, rfl⟩
            go_wp2_with fail
            refine (l1Bytes_any (sm Z) 2 _ (by omega) HSM.out.1 (by have := HSM.out.2; omega)).mono ?_
            rintro e wq ⟨vq, rfl, hbq, hoq, hneq⟩
            obtain ⟨gq, cq, rfl, hgq⟩ := formB hoq hneq
            have HOA : Hid (wq.ownsRow (w.heap.size + 1) 5 1 (.slice a2 Z.length cap2) Z.length (bl Z)) := rowB_below PSr.out.2 hbq
            have HOQ : Hid (∀ j u, (bl (nb (sm Z) 2))[j]? = some u → wq.cell? ((⟨gq, 0, none⟩ : Addr).add j) = some u) := newsB hoq
            have HBQ : Hid (Below (w.heap.size + 1) (w.alloc (.cells #[.int .i64 idn, .int .i64 lsn, (.slice pa n pcap)] 67)) wq) := belB PSr.out.1 hbq
            have HLQ : Hid ((nb (sm Z) 2).length = 2) := nb_len _ _
            rw [HLQ.out]
            clear hoq hneq hgq hbq
            go_wp2_with (at_builtin; refine wpList_append_own _ rfl (.tmp 51) (.tmp 54) 27 rfl (w.heap.size + 1) 5 i0 (.int .u8 0) 1 1 Try.underlying27 HI.out.1 HI.out.2.1 HI.out.2.2.1 HI.out.2.2.2 rfl (by decide) _ _ _ rfl HOA.out ⟨gq, 0, none⟩ 2 cq (bl (nb (sm Z) 2)) rfl ?c1 ?c2 (bl_one _) ?c3 ?c4 ?c5 ?_)
            case c1 => rw [bl_len, HLQ.out]
            case c2 => exact HOQ.out
            case c3 => rw [HL46.out]; unfold maxLen; omega
            case c4 => rw [HL46.out]; omega
            case c5 => exact hszB HBQ.out
            intro v55 w55 ho55 hg55 _
            have HB55 : Hid (Below (w.heap.size + 1) (w.alloc (.cells #[.int .i64 idn, .int .i64 lsn, (.slice pa n pcap)] 67)) w55) := grB HBQ.out HOA.out hg55
            have HO55 : Hid (w55.ownsRow (w.heap.size + 1) 5 1 v55 (pgb idn lsn n K V).length (bl (pgb idn lsn n K V))) := by
              show w55.ownsRow (w.heap.size + 1) 5 1 v55 (pgb idn lsn n K V).length (bl (pgb idn lsn n K V))
              rw [HPG.out, ← HZF.out, List.length_append, bl_app, HLQ.out]
              exact ho55
            have HF55 : Hid (w55.ownsRow w.heap.size 5 1 v55 (pgb idn lsn n K V).length (bl (pgb idn lsn n K V))) := rowB_down HO55.out (by omega)
            have HBF : Hid (Below w.heap.size w w55) := (below_new _ _).trans (HB55.out.mono (by omega))
            clear ho55 hg55
            go_wp2
            go_ret
            exact ⟨v55, rfl, HBF.out, HF55.out⟩
def bk (m : Int) (i : Nat) : Int := (m + i) % 256
def mkb (m : Int) (z : Nat → Int) (j i : Nat) : Int := if i < j then bk m i else z i
def Row1 (w : World) (b off n : Nat) (z : Nat → Int) : Prop := (∀ i, i < n → w.cell? ⟨b, off + i, none⟩ = some (.int .u8 (z i))) ∧ (∀ i, i < n → w.frozen? ⟨b, off + i, none⟩ = false)
theorem row1_step {w : World} {b off n k : Nat} {z : Nat → Int} {m : Int} (hlt : k < n) (h : Row1 w b off n (mkb m z k)) : Row1 (w.setCell ⟨b, off + k, none⟩ (.int .u8 ((m + k) % 256))) b off n (mkb m z (k + 1)) := by
  obtain ⟨hc, hf⟩ := h
  refine ⟨fun i hi => ?_, fun i hi => ?_⟩
  · by_cases e : i = k
    · subst e; rw [setS (hc i hi)]; simp [mkb, bk]
    · rw [setO (by omega), hc i hi]
      have : (i < k + 1) ↔ (i < k) := by omega
      simp only [mkb, this]
  · rw [World.frozen?_setCell]; exact hf i hi
set_option maxHeartbeats 400000 in
theorem markByteS_some (n : Nat) (z : Nat → Int) (b off cap lo hi : Nat) (m : Int) (w : World) (hn : n ≤ 8796093022208) (hm1 : 0 ≤ m) (hm2 : m ≤ 8796093022208) (hlo : lo ≤ b) (hhi : b < hi) (hr : Row1 w b off n z) :
    Calls Try.prog 105 #[.slice (some ⟨b, off, none⟩) n cap, .int .i64 m] w fun e w' =>
      e = .returned (.int .i64 (m + n)) ∧ Writes lo hi w w' ∧ Row1 w' b off n (mkb m z n) := by
  go_enter Try.func105, Try.ntmps105
  go_wp2
  go_loopw [1, 5] (fun q i wr => ∃ k : Nat, k ≤ n ∧ i = .int .i64 k ∧ q = .int .i64 (m + k) ∧ Writes lo hi w wr ∧ Row1 wr b off n (mkb m z k)) (fun _ i _ => n - (intOf i).toNat)
  case atStart => exact ⟨0, Nat.zero_le _, rfl, by go_num, Writes.refl _ _ _, ⟨fun i h => by rw [hr.1 i h]; simp [mkb], hr.2⟩⟩
  case round =>
    obtain ⟨k, hk0, rfl, rfl, hb, hrow⟩ := hrel
    by_cases hlt : k < n
    · have h1 := hrow.1 k hlt
      have h3 := hrow.2 k hlt
      have hw : IntKind.u8.wrap (m + k) = (m + k) % 256 := by rw [IntKind.wrap_u8]
      generalize mkb m z k k = x1 at h1
      have HR : Hid (Row1 wr b off n (mkb m z k)) := hrow
      have HB : Hid (Writes lo hi w wr) := hb
      clear hr hrow hb
      go_wp2
      go_roundw
      case rel => exact ⟨k + 1, hlt, by go_num, by go_num, HB.out.setCell (p := ⟨b, _, none⟩) hlo hhi _, row1_step hlt HR.out⟩
      case measure => simp [intOf]; omega
    · have hkn : k = n := by omega
      have HR : Hid (Row1 wr b off n (mkb m z n)) := by have h := hrow; rw [hkn] at h; exact h
      clear hr hrow
      go_wp2
      go_ret
      exact ⟨ret_int (by rw [hkn]), hb, HR.out⟩
theorem markByteS_zero (a : Option Addr) (cap : Nat) (m : Int) (w : World) : Calls Try.prog 105 #[.slice a 0 cap, .int .i64 m] w fun e w' => e = .returned (.int .i64 m) ∧ w' = w := by
  go_enter Try.func105, Try.ntmps105
  go_wp2
  go_loop [1, 5] (fun q i => q = .int .i64 m ∧ i = .int .i64 0) (fun _ _ => 0)
  case atStart => exact ⟨rfl, rfl⟩
  case round =>
    obtain ⟨rfl, rfl⟩ := hrel
    go_wp2
    go_ret
    exact ⟨rfl, rfl⟩
theorem markByteS_any (n : Nat) (z : Nat → Int) (a : Option Addr) (cap lo hi : Nat) (m : Int) (w : World) (hn : n ≤ 8796093022208) (hm1 : 0 ≤ m) (hm2 : m ≤ 8796093022208) (h : OwnB w lo hi a n z) :
    Calls Try.prog 105 #[.slice a n cap, .int .i64 m] w fun e w' => e = .returned (.int .i64 (m + n)) ∧ Writes lo hi w w' ∧ OwnB w' lo hi a n (bk m) := by
  obtain ⟨h0, rfl | ⟨b, off, rfl, hlo, hhi, hr⟩⟩ := h
  · refine (markByteS_zero a cap m w).mono ?_
    rintro e w' ⟨rfl, rfl⟩
    exact ⟨ret_int (by omega), Writes.refl _ _ _, h0, .inl rfl⟩
  · refine (markByteS_some n z b off cap lo hi m w hn hm1 hm2 hlo hhi hr).mono ?_
    rintro e w' ⟨rfl, hw, h1, h2⟩
    exact ⟨rfl, hw, Nat.le_trans h0 hw.size, .inr ⟨b, off, rfl, hlo, hhi, fun i hi => by rw [h1 i hi]; simp [mkb, hi], h2⟩⟩
set_option maxHeartbeats 400000 in
theorem heldByteS_some (n b off cap : Nat) (m : Int) (w : World) (hn : n ≤ 8796093022208) (hm1 : 0 ≤ m) (hm2 : m ≤ 8796093022208) (hc : ∀ i, i < n → w.cell? ⟨b, off + i, none⟩ = some (.int .u8 (bk m i))) :
    Calls Try.prog 109 #[.slice (some ⟨b, off, none⟩) n cap, .int .i64 m] w fun e w' => e = .returned (.int .i64 (m + n)) ∧ w' = w := by
  go_enter Try.func109, Try.ntmps109
  go_wp2
  go_loop [1, 5] (fun q i => ∃ k : Nat, k ≤ n ∧ i = .int .i64 k ∧ q = .int .i64 (m + k)) (fun _ i => n - (intOf i).toNat)
  case atStart => exact ⟨0, Nat.zero_le _, rfl, by go_num⟩
  case round =>
    obtain ⟨k, hk0, rfl, rfl⟩ := hrel
    by_cases hlt : k < n
    · have h1 : w.cell? ⟨b, off + k, none⟩ = some (.int .u8 ((m + k) % 256)) := hc k hlt
      have hw : IntKind.u8.wrap (m + k) = (m + k) % 256 := by rw [IntKind.wrap_u8]
      clear hc
      go_wp2
      go_round
      case rel => exact ⟨k + 1, hlt, by go_num, by go_num⟩
      case measure => simp [intOf]; omega
    · have hkn : k = n := by omega
      clear hc
      go_wp2
      go_ret
      exact ⟨rfl, rfl⟩
theorem heldByteS_zero (a : Option Addr) (cap : Nat) (m : Int) (w : World) : Calls Try.prog 109 #[.slice a 0 cap, .int .i64 m] w fun e w' => e = .returned (.int .i64 m) ∧ w' = w := by
  go_enter Try.func109, Try.ntmps109
  go_wp2
  go_loop [1, 5] (fun q i => q = .int .i64 m ∧ i = .int .i64 0) (fun _ _ => 0)
  case atStart => exact ⟨rfl, rfl⟩
  case round =>
    obtain ⟨rfl, rfl⟩ := hrel
    go_wp2
    go_ret
    exact ⟨rfl, rfl⟩
theorem heldByteS_any (n : Nat) (a : Option Addr) (cap : Nat) (m : Int) (w : World) (hn : n ≤ 8796093022208) (hm1 : 0 ≤ m) (hm2 : m ≤ 8796093022208) (h : BytesAt w a n (bk m)) :
    Calls Try.prog 109 #[.slice a n cap, .int .i64 m] w fun e w' => e = .returned (.int .i64 (m + n)) ∧ w' = w := by
  rcases h with rfl | ⟨b, off, rfl, _, hc⟩
  · refine (heldByteS_zero a cap m w).mono ?_
    rintro e w' ⟨rfl, rfl⟩
    exact ⟨ret_int (by omega), rfl⟩
  · exact heldByteS_some n b off cap m w hn hm1 hm2 hc
theorem eqByteS_zero (a a' : Option Addr) (cap cap' : Nat) (w : World) : Calls Try.prog 67 #[.slice a 0 cap, .slice a' 0 cap'] w fun e w' => e = .returned (.bool true) ∧ w' = w := by
  go_enter Try.func67, Try.ntmps67
  go_wp2
  go_loop [5] (fun i => i = .int .i64 0) (fun _ => 0)
  case atStart => exact rfl
  case round =>
    obtain rfl := hrel
    go_wp2
    go_ret
    exact ⟨rfl, rfl⟩
theorem eqByteS_any (n : Nat) (z : Nat → Int) (a a' : Option Addr) (cap cap' : Nat) (w : World) (hn : n ≤ 8796093022208) (h : BytesAt w a n z) (h' : BytesAt w a' n z) :
    Calls Try.prog 67 #[.slice a n cap, .slice a' n cap'] w fun e w' => e = .returned (.bool true) ∧ Below w.heap.size w w' := by
  have z0 : ∀ (e : Ending) (w' : World), (e = .returned (.bool true) ∧ w' = w) → e = .returned (.bool true) ∧ Below w.heap.size w w' := by
    rintro e w' ⟨rfl, rfl⟩
    exact ⟨rfl, Below.refl _ _⟩
  rcases h with rfl | ⟨b, off, rfl, _, hc⟩
  · exact (eqByteS_zero a a' cap cap' w).mono z0
  · rcases h' with rfl | ⟨b', off', rfl, _, hc'⟩
    · exact (eqByteS_zero _ a' cap cap' w).mono z0
    · refine (eqByteS_same n z b off cap b' off' cap' w (by omega) hc hc').mono ?_
      rintro e w' ⟨rfl, m, rfl⟩
      exact ⟨rfl, below_drewN (Below.refl _ _) _⟩
/-- The number of m bytes from the i-th on, the highest first. -/
def num (z : Nat → Int) (i : Nat) : Nat → Int
  | 0 => 0
  | m + 1 => num z i m * 256 + z (i + m)
theorem num_bd (z : Nat → Int) (i : Nat) : ∀ m, (∀ j, j < m → 0 ≤ z (i + j) ∧ z (i + j) ≤ 255) → 0 ≤ num z i m ∧ num z i m < 256 ^ m
  | 0, _ => by simp [num]
  | m + 1, h => by
    have ih := num_bd z i m fun j hj => h j (by omega)
    have hm := h m (by omega)
    simp only [num, Int.pow_succ]
    omega
theorem or8 (x y : Int) (h0 : 0 ≤ x) (h1 : x ≤ 16777215) (h2 : 0 ≤ y) (h3 : y ≤ 255) : bits .or .u64 (x * 256) y = x * 256 + y :=
  bits_join .u64 40 (by decide) (fun n a c => by rw [IntKind.wrap_u64]; omega) 8 (x * 256) y (by omega) (by omega) (by omega) h2 (by omega) (by omega)
set_option maxHeartbeats 400000 in
theorem readNumber_some (m : Nat) (z : Nat → Int) (b off cap : Nat) (w : World) (hm : m ≤ 4) (hz : ∀ j, j < m → 0 ≤ z j ∧ z j ≤ 255) (hc : ∀ i, i < m → w.cell? ⟨b, off + i, none⟩ = some (.int .u8 (z i))) :
    Calls Try.prog 127 #[.slice (some ⟨b, off, none⟩) m cap] w fun e w' => e = .returned (.int .i64 (num z 0 m)) ∧ w' = w := by
  go_enter Try.func127, Try.ntmps127
  go_wp2
  go_loop [3, 5, 8] (fun h _ i => ∃ k : Nat, k ≤ m ∧ i = .int .i64 k ∧ h = .int .u64 (num z 0 k)) (fun _ _ i => m - (intOf i).toNat)
  case atStart => exact ⟨0, Nat.zero_le _, rfl, rfl⟩
  case round =>
    obtain ⟨k, hk, rfl, rfl⟩ := hrel
    by_cases hlt : k < m
    · have hcell := hc k hlt
      obtain ⟨hz1, hz2⟩ := hz k hlt
      have hb := num_bd z 0 k (fun j hj => by rw [Nat.zero_add]; exact hz j (by omega))
      have hb2 : num z 0 k ≤ 16777215 := by
        have h3 : k = 0 ∨ k = 1 ∨ k = 2 ∨ k = 3 := by omega
        rcases h3 with rfl | rfl | rfl | rfl <;> simp at hb <;> omega
      obtain ⟨hb1, -⟩ := hb
      have HO : Hid (bits .or .u64 (num z 0 k * 256) (z k) = num z 0 k * 256 + z k) := or8 _ _ hb1 hb2 hz1 hz2
      clear hc hz
      go_wp2
      go_round
      case rel => exact ⟨k + 1, hlt, by go_num, by rw [HO.out]; simp [num]⟩
      case measure => simp [intOf]; omega
    · have hkn : k = m := by omega
      have HB : Hid (wrap64 (num z 0 m) = num z 0 m) := by
        have hb := num_bd z 0 m (fun j hj => by rw [Nat.zero_add]; exact hz j (by omega))
        show wrap64 (num z 0 m) = num z 0 m
        unfold wrap64
        have h3 : m = 0 ∨ m = 1 ∨ m = 2 ∨ m = 3 ∨ m = 4 := by omega
        rcases h3 with rfl | rfl | rfl | rfl | rfl <;> simp at hb <;> omega
      clear hc hz
      go_wp2
      go_ret
      exact ⟨ret_int HB.out, rfl⟩
set_option maxHeartbeats 400000 in
theorem l1Take_some (n i m : Nat) (z : Nat → Int) (b off cap : Nat) (w : World) (hm : m ≤ 4) (him : i + m ≤ n) (hn : n ≤ 1000) (hz : Byt n z) (hc : ∀ i, i < n → w.cell? ⟨b, off + i, none⟩ = some (.int .u8 (z i))) :
    Calls Try.prog 112 #[.slice (some ⟨b, off, none⟩) n cap, .int .i64 i, .int .i64 m] w fun e w' => e = .returned (.int .i64 (num z i m)) ∧ w' = w := by
  go_enter Try.func112, Try.ntmps112
  go_wp2
  go_loop [7, 8] (fun h q => ∃ k : Nat, k ≤ m ∧ q = .int .i64 k ∧ h = .int .i64 (num z i k)) (fun _ q => m - (intOf q).toNat)
  case atStart => exact ⟨0, Nat.zero_le _, rfl, rfl⟩
  case round =>
    obtain ⟨k, hk, rfl, rfl⟩ := hrel
    by_cases hlt : k < m
    · have hcell := hc (i + k) (by omega)
      obtain ⟨hz1, hz2⟩ := hz (i + k) (by omega)
      have hb := num_bd z i k (fun j hj => hz (i + j) (by omega))
      have hb2 : num z i k ≤ 16777215 := by
        have h3 : k = 0 ∨ k = 1 ∨ k = 2 ∨ k = 3 := by omega
        rcases h3 with rfl | rfl | rfl | rfl <;> simp at hb <;> omega
      obtain ⟨hb1, -⟩ := hb
      have hik : ((i : Int) + (k : Int)) < (n : Int) := by omega
      have hik2 : ((i : Int) + (k : Int)).toNat = i + k := by omega
      clear hc hz
      go_wp2
      go_round
      case rel => exact ⟨k + 1, hlt, by go_num, by simp [num]⟩
      case measure => simp [intOf]; omega
    · have hkn : k = m := by omega
      clear hc hz
      go_wp2
      go_ret
      exact ⟨rfl, rfl⟩
/-! ### bytes as a string -/
theorem str_inj {xs ys : List Int} (hx : ∀ z ∈ xs, 0 ≤ z ∧ z ≤ 255) (hy : ∀ z ∈ ys, 0 ≤ z ∧ z ≤ 255) (h : (strOfNums xs).toList = (strOfNums ys).toList) : xs = ys := by
  have e1 : ∀ (l : List Int), (strOfNums l).data.toList = l.map fun n => UInt8.ofNat n.toNat := fun l => by simp [strOfNums]
  have e2 : ∀ (s : ByteArray), s.toList = s.data.toList := fun s => by exact ByteArray.toList_eq _
  rw [e2, e2, e1, e1] at h
  have back : ∀ (l : List Int), (∀ z ∈ l, 0 ≤ z ∧ z ≤ 255) → (l.map fun n => UInt8.ofNat n.toNat).map (fun b => (b.toNat : Int)) = l := fun l hl => by
    rw [List.map_map]
    conv => rhs; rw [← List.map_id l]
    apply List.map_congr_left
    intro z hz
    have := hl z hz
    simp
    omega
  rw [← back xs hx, h, back ys hy]
theorem equal_some (xs ys : List Int) (b off cap b' off' cap' : Nat) (w : World) (hx : ∀ z ∈ xs, 0 ≤ z ∧ z ≤ 255) (hy : ∀ z ∈ ys, 0 ≤ z ∧ z ≤ 255)
    (hc : ∀ i, i < xs.length → w.cell? ⟨b, off + i, none⟩ = some (.int .u8 (xs.getD i 0))) (hc' : ∀ i, i < ys.length → w.cell? ⟨b', off' + i, none⟩ = some (.int .u8 (ys.getD i 0))) :
    Calls Try.prog 126 #[.slice (some ⟨b, off, none⟩) xs.length cap, .slice (some ⟨b', off', none⟩) ys.length cap'] w fun e w' => e = .returned (.bool (decide (xs = ys))) ∧ w' = w := by
  have h1 := run_convert_bytes_arg (P := Try.prog) w 27 5 Try.underlying27 Try.underlying5 b off xs.length cap xs rfl hc 9 Try.underlying9
  have h2 := run_convert_bytes_arg (P := Try.prog) w 27 5 Try.underlying27 Try.underlying5 b' off' ys.length cap' ys rfl hc' 9 Try.underlying9
  have HE : Hid (((strOfNums xs).toList == (strOfNums ys).toList) = decide (xs = ys)) := by
    show ((strOfNums xs).toList == (strOfNums ys).toList) = decide (xs = ys)
    by_cases e : xs = ys
    · subst e; simp
    · have : ¬ (strOfNums xs).toList = (strOfNums ys).toList := fun h => e (str_inj hx hy h)
      simp [e, this]
  clear hc hc' hx hy
  go_enter Try.func126, Try.ntmps126
  go_wp2
  go_ret
  exact ⟨ret_bool HE.out, rfl⟩
end Go.Proofs.Ytjggplfhkejbbaa
