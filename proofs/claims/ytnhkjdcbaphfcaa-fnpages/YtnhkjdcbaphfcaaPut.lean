/- The maker of bytes: the walks of its methods. -/
import Derived.Test.YtnhkjdcbaphfcaaByt
import Derived.Test.YtnhkjdcbaphfcaaSum
import Derived.Deep.RegionLaw
namespace Go.Proofs.Ytnhkjdcbaphfcaa
open Go.RowKit Go.Deep
set_option linter.unusedVariables false

/-- The maker's cell holds a slice that owns the bytes zs. -/
def MK (w : World) (C base : Nat) (v : Value) (zs : List Int) : Prop := w.cell? ⟨C, 0, none⟩ = some v ∧ w.frozen? ⟨C, 0, none⟩ = false ∧ w.ownsRow base 5 1 v zs.length (bl zs)
/-- What was there is as it was, but for the maker's cell and its row. -/
structure Upd (C : Nat) (v : Value) (w w' : World) : Prop where
  os : w'.os = w.os
  tape : w'.tape = w.tape
  output : w'.output = w.output
  size : w.heap.size ≤ w'.heap.size
  block : ∀ k, k < w.heap.size → k ≠ C → v.ownBlock ≠ some k → w'.heap[k]? = w.heap[k]?
def Lies (w : World) (v v' : Value) : Prop := v'.ownBlock = v.ownBlock ∨ ∃ g, w.heap.size ≤ g ∧ v'.ownBlock = some g
theorem Upd.refl (C : Nat) (v : Value) (w : World) : Upd C v w w := ⟨rfl, rfl, rfl, Nat.le_refl _, fun _ _ _ _ => rfl⟩
theorem Upd.trans {C : Nat} {v v1 : Value} {w w1 w2 : World} (h : Upd C v w w1) (l : Lies w v v1) (k : Upd C v1 w1 w2) : Upd C v w w2 := by
  refine ⟨k.os.trans h.os, k.tape.trans h.tape, k.output.trans h.output, Nat.le_trans h.size k.size, fun i hi hC hv => ?_⟩
  refine (k.block i (Nat.lt_of_lt_of_le hi h.size) hC ?_).trans (h.block i hi hC hv)
  rcases l with l | ⟨g, hg, l⟩
  · rw [l]; exact hv
  · rw [l]; intro e; simp at e; omega
theorem Lies.trans {w w1 : World} {v v1 v2 : Value} (h : Lies w v v1) (hs : w.heap.size ≤ w1.heap.size) (k : Lies w1 v1 v2) : Lies w v v2 := by
  rcases k with k | ⟨g, hg, k⟩
  · rcases h with h | ⟨g, hg, h⟩
    · exact .inl (k.trans h)
    · exact .inr ⟨g, hg, k.trans h⟩
  · exact .inr ⟨g, by omega, k⟩
theorem slice_of_own {w : World} {base n : Nat} {v : Value} {xs : List Value} (h : w.ownsRow base 5 1 v n xs) : ∃ a cap, v = .slice a n cap ∧ n ≤ cap + 0 := by
  rcases h.2 with ⟨rfl, h0⟩ | ⟨g, cap, cur, rfl, _, _, hnc, _⟩
  · exact ⟨none, 0, by rw [h0], by omega⟩
  · exact ⟨_, cap, rfl, by omega⟩
/-- One byte appended through the maker's cell. -/
theorem mk_step {wr w1 : World} {C base g cap2 : Nat} {v : Value} {Z : List Int} {z : Int} {c : Array Value} (hC : C < base) (hB : base ≤ wr.heap.size) (hm : MK wr C base v Z)
    (h1 : w1.ownsRow base 5 1 (.slice (some ⟨g, 0, none⟩) (Z.length + 1) cap2) (Z.length + 1) (bl Z ++ [.int .u8 z])) (hg : (wr.alloc (.cells c 5)).drew.grownBy w1 v.ownBlock) (hat : v.ownBlock = some g ∨ g = wr.heap.size + 1) :
    MK (w1.setCell ⟨C, 0, none⟩ (.slice (some ⟨g, 0, none⟩) (Z.length + 1) cap2)) C base (.slice (some ⟨g, 0, none⟩) (Z.length + 1) cap2) (Z ++ [z]) ∧ Upd C v wr (w1.setCell ⟨C, 0, none⟩ (.slice (some ⟨g, 0, none⟩) (Z.length + 1) cap2)) ∧ Lies wr v (.slice (some ⟨g, 0, none⟩) (Z.length + 1) cap2) := by
  obtain ⟨m1, m2, m3⟩ := hm
  have hlt : C < (wr.alloc (.cells c 5)).drew.heap.size := by show C < (wr.alloc (.cells c 5)).heap.size; rw [World.size_alloc]; omega
  have hne : some C ≠ v.ownBlock := fun e => by have := (m3.lt C e.symm).1; omega
  have hblk : ∀ k, k < wr.heap.size → v.ownBlock ≠ some k → w1.heap[k]? = wr.heap[k]? := fun k hk hv => by
    rw [hg.block k (by show k < (wr.alloc (.cells c 5)).heap.size; rw [World.size_alloc]; omega) (fun e => hv e.symm)]
    exact Below.heap_alloc _ _ _ hk
  have hcell : w1.cell? ⟨C, 0, none⟩ = some v := (World.cell?_of_block (w := wr) (a := ⟨C, 0, none⟩) (hblk C (by omega) (fun e => hne e.symm))).trans m1
  have hfz : w1.frozen? ⟨C, 0, none⟩ = false := (World.frozen?_of_block (w := wr) (a := ⟨C, 0, none⟩) (hblk C (by omega) (fun e => hne e.symm))).trans m2
  have hsz : wr.heap.size ≤ w1.heap.size := by have := hg.size; simp at this; omega
  refine ⟨⟨?_, ?_, ?_⟩, ⟨?_, ?_, ?_, ?_, ?_⟩, ?_⟩
  · exact World.cell?_setCell_same _ _ _ hcell
  · show (w1.setCell ⟨C, 0, none⟩ _).frozen? ⟨C, 0, none⟩ = false
    rw [World.frozen?_setCell]; exact hfz
  · rw [List.length_append, bl_app]
    exact ownsRow_setCell_below (a := ⟨C, 0, none⟩) h1 hC _
  · exact hg.os
  · exact hg.tape
  · exact hg.output
  · show wr.heap.size ≤ (w1.setCell ⟨C, 0, none⟩ _).heap.size
    simpa [World.setCell] using hsz
  · intro k hk hkC hv
    show (w1.setCell ⟨C, 0, none⟩ _).heap[k]? = _
    rw [Below.heap_setCell _ _ _ _ hkC]
    exact hblk k hk hv
  · rcases hat with h | h
    · exact .inl h.symm
    · exact .inr ⟨g, by omega, rfl⟩
theorem cell_C {wr w1 : World} {C base : Nat} {v : Value} {Z : List Int} {c : Array Value} (hC : C < base) (hB : base ≤ wr.heap.size) (hm : MK wr C base v Z) (hg : (wr.alloc (.cells c 5)).drew.grownBy w1 v.ownBlock) :
    w1.cell? ⟨C, 0, none⟩ = some v ∧ w1.frozen? ⟨C, 0, none⟩ = false := by
  obtain ⟨m1, m2, m3⟩ := hm
  have hne : some C ≠ v.ownBlock := fun e => by have := (m3.lt C e.symm).1; omega
  have hblk : w1.heap[C]? = wr.heap[C]? := by
    rw [hg.block C (by show C < (wr.alloc (.cells c 5)).heap.size; rw [World.size_alloc]; omega) hne]
    exact Below.heap_alloc _ _ _ (by omega)
  exact ⟨(World.cell?_of_block (w := wr) (a := ⟨C, 0, none⟩) hblk).trans m1, (World.frozen?_of_block (w := wr) (a := ⟨C, 0, none⟩) hblk).trans m2⟩

theorem one_u8 (z : Int) : ∀ u ∈ [Value.int .u8 z], u.oneCell' = true := by intro u hu; simp at hu; subst hu; rfl
theorem le_max {n : Nat} (h : n ≤ 1004) : n + 1 ≤ maxLen := by unfold maxLen; omega
theorem le_by {n : Nat} (h : n ≤ 1004) : (n + 1) * 1 ≤ 140737488355328 := by omega
theorem le_al {w : World} {o : Obj} {b : Nat} (h : b ≤ w.heap.size) : b ≤ (w.alloc o).drew.heap.size := by show b ≤ (w.alloc o).heap.size; rw [World.size_alloc]; omega
set_option maxHeartbeats 2000000 in
theorem putNumber_any (C base : Nat) (x : Int) (width : Nat) (v : Value) (zs : List Int) (w : World) (hs : width ≤ 4) (hx : 0 ≤ x) (hx2 : x ≤ 1000000) (hz : zs.length ≤ 1000) (hC : C < base) (hB : base ≤ w.heap.size) (hm : MK w C base v zs) :
    Calls Try.prog 64 #[.pointer (some ⟨C, 0, none⟩), .int .i64 x, .int .i64 width] w fun e w' => e = .returned (.tuple #[]) ∧ ∃ v', MK w' C base v' (zs ++ nb x width) ∧ Upd C v w w' ∧ Lies w v v' := by
  obtain ⟨i0, hi, hz0, hz1, hz2⟩ := info_parts info5
  have HI : Hid (Try.prog.info? 5 = some i0 ∧ i0.zero = some (.int .u8 0) ∧ i0.size = 1 ∧ i0.bytes = 1) := ⟨hi, hz0, hz1, hz2⟩
  have HM0 : Hid (MK w C base v zs) := hm
  have HCB : Hid (C < base ∧ base ≤ w.heap.size) := ⟨hC, hB⟩
  have hwx : IntKind.u64.wrap x = x := by rw [IntKind.wrap_u64]; omega
  clear hi hz0 hz1 hz2 hm hC hB
  go_enter Try.func64, Try.ntmps64
  go_wp2
  go_loopw [7] (fun i wr => ∃ j : Nat, j ≤ width ∧ i = .int .i64 (8 * ((j : Int) - 1)) ∧ ∃ T v', Hid (T ++ nb x j = nb x width) ∧ Hid (MK wr C base v' (zs ++ T)) ∧ Hid (Upd C v w wr) ∧ Hid (Lies w v v')) (fun i _ => (intOf i + 8).toNat)
  case atStart => exact ⟨width, Nat.le_refl _, by go_num, [], v, rfl, by rw [List.append_nil]; exact HM0, Upd.refl _ _ _, .inl rfl⟩
  case round =>
    obtain ⟨j, hj, rfl, T, v', HT, HM, HU, HL⟩ := hrel
    rcases Nat.eq_zero_or_pos j with rfl | hp
    · go_wp2
      go_end0
      refine ⟨rfl, v', ?_, HU.out, HL.out⟩
      have h := HT.out
      rw [nb, List.append_nil] at h
      rw [← h]
      exact HM.out
    · obtain ⟨k, rfl⟩ : ∃ k, j = k + 1 := ⟨j - 1, by omega⟩
      have hk : (k : Int) ≤ 3 := by omega
      obtain ⟨a, cap, rfl, -⟩ := slice_of_own HM.out.2.2
      have hc0 := HM.out.1
      have hc1 : ∀ o : Obj, (wr.alloc o).cell? ⟨C, 0, none⟩ = some (.slice a (zs ++ T).length cap) := fun o => cell_alloc hc0 o
      have HTL : Hid (T.length + (k + 1) = width) := by have := congrArg List.length HT.out; rw [List.length_append, nb_len, nb_len] at this; exact this
      have HZL : Hid ((zs ++ T).length ≤ 1004) := by have := HTL.out; show (zs ++ T).length ≤ 1004; rw [List.length_append]; omega
      generalize hZ : zs ++ T = Z at *
      have HZ : Hid (zs ++ T = Z) := hZ
      clear hZ
      have HBW : Hid (base ≤ wr.heap.size) := Nat.le_trans HCB.out.2 HU.out.size
      go_wp2
      go_region_law ((refine step_append_lies (P := Try.prog) (wr.alloc (.cells #[.int .u8 (x / 2 ^ (8 * k) % 256)] 5)).drew rfl (.tmp 20) (.tmp 25) 62 rfl base 5 i0 (.int .u8 0) 1 1 Try.underlying62 HI.out.1 HI.out.2.1 HI.out.2.2.1 HI.out.2.2.2 rfl (by decide) (.slice a Z.length cap) Z.length (bl Z) rfl (HM.out.2.2.alloc _) ⟨wr.heap.size, 0, none⟩ 1 1 [.int .u8 (x / 2 ^ (8 * k) % 256)] rfl rfl (cell_one_new _ _ _) (one_u8 _) (by decide) (le_max HZL.out) (le_by HZL.out) (le_al HBW.out) (wr.heap.size + 1) (World.size_alloc _ _) ?_; intro g cap2 w1 hown1 hgrow hat hlt; obtain ⟨kc, kf⟩ := cell_C HCB.out.1 HBW.out HM.out hgrow))
      all_goals
        have HR : Hid _ := mk_step HCB.out.1 HBW.out HM.out hown1 hgrow hat
        go_wp2
        go_roundw
        case rel => exact ⟨k, by omega, by go_num, T ++ [byt x k], _, by show T ++ [byt x k] ++ nb x k = nb x width; rw [← HT.out]; simp [nb], by show MK _ C base _ (zs ++ (T ++ [byt x k])); rw [← List.append_assoc, HZ.out]; exact HR.out.1, HU.out.trans HL.out HR.out.2.1, HL.out.trans HU.out.size HR.out.2.2⟩
        case measure => simp [intOf]; omega
end Go.Proofs.Ytnhkjdcbaphfcaa
