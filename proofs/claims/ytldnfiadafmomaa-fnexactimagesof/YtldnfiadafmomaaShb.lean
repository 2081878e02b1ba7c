/- Sheets told as bytes; sheets of pages. -/
import Derived.Test.YtldnfiadafmomaaSec
namespace Go.Proofs.Ytldnfiadafmomaa
open Go.RowKit Go.Deep
set_option linter.unusedVariables false
set_option maxRecDepth 20000

theorem bvs_cut (z : Nat → Int) (k : Nat) (hk : k < 3) : List.take 16 (List.drop (k * 16) (bvs z 48)) = bvs (fun i => z (16 * k + i)) 16 := by
  apply List.ext_getElem?
  intro i
  by_cases h : i < 16
  · have h1 : k * 16 + i < 48 := by omega
    simp [bvs, h, h1, Nat.mul_comm]
  · have h1 : min 16 (48 - k * 16) ≤ i := by omega
    simp [bvs, h, h1]
theorem run_index147 (z : Nat → Int) (k : Nat) (hk : k < 3) (w : World) : (Instr.index 66 (.agg (bvs z 48).toArray) (.int .i64 (k : Int))).run Try.prog w = .ok (.agg (bvs (fun i => z (16 * k + i)) 16).toArray) w := by
  have hq := size144
  have hu := Try.underlying66
  have hu2 := Try.underlying64
  cases hi : Try.prog.info? 64 with
  | none => simp [hi] at hq
  | some i =>
    have hs : i.size = 16 := by simpa [hi] using hq
    have hc := bvs_cut z k hk
    simp [Instr.index, asIntOf, Sem.run_bind, run_underlying hu, sizeOf, typeInfo, hi, hs, part, hc, hk]
theorem store_new (wr : World) (f : Nat → Int) : (storeCells ⟨wr.heap.size, 0, none⟩ (bvs f 16)).run Try.prog (wr.alloc (.cells #[.int .u8 0, .int .u8 0, .int .u8 0, .int .u8 0, .int .u8 0, .int .u8 0, .int .u8 0, .int .u8 0, .int .u8 0, .int .u8 0, .int .u8 0, .int .u8 0, .int .u8 0, .int .u8 0, .int .u8 0, .int .u8 0] 64)) = .ok () (wr.alloc (.cells (bvs f 16).toArray 64)) :=
  run_storeCells_new (P := Try.prog) wr 64 (zeros 16).toArray (bvs f 16).toArray (by rw [size144, bvs_size]) (by rw [bvs_size]; rfl) (all_oneCell_toArray (bvs_one _ _))
theorem bvs_app (z : Nat → Int) (m n : Nat) : bvs z m ++ bvs (fun i => z (m + i)) n = bvs z (m + n) := by
  simp only [bvs, List.range_add, List.map_append, List.map_map]
  rfl
set_option maxHeartbeats 800000 in
theorem shBytes_any (z : Nat → Int) (w : World) :
    Calls Try.prog 36 #[.agg (bvs z 48).toArray] w fun e w' => ∃ g cap, e = .returned (.slice (some ⟨g, 0, none⟩) 48 cap) ∧ Below w.heap.size w w' ∧ w.heap.size ≤ g ∧ g < w'.heap.size ∧ Row1 w' g 0 48 z ∧ 48 ≤ cap := by
  obtain ⟨i0, hi, hz0, hz1, hz2⟩ := info_parts info5
  have HI : Hid (Try.prog.info? 5 = some i0 ∧ i0.zero = some (.int .u8 0) ∧ i0.size = 1 ∧ i0.bytes = 1) := ⟨hi, hz0, hz1, hz2⟩
  clear hi hz0 hz1 hz2
  have HR : Hid ((w.alloc (.cells (bvs z 48).toArray 66)).rangeAt w.heap.size 0 (bvs z 48)) := range_block (heap_alloc_last _ _)
  go_enter Try.func36, Try.ntmps36
  go_wp2_with (refine wpList_load_mid (by rfl) 66 (.tmp 1) (by rfl) w.heap.size 0 (by rfl) (bvs z 48) _ HR.out Try.underlying66 rfl (by rw [size147, bvs_len]) ?_)
  go_loopw [3, 5, 7] (fun v _ i wr => ∃ k : Nat, k ≤ 3 ∧ i = .int .i64 k ∧ Below w.heap.size w wr ∧ wr.ownsRow (w.heap.size + 1) 5 1 v (16 * k) (bvs z (16 * k)) ∧ w.heap.size + 1 ≤ wr.heap.size) (fun _ _ i _ => 3 - (intOf i).toNat)
  case atStart => exact ⟨0, by omega, rfl, below_new _ _, World.ownsRow_nil _ _ _ _, by simp⟩
  case round =>
    obtain ⟨k, hk, rfl, hb, ho, hs⟩ := hrel
    by_cases hlt : k < 3
    · have HO : Hid (wr.ownsRow (w.heap.size + 1) 5 1 u3 (16 * k) (bvs z (16 * k))) := ho
      have HB : Hid (Below w.heap.size w wr) := hb
      have hk3 : k = 0 ∨ k = 1 ∨ k = 2 := by omega
      clear ho hb
      rcases hk3 with rfl | rfl | rfl
      · have hix : ∀ w, (Instr.index 66 (.agg (bvs z 48).toArray) (.int .i64 0)).run Try.prog w = .ok (.agg (bvs z 16).toArray) w := fun w => (run_index147 z 0 (by omega) w).trans (by simp)
        have hst := store_new wr z
        go_wp2_with (at_builtin; refine wpList_append_own _ rfl (.tmp 10) (.tmp 11) 55 rfl (w.heap.size + 1) 5 i0 (.int .u8 0) 1 1 Try.underlying55 HI.out.1 HI.out.2.1 HI.out.2.2.1 HI.out.2.2.2 rfl (by decide) _ 0 (bvs z 0) rfl (HO.out.alloc _) ⟨wr.heap.size, 0, none⟩ 16 16 (bvs z 16) rfl ?c1 ?c2 (bvs_one _ _) ?c3 ?c4 ?c5 ?_)
        case c1 => rw [bvs_len]
        case c2 =>
          intro j u hu
          rw [Addr.add_mid]
          exact range_block (heap_alloc_last _ _) j u hu
        case c3 => unfold maxLen; omega
        case c4 => omega
        case c5 => simp; omega
        intro v1 w1 ho1 hg1 _
        have HO1 : Hid (w1.ownsRow (w.heap.size + 1) 5 1 v1 (16 * 1) (bvs z (16 * 1))) := by
          have e : bvs z 0 ++ bvs z 16 = bvs z (16 * 1) := bvs_app z 0 16
          rw [← e]; exact ho1
        have HB1 : Hid (Below w.heap.size w w1) := Below.grown (HB.out.alloc HB.out.size _) hg1 (by simp; have := HB.out.size; omega) (fun q hq => by have := (HO.out.lt q hq).1; omega)
        have HS1 : Hid (w.heap.size + 1 ≤ w1.heap.size) := by have := hg1.size; simp at this; show w.heap.size + 1 ≤ w1.heap.size; omega
        clear ho1 hg1 hix hst
        go_wp2_with fail
        go_roundw
        case rel => exact ⟨1, by omega, rfl, HB1.out, HO1.out, HS1.out⟩
        case measure => simp [intOf]
      · have hix : ∀ w, (Instr.index 66 (.agg (bvs z 48).toArray) (.int .i64 1)).run Try.prog w = .ok (.agg (bvs (fun i => z (16 + i)) 16).toArray) w := fun w => (run_index147 z 1 (by omega) w).trans (by simp)
        have hst := store_new wr (fun i => z (16 + i))
        go_wp2_with (at_builtin; refine wpList_append_own _ rfl (.tmp 10) (.tmp 11) 55 rfl (w.heap.size + 1) 5 i0 (.int .u8 0) 1 1 Try.underlying55 HI.out.1 HI.out.2.1 HI.out.2.2.1 HI.out.2.2.2 rfl (by decide) _ 16 (bvs z 16) rfl (HO.out.alloc _) ⟨wr.heap.size, 0, none⟩ 16 16 (bvs (fun i => z (16 + i)) 16) rfl ?c1 ?c2 (bvs_one _ _) ?c3 ?c4 ?c5 ?_)
        case c1 => rw [bvs_len]
        case c2 =>
          intro j u hu
          rw [Addr.add_mid]
          exact range_block (heap_alloc_last _ _) j u hu
        case c3 => unfold maxLen; omega
        case c4 => omega
        case c5 => simp; omega
        intro v1 w1 ho1 hg1 _
        have HO1 : Hid (w1.ownsRow (w.heap.size + 1) 5 1 v1 (16 * 2) (bvs z (16 * 2))) := by
          have e : bvs z 16 ++ bvs (fun i => z (16 + i)) 16 = bvs z (16 * 2) := bvs_app z 16 16
          rw [← e]; exact ho1
        have HB1 : Hid (Below w.heap.size w w1) := Below.grown (HB.out.alloc HB.out.size _) hg1 (by simp; have := HB.out.size; omega) (fun q hq => by have := (HO.out.lt q hq).1; omega)
        have HS1 : Hid (w.heap.size + 1 ≤ w1.heap.size) := by have := hg1.size; simp at this; show w.heap.size + 1 ≤ w1.heap.size; omega
        clear ho1 hg1 hix hst
        go_wp2_with fail
        go_roundw
        case rel => exact ⟨2, by omega, rfl, HB1.out, HO1.out, HS1.out⟩
        case measure => simp [intOf]
      · have hix : ∀ w, (Instr.index 66 (.agg (bvs z 48).toArray) (.int .i64 2)).run Try.prog w = .ok (.agg (bvs (fun i => z (32 + i)) 16).toArray) w := fun w => (run_index147 z 2 (by omega) w).trans (by simp)
        have hst := store_new wr (fun i => z (32 + i))
        go_wp2_with (at_builtin; refine wpList_append_own _ rfl (.tmp 10) (.tmp 11) 55 rfl (w.heap.size + 1) 5 i0 (.int .u8 0) 1 1 Try.underlying55 HI.out.1 HI.out.2.1 HI.out.2.2.1 HI.out.2.2.2 rfl (by decide) _ 32 (bvs z 32) rfl (HO.out.alloc _) ⟨wr.heap.size, 0, none⟩ 16 16 (bvs (fun i => z (32 + i)) 16) rfl ?c1 ?c2 (bvs_one _ _) ?c3 ?c4 ?c5 ?_)
        case c1 => rw [bvs_len]
        case c2 =>
          intro j u hu
          rw [Addr.add_mid]
          exact range_block (heap_alloc_last _ _) j u hu
        case c3 => unfold maxLen; omega
        case c4 => omega
        case c5 => simp; omega
        intro v1 w1 ho1 hg1 _
        have HO1 : Hid (w1.ownsRow (w.heap.size + 1) 5 1 v1 (16 * 3) (bvs z (16 * 3))) := by
          have e : bvs z 32 ++ bvs (fun i => z (32 + i)) 16 = bvs z (16 * 3) := bvs_app z 32 16
          rw [← e]; exact ho1
        have HB1 : Hid (Below w.heap.size w w1) := Below.grown (HB.out.alloc HB.out.size _) hg1 (by simp; have := HB.out.size; omega) (fun q hq => by have := (HO.out.lt q hq).1; omega)
        have HS1 : Hid (w.heap.size + 1 ≤ w1.heap.size) := by have := hg1.size; simp at this; show w.heap.size + 1 ≤ w1.heap.size; omega
        clear ho1 hg1 hix hst
        go_wp2_with fail
        go_roundw
        case rel => exact ⟨3, by omega, rfl, HB1.out, HO1.out, HS1.out⟩
        case measure => simp [intOf]
    · have hkn : k = 3 := by omega
      subst hkn
      have HO : Hid (wr.ownsRow (w.heap.size + 1) 5 1 u3 48 (bvs z 48)) := ho
      clear ho
      go_wp2_with fail
      go_ret
      obtain ⟨g, cap, rfl, h1, h2, h3⟩ := row1_of_own HO.out (by decide)
      refine ⟨g, cap, rfl, hb, by omega, h2, h3, ?_⟩
      rcases HO.out.2 with ⟨h, _⟩ | ⟨_, _, _, h, _, _, h9, _⟩
      · cases h
      · simp at h; omega
end Go.Proofs.Ytldnfiadafmomaa
