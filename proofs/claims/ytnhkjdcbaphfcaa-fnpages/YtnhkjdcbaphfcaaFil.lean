/- The maker of bytes: fillTo and putSum. -/
import Derived.Test.YtnhkjdcbaphfcaaPut
namespace Go.Proofs.Ytnhkjdcbaphfcaa
open Go.RowKit Go.Deep
set_option linter.unusedVariables false

/-- One byte appended through the maker's cell, in a plain region. -/
theorem mk_step' {wr w1 : World} {C base g cap2 : Nat} {v : Value} {Z : List Int} {z : Int} {c : Array Value} (hC : C < base) (hB : base ≤ wr.heap.size) (hm : MK wr C base v Z)
    (h1 : w1.ownsRow base 5 1 (.slice (some ⟨g, 0, none⟩) (Z.length + 1) cap2) (Z.length + 1) (bl Z ++ [.int .u8 z])) (hg : (wr.alloc (.cells c 5)).grownBy w1 v.ownBlock) (hat : v.ownBlock = some g ∨ g = wr.heap.size + 1) :
    MK (w1.setCell ⟨C, 0, none⟩ (.slice (some ⟨g, 0, none⟩) (Z.length + 1) cap2)) C base (.slice (some ⟨g, 0, none⟩) (Z.length + 1) cap2) (Z ++ [z]) ∧ Upd C v wr (w1.setCell ⟨C, 0, none⟩ (.slice (some ⟨g, 0, none⟩) (Z.length + 1) cap2)) ∧ Lies wr v (.slice (some ⟨g, 0, none⟩) (Z.length + 1) cap2) :=
  mk_step (c := c) hC hB hm h1 ⟨hg.os, hg.tape, hg.output, hg.size, hg.block⟩ hat
theorem cell_C' {wr w1 : World} {C base : Nat} {v : Value} {Z : List Int} {c : Array Value} (hC : C < base) (hB : base ≤ wr.heap.size) (hm : MK wr C base v Z) (hg : (wr.alloc (.cells c 5)).grownBy w1 v.ownBlock) :
    w1.cell? ⟨C, 0, none⟩ = some v ∧ w1.frozen? ⟨C, 0, none⟩ = false :=
  cell_C (c := c) hC hB hm ⟨hg.os, hg.tape, hg.output, hg.size, hg.block⟩

set_option maxHeartbeats 2000000 in
theorem fillTo_any (C base : Nat) (v : Value) (zs : List Int) (w : World) (hz : zs.length ≤ 46) (hC : C < base) (hB : base ≤ w.heap.size) (hm : MK w C base v zs) :
    Calls Try.prog 65 #[.pointer (some ⟨C, 0, none⟩), .int .i64 46] w fun e w' => e = .returned (.tuple #[]) ∧ ∃ v', MK w' C base v' (zs ++ List.replicate (46 - zs.length) 0) ∧ Upd C v w w' ∧ Lies w v v' := by
  obtain ⟨i0, hi, hz0, hz1, hz2⟩ := info_parts info5
  have HI : Hid (Try.prog.info? 5 = some i0 ∧ i0.zero = some (.int .u8 0) ∧ i0.size = 1 ∧ i0.bytes = 1) := ⟨hi, hz0, hz1, hz2⟩
  have HM0 : Hid (MK w C base v zs) := hm
  have HCB : Hid (C < base ∧ base ≤ w.heap.size) := ⟨hC, hB⟩
  clear hi hz0 hz1 hz2 hm hC hB
  go_enter Try.func65, Try.ntmps65
  go_wp2
  go_loopg [4] (46 - zs.length) (fun gk _ wr => ∃ m v', gk + m = 46 - zs.length ∧ Hid (MK wr C base v' (zs ++ List.replicate m 0)) ∧ Hid (Upd C v w wr) ∧ Hid (Lies w v v'))
  case atStart => exact ⟨0, v, by omega, by rw [List.replicate_zero, List.append_nil]; exact HM0, Upd.refl _ _ _, .inl rfl⟩
  case round =>
    obtain ⟨m, v', hgk, HM, HU, HL⟩ := hrel
    obtain ⟨a, cap, rfl, -⟩ := slice_of_own HM.out.2.2
    have hc0 := HM.out.1
    have hc1 : ∀ o : Obj, (wr.alloc o).cell? ⟨C, 0, none⟩ = some (.slice a (zs ++ List.replicate m 0).length cap) := fun o => cell_alloc hc0 o
    have hZl : (zs ++ List.replicate m 0).length = zs.length + m := by simp
    have HZL : Hid ((zs ++ List.replicate m 0).length = zs.length + m) := hZl
    generalize hZ : zs ++ List.replicate m 0 = Z at *
    have HZ : Hid (zs ++ List.replicate m 0 = Z) := hZ
    clear hZ hZl
    have HBW : Hid (base ≤ wr.heap.size) := Nat.le_trans HCB.out.2 HU.out.size
    have HZ4 : Hid (Z.length ≤ 1004) := by have := HZL.out; show Z.length ≤ 1004; omega
    by_cases hlt : Z.length < 46
    · have hlt' : (Z.length : Int) < 46 := by omega
      go_wp2_with (at_builtin; refine wpList_append_lies _ rfl (.tmp 13) (.tmp 14) 62 rfl base 5 i0 (.int .u8 0) 1 1 Try.underlying62 HI.out.1 HI.out.2.1 HI.out.2.2.1 HI.out.2.2.2 rfl (by decide) (.slice a Z.length cap) Z.length (bl Z) rfl (HM.out.2.2.alloc _) ⟨wr.heap.size, 0, none⟩ 1 1 [.int .u8 0] rfl rfl (cell_one_new _ _ _) (one_u8 _) (by decide) (le_max HZ4.out) (le_by HZ4.out) (le_al HBW.out) (wr.heap.size + 1) (World.size_alloc _ _) ?_)
      intro g cap2 w1 hown1 hgrow hat hlt1
      obtain ⟨kc, kf⟩ := cell_C' HCB.out.1 HBW.out HM.out hgrow
      have HR : Hid _ := mk_step' HCB.out.1 HBW.out HM.out hown1 hgrow hat
      have HGK : Hid (m + 1 + (gk - 1) = 46 - zs.length ∧ 0 < gk) := by have := HZL.out; exact ⟨by omega, by omega⟩
      clear hown1 hgrow hat hlt1 hc0 hc1
      go_wp2
      go_roundg (gk - 1)
      case measure => have := HGK.out.2; omega
      case rel => exact ⟨m + 1, _, by have := HGK.out.1; omega, by show MK _ C base _ (zs ++ List.replicate (m + 1) 0); rw [List.replicate_succ', ← List.append_assoc, HZ.out]; exact HR.out.1, HU.out.trans HL.out HR.out.2.1, HL.out.trans HU.out.size HR.out.2.2⟩
    · have hge : ¬ ((Z.length : Int) < 46) := by omega
      have HM46 : Hid (m = 46 - zs.length) := by have := HZL.out; show m = 46 - zs.length; omega
      go_wp2
      go_end0
      refine ⟨rfl, _, ?_, HU.out, HL.out⟩
      rw [← HM46.out, HZ.out]
      exact HM.out
theorem bytes_of_own {w : World} {base : Nat} {a : Option Addr} {cap : Nat} {zs : List Int} (h : w.ownsRow base 5 1 (.slice a zs.length cap) zs.length (bl zs)) : BytesAt w a zs.length (fun i => zs.getD i 0) := by
  rcases h.2 with ⟨_, h0⟩ | ⟨g, cap2, cur, e, hbg, hg, hnc, hcm, hcs, htake⟩
  · exact .inl h0
  · simp only [Value.slice.injEq] at e
    obtain ⟨rfl, -, rfl⟩ := e
    refine .inr ⟨g, 0, rfl, ?_, fun i hi => ?_⟩
    · obtain ⟨hlt, _⟩ := Array.getElem?_eq_some_iff.1 hg
      exact hlt
    · have := h.cellAt i (by omega)
      rw [Nat.zero_add, this]
      simp [bl, hi]
def sm (zs : List Int) : Int := sumB (fun i => zs.getD i 0) zs.length
def BytL (zs : List Int) : Prop := ∀ z ∈ zs, 0 ≤ z ∧ z ≤ 255
theorem byt_of {zs : List Int} (h : BytL zs) : Byt zs.length (fun i => zs.getD i 0) := fun i hi => by
  have : zs.getD i 0 = zs[i] := by simp [hi]
  show 0 ≤ zs.getD i 0 ∧ zs.getD i 0 ≤ 255
  rw [this]; exact h _ (List.getElem_mem hi)
set_option maxHeartbeats 2000000 in
theorem putSum_any (C base : Nat) (v : Value) (zs : List Int) (w : World) (hz : zs.length ≤ 1000) (hby : BytL zs) (hC : C < base) (hB : base ≤ w.heap.size) (hm : MK w C base v zs) :
    Calls Try.prog 66 #[.pointer (some ⟨C, 0, none⟩)] w fun e w' => e = .returned (.tuple #[]) ∧ ∃ v', MK w' C base v' (zs ++ nb (sm zs) 2) ∧ Upd C v w w' ∧ Lies w v v' := by
  obtain ⟨a, cap, rfl, -⟩ := slice_of_own hm.2.2
  have hc0 := hm.1
  have hsb := sumB_bd (fun i => zs.getD i 0) zs.length
  have HM : Hid (MK w C base (.slice a zs.length cap) zs) := hm
  have HS : Hid (0 ≤ sm zs ∧ sm zs ≤ 65520) := hsb
  clear hm hsb
  go_enter Try.func66, Try.ntmps66
  go_wp2_with fail
  refine (implSum_any zs.length (fun i => zs.getD i 0) a cap w (by omega) (byt_of hby) (bytes_of_own HM.out.2.2)).mono ?_
  rintro e w1 ⟨rfl, rfl⟩
  go_wp2_with fail
  refine (putNumber_any C base (sm zs) 2 _ zs _ (by omega) HS.out.1 (by have := HS.out.2; omega) hz hC hB HM.out).mono ?_
  rintro e w2 ⟨rfl, v', hm', hu', hl'⟩
  go_wp2_with fail
  go_end0
  exact ⟨rfl, v', hm', hu', hl'⟩
end Go.Proofs.Ytnhkjdcbaphfcaa
