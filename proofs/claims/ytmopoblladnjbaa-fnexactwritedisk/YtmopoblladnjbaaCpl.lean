/- impl.copyLoose and impl.piecesOf. -/
import Derived.Test.YtmopoblladnjbaaLcp
namespace Go.Proofs.Ytmopoblladnjbaa
open Go.RowKit Go.Deep
set_option linter.unusedVariables false
set_option maxRecDepth 20000

set_option maxHeartbeats 400000 in
theorem secBytes2 (z : Nat → Int) (w : World) :
    Calls Try.prog 202 #[.agg (bvs z 16).toArray] w fun e w' => ∃ g cap, e = .returned (.slice (some ⟨g, 0, none⟩) 16 cap) ∧ Below w.heap.size w w' ∧ w.heap.size ≤ g ∧ g < w'.heap.size ∧ Row1 w' g 0 16 z ∧ 16 ≤ cap := by
  obtain ⟨i0, hi, hz0, hz1, hz2⟩ := info_parts info5
  have HI : Hid (Try.prog.info? 5 = some i0 ∧ i0.zero = some (.int .u8 0) ∧ i0.size = 1 ∧ i0.bytes = 1) := ⟨hi, hz0, hz1, hz2⟩
  clear hi hz0 hz1 hz2
  go_enter Try.func202, Try.ntmps202
  go_wp2_with (at_builtin; refine wpList_append_lies _ rfl (.tmp 4) (.tmp 5) 22 rfl (w.heap.size + 1) 5 i0 (.int .u8 0) 1 1 Try.underlying22 HI.out.1 HI.out.2.1 HI.out.2.2.1 HI.out.2.2.2 rfl (by decide) _ 0 [] rfl (World.ownsRow_nil _ _ _ _) ⟨w.heap.size, 0, none⟩ 16 16 (bvs z 16) rfl ?c1 ?c2 (bvs_one _ _) (by decide) ?c3 ?c4 ?c5 _ rfl ?_)
  case c1 => rw [bvs_len]
  case c2 =>
    intro j u hu
    rw [Addr.add_mid]
    exact range_block (heap_alloc_last _ _) j u hu
  case c3 => unfold maxLen; omega
  case c4 => omega
  case c5 => simp
  intro G C w' ho hg _ hlt
  have HO : Hid (w'.ownsRow (w.heap.size + 1) 5 1 (.slice (some ⟨G, 0, none⟩) 16 C) 16 (bvs z 16)) := ho
  have HB : Hid (Below w.heap.size w w') := Below.grown (below_new _ _) hg (by simp) (by simp [Value.ownBlock])
  have HL : Hid (G < w'.heap.size) := hlt
  clear ho hg hlt
  go_wp2_with fail
  go_ret
  obtain ⟨h1, h2⟩ := row_own HO.out
  exact ⟨G, C, rfl, HB.out, by have := (HO.out.lt G rfl).1; omega, HL.out, h1, h2⟩
/-- One round: a loose write is copied into a box, its bytes are made anew, and it is appended. -/
theorem roundC {wr w2 w4 : World} {B j G C g2 c2 : Nat} {v : Value} {P T : Nat → Int} {Y : Nat → Nat → Int} {g c : Nat → Nat} {o o2 : Obj} {x : Value} (hB : B ≤ wr.heap.size) (hj : ∀ x y, x < j → y < j → g x = g y → x = y)
    (hcc : ∀ i, i < j → B ≤ g i ∧ g i < wr.heap.size ∧ v.ownBlock ≠ some (g i) ∧ Row1 wr (g i) 0 16 (Y i) ∧ 16 ≤ c i) (hown : wr.ownsRow B 192 3 v j (llv P T g (fun _ => 16) c j))
    (hb2 : Below (wr.heap.size + 1) (wr.alloc o) w2) (hG0 : wr.heap.size + 1 ≤ G) (hG : G < w2.heap.size) (hr1 : Row1 w2 G 0 16 (Y j)) (hC1 : 16 ≤ C)
    (hown2 : w4.ownsRow B 192 3 (.slice (some ⟨g2, 0, none⟩) (j + 1) c2) (j + 1) (llv P T g (fun _ => 16) c j ++ lv3 (P j) (T j) G 16 C)) (hg2 : ((w2.setCell ⟨wr.heap.size, 2, none⟩ x).alloc o2).grownBy w4 v.ownBlock) (hat2 : v.ownBlock = some g2 ∨ g2 = w2.heap.size + 1) :
    AL B w4 (.slice (some ⟨g2, 0, none⟩) (j + 1) c2) (j + 1) P T (fun _ => 16) Y ∧ Below B wr w4 := by
  have hs1 : wr.heap.size + 1 ≤ w2.heap.size := by have := hb2.size; rw [World.size_alloc] at this; exact this
  have es : (w2.setCell ⟨wr.heap.size, 2, none⟩ x).heap.size = w2.heap.size := by simp [World.setCell]
  have blk : ∀ z, z < wr.heap.size → (w2.setCell ⟨wr.heap.size, 2, none⟩ x).heap[z]? = wr.heap[z]? := fun z hz => by
    rw [blk_setCell_other _ _ _ _ (by show z ≠ wr.heap.size; omega)]
    exact (hb2.block z (by omega)).trans (Below.heap_alloc _ _ _ hz)
  refine ⟨AL.step (w1 := w2.setCell ⟨wr.heap.size, 2, none⟩ x) hj (fun i hi => ?_) (by omega) (by rw [es]; exact hG) (fun e => by have := (hown.lt G e).2; omega) (fun i hi => by have := (hcc i hi).2.1; omega) (hr1.block (blk_setCell_other _ _ _ _ (by show G ≠ wr.heap.size; omega))) hC1 hown2 hg2 (by rw [es]; exact hat2), ?_⟩
  · obtain ⟨h1, h2, h3, h4, h5⟩ := hcc i hi
    exact ⟨h1, by rw [es]; omega, h3, h4.block (blk _ h2), h5⟩
  · have b1 : Below B wr (wr.alloc o) := (Below.refl B wr).alloc hB o
    have b2 : Below B (wr.alloc o) w2 := hb2.mono (by omega)
    have b3 : Below B w2 ((w2.setCell ⟨wr.heap.size, 2, none⟩ x).alloc o2) := ((Below.refl B w2).setCell (p := ⟨wr.heap.size, 2, none⟩) hB x).alloc (by rw [es]; omega) o2
    have b4 : Below B ((w2.setCell ⟨wr.heap.size, 2, none⟩ x).alloc o2) w4 := below_grown hg2 (by rw [World.size_alloc, es]; omega) (fun z e => (hown.lt z e).1)
    exact ((b1.trans b2).trans b3).trans b4
theorem own_set_alloc2 {wr w2 : World} {B n s : Nat} {e : TypeId} {v x : Value} {xs : List Value} {o o2 : Obj} (h : wr.ownsRow B e s v n xs) (hb : Below (wr.heap.size + 1) (wr.alloc o) w2) : ((w2.setCell ⟨wr.heap.size, 2, none⟩ x).alloc o2).ownsRow B e s v n xs := by
  refine World.ownsRow.alloc ?_ o2
  have h1 : w2.ownsRow B e s v n xs := by
    refine own_below (h.alloc o) ?_
    rw [World.size_alloc]; exact hb
  have hw : Writes wr.heap.size (wr.heap.size + 1) w2 (w2.setCell ⟨wr.heap.size, 2, none⟩ x) := Writes.setCell (Writes.refl _ _ _) (p := ⟨wr.heap.size, 2, none⟩) (Nat.le_refl _) (by show wr.heap.size < _; omega) x
  refine h1.kept (row := some wr.heap.size) ⟨hw.os, hw.tape, hw.output, hw.size, fun z hz hne => hw.block z hz (by simp at hne; omega)⟩ ?_
  cases hv : v.ownBlock with
  | none => exact .inl rfl
  | some q => exact .inr (fun e => by have := (h.lt q hv).2; simp at e; omega)
set_option maxHeartbeats 800000 in
theorem copyLoose_any (m : Nat) (P T : Nat → Int) (M : Nat → Nat) (Y : Nat → Nat → Int) (a : Option Addr) (cap : Nat) (w : World) (hm : m ≤ 60) (hM : ∀ i, i < m → M i = 16) (h : LoosesAt w a m P T M Y) :
    Calls Try.prog 187 #[.slice a m cap] w fun e w' => ∃ v, e = .returned v ∧ Below w.heap.size w w' ∧ AL w.heap.size w' v m P T (fun _ => 16) Y := by
  obtain ⟨i2, hi, hz0, hz1, hz2⟩ := info_parts info114
  have HK : Hid (Try.prog.info? 192 = some i2 ∧ i2.zero = some (.agg #[.int .i64 0, .int .i64 0, .slice none 0 0]) ∧ i2.size = 3 ∧ i2.bytes = 40) := ⟨hi, hz0, hz1, hz2⟩
  have HM : Hid (∀ i, i < m → M i = 16) := hM
  have HA : Hid (LoosesAt w a m P T M Y) := h
  clear hi hz0 hz1 hz2 hM h
  go_enter Try.func187, Try.ntmps187
  go_wp2_with fail
  go_loopw [3, 5, 8] (fun v _ i wr => ∃ j : Nat, j ≤ m ∧ i = .int .i64 j ∧ Hid (Below w.heap.size w wr) ∧ Hid (AL w.heap.size wr v j P T (fun _ => 16) Y)) (fun _ _ i _ => m - (intOf i).toNat)
  case atStart => exact ⟨0, by omega, rfl, Below.refl _ _, AL.nil _ _ _ _ _ _⟩
  case round =>
    obtain ⟨j, hj0, rfl, HB, HAL⟩ := hrel
    by_cases hlt : j < m
    · rcases HA.out.below HB.out with h | ⟨b, off, rfl, hl, hc⟩
      · omega
      obtain ⟨h0, h1, ai, ci, h2, hy, hcap⟩ := hc j hlt
      rw [HM.out j hlt] at h2 hy
      have HY : Hid (BytesAt wr ai 16 (Y j)) := hy
      obtain ⟨g, c, hown, hjj, hcc⟩ := HAL.out
      have HOW : Hid (wr.ownsRow w.heap.size 192 3 u3 j (llv P T g (fun _ => 16) c j)) := hown
      have HJ2 : Hid (∀ x y, x < j → y < j → g x = g y → x = y) := hjj
      have HCC : Hid (∀ i, i < j → w.heap.size ≤ g i ∧ g i < wr.heap.size ∧ u3.ownBlock ≠ some (g i) ∧ Row1 wr (g i) 0 16 (Y i) ∧ 16 ≤ c i) := hcc
      have hlt' : (j : Int) < (m : Int) := by omega
      clear hc hy hown hjj hcc hcap hl
      go_wp2_with fail
      refine (sectorOf_any 16 (Y j) ai ci _ (by omega) (HY.out.below (below_new _ _))).mono ?_
      rintro e w1 ⟨rfl, hb1⟩
      go_wp2_with fail
      refine (secBytes2 (Y j) w1).mono ?_
      rintro e w2 ⟨G, C, rfl, hb2, hG0, hG1, hrow, hC⟩
      have hbb : Below (wr.heap.size + 1) (wr.alloc (.cells #[.int .i64 (P j), .int .i64 (T j), .slice ai 16 ci] 192)) w2 := by
        have h := below_then hb1 hb2
        rw [World.size_alloc] at h
        exact h
      have bx := Box3.new wr (.int .i64 (P j)) (.int .i64 (T j)) (.slice ai 16 ci) 192
      have s0 : w2.cell? ⟨wr.heap.size, 0, none⟩ = some (.int .i64 (P j)) := (hbb.cell (p := ⟨wr.heap.size, 0, none⟩) (by show wr.heap.size < _; omega)).trans bx.1
      have s1 : w2.cell? ⟨wr.heap.size, 1, none⟩ = some (.int .i64 (T j)) := (hbb.cell (p := ⟨wr.heap.size, 1, none⟩) (by show wr.heap.size < _; omega)).trans bx.2.1
      have s2 : w2.cell? ⟨wr.heap.size, 2, none⟩ = some (.slice ai 16 ci) := (hbb.cell (p := ⟨wr.heap.size, 2, none⟩) (by show wr.heap.size < _; omega)).trans bx.2.2
      have s3 : w2.frozen? ⟨wr.heap.size, 2, none⟩ = false := (hbb.frozen (p := ⟨wr.heap.size, 2, none⟩) (by show wr.heap.size < _; omega)).trans (frozen_block (heap_alloc_last _ _))
      have hs1 := hb1.size
      rw [World.size_alloc] at hs1
      have HG : Hid (wr.heap.size + 1 ≤ G ∧ G < w2.heap.size ∧ Row1 w2 G 0 16 (Y j) ∧ 16 ≤ C) := ⟨by omega, hG1, hrow, hC⟩
      have HBB : Hid (Below (wr.heap.size + 1) (wr.alloc (.cells #[.int .i64 (P j), .int .i64 (T j), .slice ai 16 ci] 192)) w2) := hbb
      clear hb1 hb2 hG0 hG1 hrow hC hbb bx hs1 h0 h1 h2
      go_wp2_with (at_builtin; refine wpList_append_lies _ rfl (.tmp 17) (.tmp 19) 62 rfl w.heap.size 192 i2 (.agg #[.int .i64 0, .int .i64 0, .slice none 0 0]) 3 40 Try.underlying62 HK.out.1 HK.out.2.1 HK.out.2.2.1 HK.out.2.2.2 rfl (by decide) _ j (llv P T g (fun _ => 16) c j) rfl (own_set_alloc2 HOW.out HBB.out) ⟨w2.heap.size, 0, none⟩ 1 1 (lv3 (P j) (T j) G 16 C) rfl rfl ?d4 lv3_one (by decide) ?d5 ?d6 ?d7 _ rfl ?_)
      case d4 =>
        intro q u hu
        rw [Addr.add_mid]
        have e : (w2.setCell ⟨wr.heap.size, 2, none⟩ (.slice (some ⟨G, 0, none⟩) 16 C)).heap.size = w2.heap.size := by simp [World.setCell]
        have h := range_block (cs := lv3 (P j) (T j) G 16 C) (heap_alloc_last (w2.setCell ⟨wr.heap.size, 2, none⟩ (.slice (some ⟨G, 0, none⟩) 16 C)) (.cells (lv3 (P j) (T j) G 16 C).toArray 192)) q u hu
        rw [e] at h
        exact h
      case d5 => unfold maxLen; omega
      case d6 => omega
      case d7 =>
        have h1 := HBB.out.size
        have h2 := HB.out.size
        rw [World.size_alloc] at h1
        rw [World.size_alloc]
        simp [World.setCell]; omega
      intro g2 c2 w4 hown2 hg2 hat2 hlt2
      have hat3 : u3.ownBlock = some g2 ∨ g2 = w2.heap.size + 1 := by simpa [World.setCell] using hat2
      obtain ⟨hal, hbl⟩ := roundC HB.out.size HJ2.out HCC.out HOW.out HBB.out HG.out.1 HG.out.2.1 HG.out.2.2.1 HG.out.2.2.2 hown2 hg2 hat3
      have HALN : Hid (AL w.heap.size w4 (.slice (some ⟨g2, 0, none⟩) (j + 1) c2) (j + 1) P T (fun _ => 16) Y) := hal
      have HBL : Hid (Below w.heap.size wr w4) := hbl
      clear hown2 hg2 hat2 hat3 hlt2 hal hbl s0 s1 s2 s3
      go_wp2_with fail
      go_roundw
      case rel => exact ⟨j + 1, hlt, by go_num, HB.out.trans HBL.out, HALN.out⟩
      case measure => simp [intOf]; omega
    · have hkn : j = m := by omega
      have HALM : Hid (AL w.heap.size wr u3 m P T (fun _ => 16) Y) := by have h := HAL.out; rw [hkn] at h; exact h
      clear HAL hkn
      go_wp2_with fail
      go_ret
      exact ⟨_, rfl, HB.out, HALM.out⟩
end Go.Proofs.Ytmopoblladnjbaa
