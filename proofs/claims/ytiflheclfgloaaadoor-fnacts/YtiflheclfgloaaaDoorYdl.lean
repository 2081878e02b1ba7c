/- The law FnActs, walked. -/
import Derived.Test.YtiflheclfgloaaaDoorYdc
import Derived.Test.YtiflheclfgloaaaDoorYsl
import Derived.Test.YtiflheclfgloaaaDoorYtc
namespace Go.Proofs.YtiflheclfgloaaaDoor
open Go.RowKit Go.Deep
set_option linter.unusedVariables false
set_option maxRecDepth 20000

theorem lwBig_any (a : Option Addr) (k cap : Nat) (w : World) : Calls Tryd.prog 13 #[.slice a k cap] w fun e w' => e = .returned (.bool (decide ((1048576 : Int) < (k : Int)))) ∧ w' = w := by
  go_enter Tryd.func13, Tryd.ntmps13
  go_wp2_with fail
  go_ret
  exact ⟨rfl, rfl⟩
def C5 (w : World) (B : Nat) (c k x y z : Int) : Prop := w.cell? ⟨B, 0, none⟩ = some (.int .i64 c) ∧ w.cell? ⟨B, 1, none⟩ = some (.int .i64 k) ∧ w.cell? ⟨B, 2, none⟩ = some (.int .i64 x) ∧ w.cell? ⟨B, 3, none⟩ = some (.int .i64 y) ∧ w.cell? ⟨B, 4, none⟩ = some (.int .i64 z)
theorem C5.below {w w' : World} {B : Nat} {c k x y z : Int} (h : C5 w B c k x y z) (hb : Below w.heap.size w w') : C5 w' B c k x y z :=
  ⟨cell_below h.1 hb, cell_below h.2.1 hb, cell_below h.2.2.1 hb, cell_below h.2.2.2.1 hb, cell_below h.2.2.2.2 hb⟩
theorem C5.new (w : World) (c k x y z : Int) (t : TypeId) : C5 (w.alloc (.cells #[.int .i64 c, .int .i64 k, .int .i64 x, .int .i64 y, .int .i64 z] t)) w.heap.size c k x y z := by simp [C5]
/-- What was read of a line fits, and is read back from the line that tells it; else it is no act. -/
theorem read_cases (s : ByteArray) : (∃ (m : Nat) (X Y Z : Int), actOf (wds s) = #[.int .i64 0, .int .i64 m, .int .i64 X, .int .i64 Y, .int .i64 Z] ∧ ffit m X Y Z = true ∧ actOf (wds (ftext m X Y Z)) = #[.int .i64 0, .int .i64 m, .int .i64 X, .int .i64 Y, .int .i64 Z]) ∨ actOf (wds s) = #[.int .i64 5, .int .i64 0, .int .i64 0, .int .i64 0, .int .i64 0] := by
  cases h : okA (wds s) with
  | true => exact .inl ⟨_, _, _, _, actOf_yes h, (act_round h).1, (act_round h).2⟩
  | false => exact .inr (actOf_no h)
set_option maxHeartbeats 4000000 in
theorem actsLaw (n : Nat) (z : Nat → Int) (a : Option Addr) (cap : Nat) (w : World) (hz : Byt n z) (h : BytesAt w a n z) (hT : TabAt w) (hP : PowAt w) :
    Calls Tryd.prog 5 #[.slice a n cap] w fun e w' => e = .returned (.bool true) ∧ Below w.heap.size w w' := by
  have HT : Hid (TabAt w) := hT
  have HP : Hid (PowAt w) := hP
  have HA : Hid (BytesAt w a n z) := h
  have HZ : Hid (Byt n z) := hz
  have hmo : Tryd.prog.follows .mixedOrders = true := by kernel_rfl
  clear hT hP h hz
  go_enter Tryd.func5, Tryd.ntmps5
  go_wp2_with fail
  refine (lwBig_any _ _ _ _).mono ?_
  rintro e w0 ⟨rfl, hq⟩
  have hq2 := hq.symm
  clear hq
  subst hq2
  by_cases hbig : (1048576 : Int) < (n : Int)
  · rw [decide_eq_true hbig]
    go_wp2_with fail
    go_ret
    exact ⟨rfl, Below.refl _ _⟩
  · have hn2 : n ≤ 1048576 := by omega
    rw [decide_eq_false hbig]
    clear hbig
    go_wp2_with fail
    refine (drawParse_any a n cap z _ hn2 HZ.out HA.out).mono ?_
    rintro e w1 ⟨s, rfl, hs, hb1⟩
    have HB1 : Hid (Below w.heap.size w w1) := hb1
    clear hb1
    have HPI := implParse_any s w1 (by omega) (HT.out.below HB1.out)
    have HPS := fun u : World => specParse_any s u (by omega)
    rcases read_cases s with ⟨m0, X, Y, Z, hA, hff0, hback⟩ | hA
    · rw [hA] at HPI
      have HPX : Hid (Calls Tryd.prog 7 #[.string s] w1 fun e w' => e = .returned (.agg #[.int .i64 0, .int .i64 (m0 : Int), .int .i64 X, .int .i64 Y, .int .i64 Z]) ∧ Below w1.heap.size w1 w') := HPI
      have hts0 := ftext_size m0 X Y Z
      have HF0 : Hid (∀ u : World, TabAt u → PowAt u → Calls Tryd.prog 11 #[.agg #[.int .i64 (m0 : Int), .int .i64 X, .int .i64 Y, .int .i64 Z]] u fun e w' => e = .returned (.agg #[.int .i64 0, .string (ftext m0 X Y Z)]) ∧ Below u.heap.size u w') := fun u h1 h2 => by
        have h := implFormat_any m0 X Y Z u h1 h2
        unfold FRes at h
        rw [(ff_yes hff0).1] at h
        exact h
      have HR0 : Hid (∀ u : World, TabAt u → Calls Tryd.prog 7 #[.string (ftext m0 X Y Z)] u fun e w' => e = .returned (.agg #[.int .i64 0, .int .i64 (m0 : Int), .int .i64 X, .int .i64 Y, .int .i64 Z]) ∧ Below u.heap.size u w') := fun u h1 => by
        have h := implParse_any (ftext m0 X Y Z) u (by omega) h1
        rw [hback] at h
        exact h
      clear HPI HPS hA hback hff0
      generalize ftext m0 X Y Z = T0 at *
      go_wp2_with fail
      refine HPX.out.mono ?_
      rintro e w2 ⟨rfl, hb2⟩
      have HB2 : Hid (Below w.heap.size w w2) := HB1.out.trans (hb2.mono HB1.out.size)
      clear hb2
      go_upto_region 5 with fail
      have P3 := C5.new w2 0 m0 X Y Z 25
      have HB3 : Hid (Below w.heap.size w (w2.alloc (.cells #[.int .i64 0, .int .i64 (m0 : Int), .int .i64 X, .int .i64 Y, .int .i64 Z] 25))) := HB2.out.alloc HB2.out.size _
      obtain ⟨P, hPP⟩ : ∃ P, P = w2.heap.size := ⟨_, rfl⟩
      rw [← hPP] at P3 ⊢
      generalize (w2.alloc (.cells #[.int .i64 0, .int .i64 (m0 : Int), .int .i64 X, .int .i64 Y, .int .i64 Z] 25)) = w3 at *
      clear hPP
      obtain ⟨p0, p1, p2, p3, p4⟩ := P3
      refine wp_region_E 999 (S := fun u => Below w.heap.size w u ∧ C5 u P 0 m0 X Y Z) hmo ⟨HB3.out.drew, p0, p1, p2, p3, p4⟩ (fun hS => ?_)
      refine wpAnyE_takeD (L := 999) (i := 0) (v := .pointer (some ⟨P, 0, none⟩)) (some 14) rfl rfl (by kernel_rfl) (by kernel_rfl) (by kernel_rfl) (by kernel_rfl) (fun _ _ _ h => h) (Or.inl ⟨by kernel_rfl, by intro u hSu; go_simp⟩) hS ?_
      try simp only [Act.put, List.setIfInBounds_toArray, List.set_cons_zero, List.set_cons_succ]
      refine wpAnyE_takeD (L := 999) (i := 1) (v := .int .i64 0) (some 15) rfl rfl (by kernel_rfl) (by kernel_rfl) (by kernel_rfl) (by kernel_rfl) (fun _ _ _ h => h) (Or.inl ⟨by kernel_rfl, by intro u hSu; obtain ⟨-, p0, p1, p2, p3, p4⟩ := hSu; go_simp⟩) hS ?_
      try simp only [Act.put, List.setIfInBounds_toArray, List.set_cons_zero, List.set_cons_succ]
      refine wpAnyE_takeD (L := 999) (i := 2) (v := .bool false) (some 16) rfl rfl (by kernel_rfl) (by kernel_rfl) (by kernel_rfl) (by kernel_rfl) (fun _ _ _ h => h) (Or.inl ⟨by kernel_rfl, by intro u hSu; go_simp⟩) hS ?_
      try simp only [Act.put, List.setIfInBounds_toArray, List.set_cons_zero, List.set_cons_succ]
      refine wpAnyE_takeD (L := 999) (i := 3) (v := .bool false) (some 17) rfl rfl (by kernel_rfl) (by kernel_rfl) (by kernel_rfl) (by kernel_rfl) (fun _ _ _ h => h) (Or.inl ⟨by kernel_rfl, by intro u hSu; go_simp⟩) hS ?_
      try simp only [Act.put, List.setIfInBounds_toArray, List.set_cons_zero, List.set_cons_succ]
      refine wpAnyE_takeD (L := 999) (i := 4) (v := undef) (some 18) rfl rfl (by kernel_rfl) (by kernel_rfl) (by kernel_rfl) (by kernel_rfl) (fun _ _ _ h => h) (Or.inr ⟨by kernel_rfl, rfl⟩) hS ?_
      try simp only [Act.put, List.setIfInBounds_toArray, List.set_cons_zero, List.set_cons_succ]
      refine wpAnyE_takeD (L := 999) (i := 5) (v := undef) (some 19) rfl rfl (by kernel_rfl) (by kernel_rfl) (by kernel_rfl) (by kernel_rfl) (fun _ _ _ h => h) (Or.inr ⟨by kernel_rfl, rfl⟩) hS ?_
      try simp only [Act.put, List.setIfInBounds_toArray, List.set_cons_zero, List.set_cons_succ]
      refine wpAnyE_takeD (L := 999) (i := 6) (v := undef) (some 20) rfl rfl (by kernel_rfl) (by kernel_rfl) (by kernel_rfl) (by kernel_rfl) (fun _ _ _ h => h) (Or.inr ⟨by kernel_rfl, rfl⟩) hS ?_
      try simp only [Act.put, List.setIfInBounds_toArray, List.set_cons_zero, List.set_cons_succ]
      refine wpAnyE_takeD (L := 999) (i := 7) (v := undef) (some 21) rfl rfl (by kernel_rfl) (by kernel_rfl) (by kernel_rfl) (by kernel_rfl) (fun _ _ _ h => h) (Or.inr ⟨by kernel_rfl, rfl⟩) hS ?_
      try simp only [Act.put, List.setIfInBounds_toArray, List.set_cons_zero, List.set_cons_succ]
      refine wpAnyE_takeD (L := 999) (i := 8) (v := undef) (some 22) rfl rfl (by kernel_rfl) (by kernel_rfl) (by kernel_rfl) (by kernel_rfl) (fun _ _ _ h => h) (Or.inr ⟨by kernel_rfl, rfl⟩) hS ?_
      try simp only [Act.put, List.setIfInBounds_toArray, List.set_cons_zero, List.set_cons_succ]
      refine wpAnyE_takeD (L := 999) (i := 9) (v := undef) (some 23) rfl rfl (by kernel_rfl) (by kernel_rfl) (by kernel_rfl) (by kernel_rfl) (fun _ _ _ h => h) (Or.inr ⟨by kernel_rfl, rfl⟩) hS ?_
      try simp only [Act.put, List.setIfInBounds_toArray, List.set_cons_zero, List.set_cons_succ]
      refine wpAnyE_takeD (L := 999) (i := 10) (v := .bool false) (some 24) rfl rfl (by kernel_rfl) (by kernel_rfl) (by kernel_rfl) (by kernel_rfl) (fun _ _ _ h => h) (Or.inl ⟨by kernel_rfl, by intro u hSu; go_simp⟩) hS ?_
      try simp only [Act.put, List.setIfInBounds_toArray, List.set_cons_zero, List.set_cons_succ]
      have HS4 := hS
      refine wpAnyE_done (by kernel_rfl) ?_ _
      go_simp
      clear p0 p1 p2 p3 p4
      go_upto_region 7 with fail
      refine wp_region_E 999 (S := fun u => Below w.heap.size w u ∧ C5 u P 0 m0 X Y Z) hmo ⟨HS4.1.drew, HS4.2⟩ (fun hS => ?_)
      refine wpAnyE_takeD (L := 999) (i := 0) (v := .pointer (some ⟨P, 0, none⟩)) (some 25) rfl rfl (by kernel_rfl) (by kernel_rfl) (by kernel_rfl) (by kernel_rfl) (fun _ _ _ h => h) (Or.inl ⟨by kernel_rfl, by intro u hSu; obtain ⟨-, p0, p1, p2, p3, p4⟩ := hSu; go_simp⟩) hS ?_
      try simp only [Act.put, List.setIfInBounds_toArray, List.set_cons_zero, List.set_cons_succ]
      refine wpAnyE_takeD (L := 999) (i := 1) (v := .int .i64 0) (some 26) rfl rfl (by kernel_rfl) (by kernel_rfl) (by kernel_rfl) (by kernel_rfl) (fun _ _ _ h => h) (Or.inl ⟨by kernel_rfl, by intro u hSu; obtain ⟨-, p0, p1, p2, p3, p4⟩ := hSu; go_simp⟩) hS ?_
      try simp only [Act.put, List.setIfInBounds_toArray, List.set_cons_zero, List.set_cons_succ]
      refine wpAnyE_takeD (L := 999) (i := 2) (v := .bool true) (some 27) rfl rfl (by kernel_rfl) (by kernel_rfl) (by kernel_rfl) (by kernel_rfl) (fun _ _ _ h => h) (Or.inl ⟨by kernel_rfl, by intro u hSu; obtain ⟨-, p0, p1, p2, p3, p4⟩ := hSu; go_simp⟩) hS ?_
      try simp only [Act.put, List.setIfInBounds_toArray, List.set_cons_zero, List.set_cons_succ]
      refine wpAnyE_takeD (L := 999) (i := 3) (v := .bool true) (some 28) rfl rfl (by kernel_rfl) (by kernel_rfl) (by kernel_rfl) (by kernel_rfl) (fun _ _ _ h => h) (Or.inl ⟨by kernel_rfl, by intro u hSu; obtain ⟨-, p0, p1, p2, p3, p4⟩ := hSu; go_simp⟩) hS ?_
      try simp only [Act.put, List.setIfInBounds_toArray, List.set_cons_zero, List.set_cons_succ]
      refine wpAnyE_takeD (L := 999) (i := 4) (v := .pointer (some ⟨P, 1, none⟩)) (some 29) rfl rfl (by kernel_rfl) (by kernel_rfl) (by kernel_rfl) (by kernel_rfl) (fun _ _ _ h => h) (Or.inl ⟨by kernel_rfl, by intro u hSu; obtain ⟨-, p0, p1, p2, p3, p4⟩ := hSu; go_simp⟩) hS ?_
      try simp only [Act.put, List.setIfInBounds_toArray, List.set_cons_zero, List.set_cons_succ]
      refine wpAnyE_takeD (L := 999) (i := 5) (v := (.agg #[.int .i64 (m0 : Int), .int .i64 X, .int .i64 Y, .int .i64 Z])) (some 30) rfl rfl (by kernel_rfl) (by kernel_rfl) (by kernel_rfl) (by kernel_rfl) (fun _ _ _ h => h) (Or.inl ⟨by kernel_rfl, by intro u hSu; obtain ⟨-, p0, p1, p2, p3, p4⟩ := hSu; go_simp⟩) hS ?_
      try simp only [Act.put, List.setIfInBounds_toArray, List.set_cons_zero, List.set_cons_succ]
      refine wpAnyE_takeD (L := 999) (i := 10) (v := .pointer (some ⟨P, 1, none⟩)) (some 35) rfl rfl (by kernel_rfl) (by kernel_rfl) (by kernel_rfl) (by kernel_rfl) (fun _ _ _ h => h) (Or.inl ⟨by kernel_rfl, by intro u hSu; go_simp⟩) hS ?_
      try simp only [Act.put, List.setIfInBounds_toArray, List.set_cons_zero, List.set_cons_succ]
      refine wpAnyE_takeD (L := 999) (i := 11) (v := (.agg #[.int .i64 (m0 : Int), .int .i64 X, .int .i64 Y, .int .i64 Z])) (some 36) rfl rfl (by kernel_rfl) (by kernel_rfl) (by kernel_rfl) (by kernel_rfl) (fun _ _ _ h => h) (Or.inl ⟨by kernel_rfl, by intro u hSu; obtain ⟨-, p0, p1, p2, p3, p4⟩ := hSu; go_simp⟩) hS ?_
      try simp only [Act.put, List.setIfInBounds_toArray, List.set_cons_zero, List.set_cons_succ]
      refine wpAnyE_ready (rs := [6]) (by kernel_rfl) (by simp) ?_
      refine AllReadyE.cons rfl (fun K9 hK => ?_) AllReadyE.nil
      rw [if_pos (by kernel_rfl)]
      go_simp
      refine (HF0.out _ (HT.out.below hS.1) (HP.out.below hS.1)).mono ?_
      rintro e wa ⟨rfl, hba⟩
      refine hK.out _ _ (⟨hS.1.trans (hba.mono hS.1.size), hS.2.below hba⟩) (fun hS9 => ?_)
      try simp only [Act.put, List.setIfInBounds_toArray, List.set_cons_zero, List.set_cons_succ]
      clear hK K9 hS
      have hS := hS9
      clear hS9
      clear hba
      refine wpAnyE_takeD (L := 999) (i := 7) (v := .string T0) (some 32) rfl rfl (by kernel_rfl) (by kernel_rfl) (by kernel_rfl) (by kernel_rfl) (fun _ _ _ h => h) (Or.inl ⟨by kernel_rfl, by intro u hSu; have hf : (Instr.field 31 (.agg #[.int .i64 0, .string T0]) 1).run Tryd.prog u = .ok (.string T0) u := (by kernel_rfl); go_simp⟩) hS ?_
      try simp only [Act.put, List.setIfInBounds_toArray, List.set_cons_zero, List.set_cons_succ]
      refine wpAnyE_ready (rs := [8]) (by kernel_rfl) (by simp) ?_
      refine AllReadyE.cons rfl (fun K9 hK => ?_) AllReadyE.nil
      rw [if_pos (by kernel_rfl)]
      go_simp
      refine (HR0.out _ (HT.out.below hS.1)).mono ?_
      rintro e wb ⟨rfl, hbb⟩
      refine hK.out _ _ (⟨hS.1.trans (hbb.mono hS.1.size), hS.2.below hbb⟩) (fun hS9 => ?_)
      try simp only [Act.put, List.setIfInBounds_toArray, List.set_cons_zero, List.set_cons_succ]
      clear hK K9 hS
      have hS := hS9
      clear hS9
      clear hbb
      refine wpAnyE_takeD (L := 999) (i := 9) (v := (.agg #[.int .i64 (m0 : Int), .int .i64 X, .int .i64 Y, .int .i64 Z])) (some 34) rfl rfl (by kernel_rfl) (by kernel_rfl) (by kernel_rfl) (by kernel_rfl) (fun _ _ _ h => h) (Or.inl ⟨by kernel_rfl, by intro u hSu; have hf : (Instr.field 25 (.agg #[.int .i64 0, .int .i64 (m0 : Int), .int .i64 X, .int .i64 Y, .int .i64 Z]) 1).run Tryd.prog u = .ok (.agg #[.int .i64 (m0 : Int), .int .i64 X, .int .i64 Y, .int .i64 Z]) u := (by kernel_rfl); go_simp⟩) hS ?_
      try simp only [Act.put, List.setIfInBounds_toArray, List.set_cons_zero, List.set_cons_succ]
      refine wpAnyE_takeD (L := 999) (i := 12) (v := .bool false) (some 37) rfl rfl (by kernel_rfl) (by kernel_rfl) (by kernel_rfl) (by kernel_rfl) (fun _ _ _ h => h) (Or.inl ⟨by kernel_rfl, by intro u hSu; go_simp⟩) hS ?_
      try simp only [Act.put, List.setIfInBounds_toArray, List.set_cons_zero, List.set_cons_succ]
      refine wpAnyE_takeD (L := 999) (i := 13) (v := .bool false) (some 38) rfl rfl (by kernel_rfl) (by kernel_rfl) (by kernel_rfl) (by kernel_rfl) (fun _ _ _ h => h) (Or.inl ⟨by kernel_rfl, by intro u hSu; go_simp⟩) hS ?_
      try simp only [Act.put, List.setIfInBounds_toArray, List.set_cons_zero, List.set_cons_succ]
      have HBc : Hid (Below w.heap.size w wb) := hS.1
      refine wpAnyE_done (by kernel_rfl) ?_ _
      go_simp
      go_wp2_with fail
      refine (drawFormat_any a n cap z _ hn2 HZ.out (HA.out.below HBc.out)).mono ?_
      rintro e w5 ⟨kd, tx, ky, vl, rfl, hb5⟩
      have HB5 : Hid (Below w.heap.size w w5) := HBc.out.trans (hb5.mono HBc.out.size)
      clear hb5
      go_wp2_with fail
      have A5 := Box4.new w5 (.int .i64 kd) (.int .i64 tx) (.int .i64 ky) (.int .i64 vl) 23
      have HB6 : Hid (Below w.heap.size w (w5.alloc (.cells #[.int .i64 kd, .int .i64 tx, .int .i64 ky, .int .i64 vl] 23))) := HB5.out.alloc HB5.out.size _
      obtain ⟨A, hA⟩ : ∃ A, A = w5.heap.size := ⟨_, rfl⟩
      rw [← hA] at A5 ⊢
      generalize (w5.alloc (.cells #[.int .i64 kd, .int .i64 tx, .int .i64 ky, .int .i64 vl] 23)) = w6 at *
      clear hA
      have HFI := implFormat_any kd tx ky vl w6 (HT.out.below HB6.out) (HP.out.below HB6.out)
      unfold FRes at HFI
      cases hff : ffit kd tx ky vl with
      | false =>
        rw [(ff_no hff).1, (ff_no hff).2] at HFI
        have HFS : Hid (∀ u : World, Calls Tryd.prog 9 #[.agg #[.int .i64 kd, .int .i64 tx, .int .i64 ky, .int .i64 vl]] u fun e w' => e = .returned (.agg #[.int .i64 3, .string ByteArray.empty]) ∧ Below u.heap.size u w') := fun u => by
          have h := specFormat_any kd tx ky vl u
          unfold FRes at h
          rw [(ff_no hff).1, (ff_no hff).2] at h
          exact h
        have HFX : Hid (Calls Tryd.prog 11 #[.agg #[.int .i64 kd, .int .i64 tx, .int .i64 ky, .int .i64 vl]] w6 fun e w' => e = .returned (.agg #[.int .i64 3, .string ByteArray.empty]) ∧ Below w6.heap.size w6 w') := HFI
        clear hff HFI
        obtain ⟨a0, a1, a2, a3⟩ := A5
        go_wp2_with fail
        refine HFX.out.mono ?_
        rintro e w7 ⟨rfl, hb7⟩
        have HB7 : Hid (Below w.heap.size w w7) := HB6.out.trans (hb7.mono HB6.out.size)
        have A7 : Box4 w7 A (.int .i64 kd) (.int .i64 tx) (.int .i64 ky) (.int .i64 vl) := ⟨cell_below a0 hb7, cell_below a1 hb7, cell_below a2 hb7, cell_below a3 hb7⟩
        clear hb7 a0 a1 a2 a3
        go_upto_region 11 with fail
        have F8 := Box2.new w7 (.int .i64 3) (.string ByteArray.empty) 31
        have A8 := A7.alloc (.cells #[.int .i64 3, .string ByteArray.empty] 31)
        have HB8 : Hid (Below w.heap.size w (w7.alloc (.cells #[.int .i64 3, .string ByteArray.empty] 31))) := HB7.out.alloc HB7.out.size _
        obtain ⟨F, hF⟩ : ∃ F, F = w7.heap.size := ⟨_, rfl⟩
        rw [← hF] at F8 ⊢
        generalize (w7.alloc (.cells #[.int .i64 3, .string ByteArray.empty] 31)) = w8 at *
        clear hF A7
        obtain ⟨f0, f1⟩ := F8
        go_upto_region 12 with fail
        refine wp_region_E 999 (S := fun u => Below w.heap.size w u ∧ Box4 u A (.int .i64 kd) (.int .i64 tx) (.int .i64 ky) (.int .i64 vl) ∧ u.cell? ⟨F, 0, none⟩ = some (.int .i64 3)) hmo ⟨HB8.out.drew, A8, f0⟩ (fun hS => ?_)
        refine wpAnyE_takeD (L := 999) (i := 0) (v := .agg #[.int .i64 kd, .int .i64 tx, .int .i64 ky, .int .i64 vl]) (some 46) rfl rfl (by kernel_rfl) (by kernel_rfl) (by kernel_rfl) (by kernel_rfl) (fun _ _ _ h => h) (Or.inl ⟨by kernel_rfl, by intro u hSu; obtain ⟨-, ⟨p0, p1, p2, p3⟩, q0⟩ := hSu; go_simp⟩) hS ?_
        try simp only [Act.put, List.setIfInBounds_toArray, List.set_cons_zero, List.set_cons_succ]
        refine wpAnyE_takeD (L := 999) (i := 3) (v := .pointer (some ⟨F, 0, none⟩)) (some 49) rfl rfl (by kernel_rfl) (by kernel_rfl) (by kernel_rfl) (by kernel_rfl) (fun _ _ _ h => h) (Or.inl ⟨by kernel_rfl, by intro u hSu; go_simp⟩) hS ?_
        try simp only [Act.put, List.setIfInBounds_toArray, List.set_cons_zero, List.set_cons_succ]
        refine wpAnyE_takeD (L := 999) (i := 4) (v := .int .i64 3) (some 50) rfl rfl (by kernel_rfl) (by kernel_rfl) (by kernel_rfl) (by kernel_rfl) (fun _ _ _ h => h) (Or.inl ⟨by kernel_rfl, by intro u hSu; obtain ⟨-, ⟨p0, p1, p2, p3⟩, q0⟩ := hSu; go_simp⟩) hS ?_
        try simp only [Act.put, List.setIfInBounds_toArray, List.set_cons_zero, List.set_cons_succ]
        refine wpAnyE_ready (rs := [1]) (by kernel_rfl) (by simp) ?_
        refine AllReadyE.cons rfl (fun K9 hK => ?_) AllReadyE.nil
        go_simp
        refine (HFS.out _).mono ?_
        rintro e w9 ⟨rfl, hb9⟩
        refine hK.out _ _ (⟨hS.1.trans (hb9.mono hS.1.size), ⟨cell_below hS.2.1.1 hb9, cell_below hS.2.1.2.1 hb9, cell_below hS.2.1.2.2.1 hb9, cell_below hS.2.1.2.2.2 hb9⟩, cell_below hS.2.2 hb9⟩) (fun hS9 => ?_)
        try simp only [Act.put, List.setIfInBounds_toArray, List.set_cons_zero, List.set_cons_succ]
        clear hK K9 hS
        have hS := hS9
        clear hS9
        refine wpAnyE_takeD (L := 999) (i := 2) (v := .int .i64 3) (some 48) rfl rfl (by kernel_rfl) (by kernel_rfl) (by kernel_rfl) (by kernel_rfl) (fun _ _ _ h => h) (Or.inl ⟨by kernel_rfl, by intro u hSu; have hf : (Instr.field 31 (.agg #[.int .i64 3, .string ByteArray.empty]) 0).run Tryd.prog u = .ok (.int .i64 3) u := (by kernel_rfl); go_simp⟩) hS ?_
        try simp only [Act.put, List.setIfInBounds_toArray, List.set_cons_zero, List.set_cons_succ]
        refine wpAnyE_takeD (L := 999) (i := 5) (v := .bool true) (some 51) rfl rfl (by kernel_rfl) (by kernel_rfl) (by kernel_rfl) (by kernel_rfl) (fun _ _ _ h => h) (Or.inl ⟨by kernel_rfl, by intro u hSu; go_simp⟩) hS ?_
        try simp only [Act.put, List.setIfInBounds_toArray, List.set_cons_zero, List.set_cons_succ]
        refine wpAnyE_takeD (L := 999) (i := 6) (v := .bool true) (some 2) rfl rfl (by kernel_rfl) (by kernel_rfl) (by kernel_rfl) (by kernel_rfl) (fun _ _ _ h => h) (Or.inl ⟨by kernel_rfl, by intro u hSu; go_simp⟩) hS ?_
        try simp only [Act.put, List.setIfInBounds_toArray, List.set_cons_zero, List.set_cons_succ]
        have HB9 : Hid (Below w.heap.size w w9) := hS.1
        refine wpAnyE_done (by kernel_rfl) ?_ _
        go_simp
        go_wp2_with fail
        go_ret
        exact ⟨rfl, HB9.out⟩
      | true =>
        obtain ⟨m, rfl⟩ : ∃ m : Nat, kd = m := ⟨kd.toNat, by simp only [ffit, inB, Bool.and_eq_true, decide_eq_true_eq] at hff; omega⟩
        rw [(ff_yes hff).1] at HFI
        have hrd := read_c3 hff
        obtain ⟨hc1, hc2⟩ := text_cut hff
        have htp := text_pos hff
        have hts := ftext_size m tx ky vl
        generalize c3 m 0 tx = x' at *
        generalize c3 m 1 ky = y' at *
        generalize c3 m 2 vl = z' at *
        have HF2 : Hid (∀ u : World, TabAt u → PowAt u → Calls Tryd.prog 11 #[.agg #[.int .i64 (m : Int), .int .i64 x', .int .i64 y', .int .i64 z']] u fun e w' => e = .returned (.agg #[.int .i64 0, .string (ftext m tx ky vl)]) ∧ Below u.heap.size u w') := fun u h1 h2 => by
          have h := implFormat_any m x' y' z' u h1 h2
          unfold FRes at h
          rw [hc1, hc2] at h
          exact h
        have HFX : Hid (Calls Tryd.prog 11 #[.agg #[.int .i64 (m : Int), .int .i64 tx, .int .i64 ky, .int .i64 vl]] w6 fun e w' => e = .returned (.agg #[.int .i64 0, .string (ftext m tx ky vl)]) ∧ Below w6.heap.size w6 w') := HFI
        have HPR : Hid (∀ u : World, TabAt u → Calls Tryd.prog 7 #[.string (ftext m tx ky vl)] u fun e w' => e = .returned (.agg #[.int .i64 0, .int .i64 (m : Int), .int .i64 x', .int .i64 y', .int .i64 z']) ∧ Below u.heap.size u w') := fun u h1 => by
          have h := implParse_any (ftext m tx ky vl) u (by omega) h1
          rw [hrd] at h
          exact h
        clear hff HFI hrd hc1 hc2
        generalize ftext m tx ky vl = T at *
        have htp2 : (0 : Int) < (T.size : Int) := by omega
        obtain ⟨a0, a1, a2, a3⟩ := A5
        go_wp2_with fail
        refine HFX.out.mono ?_
        rintro e w7 ⟨rfl, hb7⟩
        have HB7 : Hid (Below w.heap.size w w7) := HB6.out.trans (hb7.mono HB6.out.size)
        have a7 : w7.cell? ⟨A, 0, none⟩ = some (.int .i64 (m : Int)) := cell_below a0 hb7
        clear hb7 a0 a1 a2 a3
        go_upto_region 11 with fail
        have F8 := Box2.new w7 (.int .i64 0) (.string T) 31
        have a8 := cell_alloc a7 (.cells #[.int .i64 0, .string T] 31)
        have HB8 : Hid (Below w.heap.size w (w7.alloc (.cells #[.int .i64 0, .string T] 31))) := HB7.out.alloc HB7.out.size _
        obtain ⟨F, hF⟩ : ∃ F, F = w7.heap.size := ⟨_, rfl⟩
        rw [← hF] at F8 ⊢
        generalize (w7.alloc (.cells #[.int .i64 0, .string T] 31)) = w8 at *
        clear hF a7
        obtain ⟨f0, f1⟩ := F8
        go_wp2_with fail
        refine (HPR.out _ (HT.out.below HB8.out)).mono ?_
        rintro e w9 ⟨rfl, hb9⟩
        have HB9 : Hid (Below w.heap.size w w9) := HB8.out.trans (hb9.mono HB8.out.size)
        have a9 := cell_below a8 hb9
        have f90 := cell_below f0 hb9
        have f91 := cell_below f1 hb9
        clear hb9 a8 f0 f1
        go_upto_region 14 with fail
        have R9 := C5.new w9 0 m x' y' z' 25
        have a10 := cell_alloc a9 (.cells #[.int .i64 0, .int .i64 (m : Int), .int .i64 x', .int .i64 y', .int .i64 z'] 25)
        have f100 := cell_alloc f90 (.cells #[.int .i64 0, .int .i64 (m : Int), .int .i64 x', .int .i64 y', .int .i64 z'] 25)
        have f101 := cell_alloc f91 (.cells #[.int .i64 0, .int .i64 (m : Int), .int .i64 x', .int .i64 y', .int .i64 z'] 25)
        have HB10 : Hid (Below w.heap.size w (w9.alloc (.cells #[.int .i64 0, .int .i64 (m : Int), .int .i64 x', .int .i64 y', .int .i64 z'] 25))) := HB9.out.alloc HB9.out.size _
        obtain ⟨R, hR⟩ : ∃ R, R = w9.heap.size := ⟨_, rfl⟩
        rw [← hR] at R9 ⊢
        generalize (w9.alloc (.cells #[.int .i64 0, .int .i64 (m : Int), .int .i64 x', .int .i64 y', .int .i64 z'] 25)) = w10 at *
        clear hR a9 f90 f91
        refine wp_region_E 999 (S := fun u => Below w.heap.size w u ∧ C5 u R 0 m x' y' z' ∧ u.cell? ⟨A, 0, none⟩ = some (.int .i64 (m : Int)) ∧ u.cell? ⟨F, 0, none⟩ = some (.int .i64 0) ∧ u.cell? ⟨F, 1, none⟩ = some (.string T)) hmo ⟨HB10.out.drew, R9, a10, f100, f101⟩ (fun hS => ?_)
        refine wpAnyE_takeD (L := 999) (i := 0) (v := .pointer (some ⟨R, 0, none⟩)) (some 55) rfl rfl (by kernel_rfl) (by kernel_rfl) (by kernel_rfl) (by kernel_rfl) (fun _ _ _ h => h) (Or.inl ⟨by kernel_rfl, by intro u hSu; obtain ⟨-, ⟨p0, p1, p2, p3, p4⟩, q0, q1, q2⟩ := hSu; go_simp⟩) hS ?_
        try simp only [Act.put, List.setIfInBounds_toArray, List.set_cons_zero, List.set_cons_succ]
        refine wpAnyE_takeD (L := 999) (i := 1) (v := .int .i64 0) (some 56) rfl rfl (by kernel_rfl) (by kernel_rfl) (by kernel_rfl) (by kernel_rfl) (fun _ _ _ h => h) (Or.inl ⟨by kernel_rfl, by intro u hSu; obtain ⟨-, ⟨p0, p1, p2, p3, p4⟩, q0, q1, q2⟩ := hSu; go_simp⟩) hS ?_
        try simp only [Act.put, List.setIfInBounds_toArray, List.set_cons_zero, List.set_cons_succ]
        refine wpAnyE_takeD (L := 999) (i := 2) (v := .bool true) (some 57) rfl rfl (by kernel_rfl) (by kernel_rfl) (by kernel_rfl) (by kernel_rfl) (fun _ _ _ h => h) (Or.inl ⟨by kernel_rfl, by intro u hSu; obtain ⟨-, ⟨p0, p1, p2, p3, p4⟩, q0, q1, q2⟩ := hSu; go_simp⟩) hS ?_
        try simp only [Act.put, List.setIfInBounds_toArray, List.set_cons_zero, List.set_cons_succ]
        refine wpAnyE_takeD (L := 999) (i := 3) (v := .bool true) (some 58) rfl rfl (by kernel_rfl) (by kernel_rfl) (by kernel_rfl) (by kernel_rfl) (fun _ _ _ h => h) (Or.inl ⟨by kernel_rfl, by intro u hSu; obtain ⟨-, ⟨p0, p1, p2, p3, p4⟩, q0, q1, q2⟩ := hSu; go_simp⟩) hS ?_
        try simp only [Act.put, List.setIfInBounds_toArray, List.set_cons_zero, List.set_cons_succ]
        refine wpAnyE_takeD (L := 999) (i := 4) (v := .pointer (some ⟨R, 1, none⟩)) (some 59) rfl rfl (by kernel_rfl) (by kernel_rfl) (by kernel_rfl) (by kernel_rfl) (fun _ _ _ h => h) (Or.inl ⟨by kernel_rfl, by intro u hSu; obtain ⟨-, ⟨p0, p1, p2, p3, p4⟩, q0, q1, q2⟩ := hSu; go_simp⟩) hS ?_
        try simp only [Act.put, List.setIfInBounds_toArray, List.set_cons_zero, List.set_cons_succ]
        refine wpAnyE_takeD (L := 999) (i := 5) (v := (.agg #[.int .i64 (m : Int), .int .i64 x', .int .i64 y', .int .i64 z'])) (some 60) rfl rfl (by kernel_rfl) (by kernel_rfl) (by kernel_rfl) (by kernel_rfl) (fun _ _ _ h => h) (Or.inl ⟨by kernel_rfl, by intro u hSu; obtain ⟨-, ⟨p0, p1, p2, p3, p4⟩, q0, q1, q2⟩ := hSu; go_simp⟩) hS ?_
        try simp only [Act.put, List.setIfInBounds_toArray, List.set_cons_zero, List.set_cons_succ]
        refine wpAnyE_takeD (L := 999) (i := 7) (v := (.agg #[.int .i64 0, .string T])) (some 62) rfl rfl (by kernel_rfl) (by kernel_rfl) (by kernel_rfl) (by kernel_rfl) (fun _ _ _ h => h) (Or.inl ⟨by kernel_rfl, by intro u hSu; obtain ⟨-, ⟨p0, p1, p2, p3, p4⟩, q0, q1, q2⟩ := hSu; go_simp⟩) hS ?_
        try simp only [Act.put, List.setIfInBounds_toArray, List.set_cons_zero, List.set_cons_succ]
        refine wpAnyE_ready (rs := [6]) (by kernel_rfl) (by simp) ?_
        refine AllReadyE.cons rfl (fun K9 hK => ?_) AllReadyE.nil
        rw [if_pos (by kernel_rfl)]
        go_simp
        refine (HF2.out _ (HT.out.below hS.1) (HP.out.below hS.1)).mono ?_
        rintro e w11 ⟨rfl, hb11⟩
        refine hK.out _ _ (⟨hS.1.trans (hb11.mono hS.1.size), hS.2.1.below hb11, cell_below hS.2.2.1 hb11, cell_below hS.2.2.2.1 hb11, cell_below hS.2.2.2.2 hb11⟩) (fun hS9 => ?_)
        try simp only [Act.put, List.setIfInBounds_toArray, List.set_cons_zero, List.set_cons_succ]
        clear hK K9 hS
        have hS := hS9
        clear hS9
        refine wpAnyE_takeD (L := 999) (i := 8) (v := .bool true) (some 63) rfl rfl (by kernel_rfl) (by kernel_rfl) (by kernel_rfl) (by kernel_rfl) (fun _ _ _ h => h) (Or.inl ⟨by kernel_rfl, by intro u hSu; obtain ⟨-, ⟨p0, p1, p2, p3, p4⟩, q0, q1, q2⟩ := hSu; go_simp⟩) hS ?_
        try simp only [Act.put, List.setIfInBounds_toArray, List.set_cons_zero, List.set_cons_succ]
        refine wpAnyE_takeD (L := 999) (i := 9) (v := .bool true) (some 64) rfl rfl (by kernel_rfl) (by kernel_rfl) (by kernel_rfl) (by kernel_rfl) (fun _ _ _ h => h) (Or.inl ⟨by kernel_rfl, by intro u hSu; obtain ⟨-, ⟨p0, p1, p2, p3, p4⟩, q0, q1, q2⟩ := hSu; go_simp⟩) hS ?_
        try simp only [Act.put, List.setIfInBounds_toArray, List.set_cons_zero, List.set_cons_succ]
        refine wpAnyE_takeD (L := 999) (i := 10) (v := .bool true) (some 65) rfl rfl (by kernel_rfl) (by kernel_rfl) (by kernel_rfl) (by kernel_rfl) (fun _ _ _ h => h) (Or.inl ⟨by kernel_rfl, by intro u hSu; obtain ⟨-, ⟨p0, p1, p2, p3, p4⟩, q0, q1, q2⟩ := hSu; go_simp⟩) hS ?_
        try simp only [Act.put, List.setIfInBounds_toArray, List.set_cons_zero, List.set_cons_succ]
        refine wpAnyE_takeD (L := 999) (i := 11) (v := .pointer (some ⟨R, 1, none⟩)) (some 66) rfl rfl (by kernel_rfl) (by kernel_rfl) (by kernel_rfl) (by kernel_rfl) (fun _ _ _ h => h) (Or.inl ⟨by kernel_rfl, by intro u hSu; obtain ⟨-, ⟨p0, p1, p2, p3, p4⟩, q0, q1, q2⟩ := hSu; go_simp⟩) hS ?_
        try simp only [Act.put, List.setIfInBounds_toArray, List.set_cons_zero, List.set_cons_succ]
        refine wpAnyE_takeD (L := 999) (i := 12) (v := .pointer (some ⟨R, 1, none⟩)) (some 67) rfl rfl (by kernel_rfl) (by kernel_rfl) (by kernel_rfl) (by kernel_rfl) (fun _ _ _ h => h) (Or.inl ⟨by kernel_rfl, by intro u hSu; obtain ⟨-, ⟨p0, p1, p2, p3, p4⟩, q0, q1, q2⟩ := hSu; go_simp⟩) hS ?_
        try simp only [Act.put, List.setIfInBounds_toArray, List.set_cons_zero, List.set_cons_succ]
        refine wpAnyE_takeD (L := 999) (i := 13) (v := .int .i64 m) (some 68) rfl rfl (by kernel_rfl) (by kernel_rfl) (by kernel_rfl) (by kernel_rfl) (fun _ _ _ h => h) (Or.inl ⟨by kernel_rfl, by intro u hSu; obtain ⟨-, ⟨p0, p1, p2, p3, p4⟩, q0, q1, q2⟩ := hSu; go_simp⟩) hS ?_
        try simp only [Act.put, List.setIfInBounds_toArray, List.set_cons_zero, List.set_cons_succ]
        refine wpAnyE_takeD (L := 999) (i := 14) (v := .pointer (some ⟨A, 0, none⟩)) (some 69) rfl rfl (by kernel_rfl) (by kernel_rfl) (by kernel_rfl) (by kernel_rfl) (fun _ _ _ h => h) (Or.inl ⟨by kernel_rfl, by intro u hSu; obtain ⟨-, ⟨p0, p1, p2, p3, p4⟩, q0, q1, q2⟩ := hSu; go_simp⟩) hS ?_
        try simp only [Act.put, List.setIfInBounds_toArray, List.set_cons_zero, List.set_cons_succ]
        refine wpAnyE_takeD (L := 999) (i := 15) (v := .int .i64 m) (some 70) rfl rfl (by kernel_rfl) (by kernel_rfl) (by kernel_rfl) (by kernel_rfl) (fun _ _ _ h => h) (Or.inl ⟨by kernel_rfl, by intro u hSu; obtain ⟨-, ⟨p0, p1, p2, p3, p4⟩, q0, q1, q2⟩ := hSu; go_simp⟩) hS ?_
        try simp only [Act.put, List.setIfInBounds_toArray, List.set_cons_zero, List.set_cons_succ]
        refine wpAnyE_takeD (L := 999) (i := 16) (v := .bool true) (some 71) rfl rfl (by kernel_rfl) (by kernel_rfl) (by kernel_rfl) (by kernel_rfl) (fun _ _ _ h => h) (Or.inl ⟨by kernel_rfl, by intro u hSu; obtain ⟨-, ⟨p0, p1, p2, p3, p4⟩, q0, q1, q2⟩ := hSu; go_simp⟩) hS ?_
        try simp only [Act.put, List.setIfInBounds_toArray, List.set_cons_zero, List.set_cons_succ]
        refine wpAnyE_takeD (L := 999) (i := 17) (v := .bool true) (some 72) rfl rfl (by kernel_rfl) (by kernel_rfl) (by kernel_rfl) (by kernel_rfl) (fun _ _ _ h => h) (Or.inl ⟨by kernel_rfl, by intro u hSu; obtain ⟨-, ⟨p0, p1, p2, p3, p4⟩, q0, q1, q2⟩ := hSu; go_simp⟩) hS ?_
        try simp only [Act.put, List.setIfInBounds_toArray, List.set_cons_zero, List.set_cons_succ]
        refine wpAnyE_takeD (L := 999) (i := 18) (v := .bool true) (some 73) rfl rfl (by kernel_rfl) (by kernel_rfl) (by kernel_rfl) (by kernel_rfl) (fun _ _ _ h => h) (Or.inl ⟨by kernel_rfl, by intro u hSu; obtain ⟨-, ⟨p0, p1, p2, p3, p4⟩, q0, q1, q2⟩ := hSu; go_simp⟩) hS ?_
        try simp only [Act.put, List.setIfInBounds_toArray, List.set_cons_zero, List.set_cons_succ]
        refine wpAnyE_takeD (L := 999) (i := 19) (v := .pointer (some ⟨F, 1, none⟩)) (some 74) rfl rfl (by kernel_rfl) (by kernel_rfl) (by kernel_rfl) (by kernel_rfl) (fun _ _ _ h => h) (Or.inl ⟨by kernel_rfl, by intro u hSu; obtain ⟨-, ⟨p0, p1, p2, p3, p4⟩, q0, q1, q2⟩ := hSu; go_simp⟩) hS ?_
        try simp only [Act.put, List.setIfInBounds_toArray, List.set_cons_zero, List.set_cons_succ]
        refine wpAnyE_takeD (L := 999) (i := 20) (v := .string T) (some 75) rfl rfl (by kernel_rfl) (by kernel_rfl) (by kernel_rfl) (by kernel_rfl) (fun _ _ _ h => h) (Or.inl ⟨by kernel_rfl, by intro u hSu; obtain ⟨-, ⟨p0, p1, p2, p3, p4⟩, q0, q1, q2⟩ := hSu; go_simp⟩) hS ?_
        try simp only [Act.put, List.setIfInBounds_toArray, List.set_cons_zero, List.set_cons_succ]
        refine wpAnyE_takeD (L := 999) (i := 21) (v := .int .i64 T.size) (some 76) rfl rfl (by kernel_rfl) (by kernel_rfl) (by kernel_rfl) (by kernel_rfl) (fun _ _ _ h => h) (Or.inl ⟨by kernel_rfl, by intro u hSu; obtain ⟨-, ⟨p0, p1, p2, p3, p4⟩, q0, q1, q2⟩ := hSu; go_simp⟩) hS ?_
        try simp only [Act.put, List.setIfInBounds_toArray, List.set_cons_zero, List.set_cons_succ]
        refine wpAnyE_takeD (L := 999) (i := 22) (v := .bool true) (some 77) rfl rfl (by kernel_rfl) (by kernel_rfl) (by kernel_rfl) (by kernel_rfl) (fun _ _ _ h => h) (Or.inl ⟨by kernel_rfl, by intro u hSu; obtain ⟨-, ⟨p0, p1, p2, p3, p4⟩, q0, q1, q2⟩ := hSu; go_simp⟩) hS ?_
        try simp only [Act.put, List.setIfInBounds_toArray, List.set_cons_zero, List.set_cons_succ]
        refine wpAnyE_takeD (L := 999) (i := 23) (v := .bool true) (some 78) rfl rfl (by kernel_rfl) (by kernel_rfl) (by kernel_rfl) (by kernel_rfl) (fun _ _ _ h => h) (Or.inl ⟨by kernel_rfl, by intro u hSu; obtain ⟨-, ⟨p0, p1, p2, p3, p4⟩, q0, q1, q2⟩ := hSu; go_simp⟩) hS ?_
        try simp only [Act.put, List.setIfInBounds_toArray, List.set_cons_zero, List.set_cons_succ]
        refine wpAnyE_takeD (L := 999) (i := 24) (v := .bool true) (some 2) rfl rfl (by kernel_rfl) (by kernel_rfl) (by kernel_rfl) (by kernel_rfl) (fun _ _ _ h => h) (Or.inl ⟨by kernel_rfl, by intro u hSu; obtain ⟨-, ⟨p0, p1, p2, p3, p4⟩, q0, q1, q2⟩ := hSu; go_simp⟩) hS ?_
        try simp only [Act.put, List.setIfInBounds_toArray, List.set_cons_zero, List.set_cons_succ]
        have HB11 : Hid (Below w.heap.size w w11) := hS.1
        refine wpAnyE_done (by kernel_rfl) ?_ _
        go_simp
        go_wp2_with fail
        go_ret
        exact ⟨rfl, HB11.out⟩
    · rw [hA] at HPI
      have HPX : Hid (Calls Tryd.prog 7 #[.string s] w1 fun e w' => e = .returned (.agg #[.int .i64 5, .int .i64 0, .int .i64 0, .int .i64 0, .int .i64 0]) ∧ Below w1.heap.size w1 w') := HPI
      have HPS2 : Hid (∀ u : World, Calls Tryd.prog 6 #[.string s] u fun e w' => e = .returned (.agg #[.int .i64 5, .int .i64 0, .int .i64 0, .int .i64 0, .int .i64 0]) ∧ Below u.heap.size u w') := fun u => by
        have h := HPS u
        rw [hA] at h
        exact h
      clear HPI HPS hA
      go_wp2_with fail
      refine HPX.out.mono ?_
      rintro e w2 ⟨rfl, hb2⟩
      have HB2 : Hid (Below w.heap.size w w2) := HB1.out.trans (hb2.mono HB1.out.size)
      clear hb2
      go_upto_region 5 with fail
      have P3 := C5.new w2 5 0 0 0 0 25
      have HB3 : Hid (Below w.heap.size w (w2.alloc (.cells #[.int .i64 5, .int .i64 0, .int .i64 0, .int .i64 0, .int .i64 0] 25))) := HB2.out.alloc HB2.out.size _
      obtain ⟨P, hPP⟩ : ∃ P, P = w2.heap.size := ⟨_, rfl⟩
      rw [← hPP] at P3 ⊢
      generalize (w2.alloc (.cells #[.int .i64 5, .int .i64 0, .int .i64 0, .int .i64 0, .int .i64 0] 25)) = w3 at *
      clear hPP
      obtain ⟨p0, p1, p2, p3, p4⟩ := P3
      refine wp_region_E 999 (S := fun u => Below w.heap.size w u ∧ C5 u P 5 0 0 0 0) hmo ⟨HB3.out.drew, p0, p1, p2, p3, p4⟩ (fun hS => ?_)
      refine wpAnyE_takeD (L := 999) (i := 0) (v := .pointer (some ⟨P, 0, none⟩)) (some 14) rfl rfl (by kernel_rfl) (by kernel_rfl) (by kernel_rfl) (by kernel_rfl) (fun _ _ _ h => h) (Or.inl ⟨by kernel_rfl, by intro u hSu; go_simp⟩) hS ?_
      try simp only [Act.put, List.setIfInBounds_toArray, List.set_cons_zero, List.set_cons_succ]
      refine wpAnyE_takeD (L := 999) (i := 1) (v := .int .i64 5) (some 15) rfl rfl (by kernel_rfl) (by kernel_rfl) (by kernel_rfl) (by kernel_rfl) (fun _ _ _ h => h) (Or.inl ⟨by kernel_rfl, by intro u hSu; obtain ⟨-, p0, p1, p2, p3, p4⟩ := hSu; go_simp⟩) hS ?_
      try simp only [Act.put, List.setIfInBounds_toArray, List.set_cons_zero, List.set_cons_succ]
      refine wpAnyE_takeD (L := 999) (i := 2) (v := .bool true) (some 16) rfl rfl (by kernel_rfl) (by kernel_rfl) (by kernel_rfl) (by kernel_rfl) (fun _ _ _ h => h) (Or.inl ⟨by kernel_rfl, by intro u hSu; go_simp⟩) hS ?_
      try simp only [Act.put, List.setIfInBounds_toArray, List.set_cons_zero, List.set_cons_succ]
      refine wpAnyE_takeD (L := 999) (i := 3) (v := .bool true) (some 17) rfl rfl (by kernel_rfl) (by kernel_rfl) (by kernel_rfl) (by kernel_rfl) (fun _ _ _ h => h) (Or.inl ⟨by kernel_rfl, by intro u hSu; go_simp⟩) hS ?_
      try simp only [Act.put, List.setIfInBounds_toArray, List.set_cons_zero, List.set_cons_succ]
      refine wpAnyE_takeD (L := 999) (i := 4) (v := .string s) (some 18) rfl rfl (by kernel_rfl) (by kernel_rfl) (by kernel_rfl) (by kernel_rfl) (fun _ _ _ h => h) (Or.inl ⟨by kernel_rfl, by intro u hSu; go_simp⟩) hS ?_
      try simp only [Act.put, List.setIfInBounds_toArray, List.set_cons_zero, List.set_cons_succ]
      refine wpAnyE_takeD (L := 999) (i := 7) (v := .pointer (some ⟨P, 0, none⟩)) (some 21) rfl rfl (by kernel_rfl) (by kernel_rfl) (by kernel_rfl) (by kernel_rfl) (fun _ _ _ h => h) (Or.inl ⟨by kernel_rfl, by intro u hSu; go_simp⟩) hS ?_
      try simp only [Act.put, List.setIfInBounds_toArray, List.set_cons_zero, List.set_cons_succ]
      refine wpAnyE_takeD (L := 999) (i := 8) (v := .int .i64 5) (some 22) rfl rfl (by kernel_rfl) (by kernel_rfl) (by kernel_rfl) (by kernel_rfl) (fun _ _ _ h => h) (Or.inl ⟨by kernel_rfl, by intro u hSu; obtain ⟨-, p0, p1, p2, p3, p4⟩ := hSu; go_simp⟩) hS ?_
      try simp only [Act.put, List.setIfInBounds_toArray, List.set_cons_zero, List.set_cons_succ]
      refine wpAnyE_ready (rs := [5]) (by kernel_rfl) (by simp) ?_
      refine AllReadyE.cons rfl (fun K9 hK => ?_) AllReadyE.nil
      rw [if_pos (by kernel_rfl)]
      go_simp
      refine (HPS2.out _).mono ?_
      rintro e wa ⟨rfl, hba⟩
      refine hK.out _ _ (⟨hS.1.trans (hba.mono hS.1.size), hS.2.below hba⟩) (fun hS9 => ?_)
      try simp only [Act.put, List.setIfInBounds_toArray, List.set_cons_zero, List.set_cons_succ]
      clear hK K9 hS
      have hS := hS9
      clear hS9
      clear hba
      refine wpAnyE_takeD (L := 999) (i := 6) (v := .int .i64 5) (some 20) rfl rfl (by kernel_rfl) (by kernel_rfl) (by kernel_rfl) (by kernel_rfl) (fun _ _ _ h => h) (Or.inl ⟨by kernel_rfl, by intro u hSu; have hf : (Instr.field 25 (.agg #[.int .i64 5, .int .i64 0, .int .i64 0, .int .i64 0, .int .i64 0]) 0).run Tryd.prog u = .ok (.int .i64 5) u := (by kernel_rfl); go_simp⟩) hS ?_
      try simp only [Act.put, List.setIfInBounds_toArray, List.set_cons_zero, List.set_cons_succ]
      refine wpAnyE_takeD (L := 999) (i := 9) (v := .bool false) (some 23) rfl rfl (by kernel_rfl) (by kernel_rfl) (by kernel_rfl) (by kernel_rfl) (fun _ _ _ h => h) (Or.inl ⟨by kernel_rfl, by intro u hSu; go_simp⟩) hS ?_
      try simp only [Act.put, List.setIfInBounds_toArray, List.set_cons_zero, List.set_cons_succ]
      refine wpAnyE_takeD (L := 999) (i := 10) (v := .bool false) (some 24) rfl rfl (by kernel_rfl) (by kernel_rfl) (by kernel_rfl) (by kernel_rfl) (fun _ _ _ h => h) (Or.inl ⟨by kernel_rfl, by intro u hSu; go_simp⟩) hS ?_
      try simp only [Act.put, List.setIfInBounds_toArray, List.set_cons_zero, List.set_cons_succ]
      have HS4 := hS
      refine wpAnyE_done (by kernel_rfl) ?_ _
      go_simp
      clear p0 p1 p2 p3 p4
      go_upto_region 7 with fail
      refine wp_region_E 999 (S := fun u => Below w.heap.size w u ∧ C5 u P 5 0 0 0 0) hmo ⟨HS4.1.drew, HS4.2⟩ (fun hS => ?_)
      refine wpAnyE_takeD (L := 999) (i := 0) (v := .pointer (some ⟨P, 0, none⟩)) (some 25) rfl rfl (by kernel_rfl) (by kernel_rfl) (by kernel_rfl) (by kernel_rfl) (fun _ _ _ h => h) (Or.inl ⟨by kernel_rfl, by intro u hSu; obtain ⟨-, p0, p1, p2, p3, p4⟩ := hSu; go_simp⟩) hS ?_
      try simp only [Act.put, List.setIfInBounds_toArray, List.set_cons_zero, List.set_cons_succ]
      refine wpAnyE_takeD (L := 999) (i := 1) (v := .int .i64 5) (some 26) rfl rfl (by kernel_rfl) (by kernel_rfl) (by kernel_rfl) (by kernel_rfl) (fun _ _ _ h => h) (Or.inl ⟨by kernel_rfl, by intro u hSu; obtain ⟨-, p0, p1, p2, p3, p4⟩ := hSu; go_simp⟩) hS ?_
      try simp only [Act.put, List.setIfInBounds_toArray, List.set_cons_zero, List.set_cons_succ]
      refine wpAnyE_takeD (L := 999) (i := 2) (v := .bool false) (some 27) rfl rfl (by kernel_rfl) (by kernel_rfl) (by kernel_rfl) (by kernel_rfl) (fun _ _ _ h => h) (Or.inl ⟨by kernel_rfl, by intro u hSu; obtain ⟨-, p0, p1, p2, p3, p4⟩ := hSu; go_simp⟩) hS ?_
      try simp only [Act.put, List.setIfInBounds_toArray, List.set_cons_zero, List.set_cons_succ]
      refine wpAnyE_takeD (L := 999) (i := 3) (v := .bool false) (some 28) rfl rfl (by kernel_rfl) (by kernel_rfl) (by kernel_rfl) (by kernel_rfl) (fun _ _ _ h => h) (Or.inl ⟨by kernel_rfl, by intro u hSu; obtain ⟨-, p0, p1, p2, p3, p4⟩ := hSu; go_simp⟩) hS ?_
      try simp only [Act.put, List.setIfInBounds_toArray, List.set_cons_zero, List.set_cons_succ]
      refine wpAnyE_takeD (L := 999) (i := 4) (v := undef) (some 29) rfl rfl (by kernel_rfl) (by kernel_rfl) (by kernel_rfl) (by kernel_rfl) (fun _ _ _ h => h) (Or.inr ⟨by kernel_rfl, rfl⟩) hS ?_
      try simp only [Act.put, List.setIfInBounds_toArray, List.set_cons_zero, List.set_cons_succ]
      refine wpAnyE_takeD (L := 999) (i := 5) (v := undef) (some 30) rfl rfl (by kernel_rfl) (by kernel_rfl) (by kernel_rfl) (by kernel_rfl) (fun _ _ _ h => h) (Or.inr ⟨by kernel_rfl, rfl⟩) hS ?_
      try simp only [Act.put, List.setIfInBounds_toArray, List.set_cons_zero, List.set_cons_succ]
      refine wpAnyE_takeD (L := 999) (i := 6) (v := undef) (some 31) rfl rfl (by kernel_rfl) (by kernel_rfl) (by kernel_rfl) (by kernel_rfl) (fun _ _ _ h => h) (Or.inr ⟨by kernel_rfl, rfl⟩) hS ?_
      try simp only [Act.put, List.setIfInBounds_toArray, List.set_cons_zero, List.set_cons_succ]
      refine wpAnyE_takeD (L := 999) (i := 7) (v := undef) (some 32) rfl rfl (by kernel_rfl) (by kernel_rfl) (by kernel_rfl) (by kernel_rfl) (fun _ _ _ h => h) (Or.inr ⟨by kernel_rfl, rfl⟩) hS ?_
      try simp only [Act.put, List.setIfInBounds_toArray, List.set_cons_zero, List.set_cons_succ]
      refine wpAnyE_takeD (L := 999) (i := 8) (v := undef) (some 33) rfl rfl (by kernel_rfl) (by kernel_rfl) (by kernel_rfl) (by kernel_rfl) (fun _ _ _ h => h) (Or.inr ⟨by kernel_rfl, rfl⟩) hS ?_
      try simp only [Act.put, List.setIfInBounds_toArray, List.set_cons_zero, List.set_cons_succ]
      refine wpAnyE_takeD (L := 999) (i := 9) (v := undef) (some 34) rfl rfl (by kernel_rfl) (by kernel_rfl) (by kernel_rfl) (by kernel_rfl) (fun _ _ _ h => h) (Or.inr ⟨by kernel_rfl, rfl⟩) hS ?_
      try simp only [Act.put, List.setIfInBounds_toArray, List.set_cons_zero, List.set_cons_succ]
      refine wpAnyE_takeD (L := 999) (i := 10) (v := undef) (some 35) rfl rfl (by kernel_rfl) (by kernel_rfl) (by kernel_rfl) (by kernel_rfl) (fun _ _ _ h => h) (Or.inr ⟨by kernel_rfl, rfl⟩) hS ?_
      try simp only [Act.put, List.setIfInBounds_toArray, List.set_cons_zero, List.set_cons_succ]
      refine wpAnyE_takeD (L := 999) (i := 11) (v := undef) (some 36) rfl rfl (by kernel_rfl) (by kernel_rfl) (by kernel_rfl) (by kernel_rfl) (fun _ _ _ h => h) (Or.inr ⟨by kernel_rfl, rfl⟩) hS ?_
      try simp only [Act.put, List.setIfInBounds_toArray, List.set_cons_zero, List.set_cons_succ]
      refine wpAnyE_takeD (L := 999) (i := 12) (v := undef) (some 37) rfl rfl (by kernel_rfl) (by kernel_rfl) (by kernel_rfl) (by kernel_rfl) (fun _ _ _ h => h) (Or.inr ⟨by kernel_rfl, rfl⟩) hS ?_
      try simp only [Act.put, List.setIfInBounds_toArray, List.set_cons_zero, List.set_cons_succ]
      refine wpAnyE_takeD (L := 999) (i := 13) (v := .bool false) (some 38) rfl rfl (by kernel_rfl) (by kernel_rfl) (by kernel_rfl) (by kernel_rfl) (fun _ _ _ h => h) (Or.inl ⟨by kernel_rfl, by intro u hSu; go_simp⟩) hS ?_
      try simp only [Act.put, List.setIfInBounds_toArray, List.set_cons_zero, List.set_cons_succ]
      have HBc : Hid (Below w.heap.size w wa.drew) := hS.1
      refine wpAnyE_done (by kernel_rfl) ?_ _
      go_simp
      go_wp2_with fail
      refine (drawFormat_any a n cap z _ hn2 HZ.out (HA.out.below HBc.out)).mono ?_
      rintro e w5 ⟨kd, tx, ky, vl, rfl, hb5⟩
      have HB5 : Hid (Below w.heap.size w w5) := HBc.out.trans (hb5.mono HBc.out.size)
      clear hb5
      go_wp2_with fail
      have A5 := Box4.new w5 (.int .i64 kd) (.int .i64 tx) (.int .i64 ky) (.int .i64 vl) 23
      have HB6 : Hid (Below w.heap.size w (w5.alloc (.cells #[.int .i64 kd, .int .i64 tx, .int .i64 ky, .int .i64 vl] 23))) := HB5.out.alloc HB5.out.size _
      obtain ⟨A, hA⟩ : ∃ A, A = w5.heap.size := ⟨_, rfl⟩
      rw [← hA] at A5 ⊢
      generalize (w5.alloc (.cells #[.int .i64 kd, .int .i64 tx, .int .i64 ky, .int .i64 vl] 23)) = w6 at *
      clear hA
      have HFI := implFormat_any kd tx ky vl w6 (HT.out.below HB6.out) (HP.out.below HB6.out)
      unfold FRes at HFI
      cases hff : ffit kd tx ky vl with
      | false =>
        rw [(ff_no hff).1, (ff_no hff).2] at HFI
        have HFS : Hid (∀ u : World, Calls Tryd.prog 9 #[.agg #[.int .i64 kd, .int .i64 tx, .int .i64 ky, .int .i64 vl]] u fun e w' => e = .returned (.agg #[.int .i64 3, .string ByteArray.empty]) ∧ Below u.heap.size u w') := fun u => by
          have h := specFormat_any kd tx ky vl u
          unfold FRes at h
          rw [(ff_no hff).1, (ff_no hff).2] at h
          exact h
        have HFX : Hid (Calls Tryd.prog 11 #[.agg #[.int .i64 kd, .int .i64 tx, .int .i64 ky, .int .i64 vl]] w6 fun e w' => e = .returned (.agg #[.int .i64 3, .string ByteArray.empty]) ∧ Below w6.heap.size w6 w') := HFI
        clear hff HFI
        obtain ⟨a0, a1, a2, a3⟩ := A5
        go_wp2_with fail
        refine HFX.out.mono ?_
        rintro e w7 ⟨rfl, hb7⟩
        have HB7 : Hid (Below w.heap.size w w7) := HB6.out.trans (hb7.mono HB6.out.size)
        have A7 : Box4 w7 A (.int .i64 kd) (.int .i64 tx) (.int .i64 ky) (.int .i64 vl) := ⟨cell_below a0 hb7, cell_below a1 hb7, cell_below a2 hb7, cell_below a3 hb7⟩
        clear hb7 a0 a1 a2 a3
        go_upto_region 11 with fail
        have F8 := Box2.new w7 (.int .i64 3) (.string ByteArray.empty) 31
        have A8 := A7.alloc (.cells #[.int .i64 3, .string ByteArray.empty] 31)
        have HB8 : Hid (Below w.heap.size w (w7.alloc (.cells #[.int .i64 3, .string ByteArray.empty] 31))) := HB7.out.alloc HB7.out.size _
        obtain ⟨F, hF⟩ : ∃ F, F = w7.heap.size := ⟨_, rfl⟩
        rw [← hF] at F8 ⊢
        generalize (w7.alloc (.cells #[.int .i64 3, .string ByteArray.empty] 31)) = w8 at *
        clear hF A7
        obtain ⟨f0, f1⟩ := F8
        go_upto_region 12 with fail
        refine wp_region_E 999 (S := fun u => Below w.heap.size w u ∧ Box4 u A (.int .i64 kd) (.int .i64 tx) (.int .i64 ky) (.int .i64 vl) ∧ u.cell? ⟨F, 0, none⟩ = some (.int .i64 3)) hmo ⟨HB8.out.drew, A8, f0⟩ (fun hS => ?_)
        refine wpAnyE_takeD (L := 999) (i := 0) (v := .agg #[.int .i64 kd, .int .i64 tx, .int .i64 ky, .int .i64 vl]) (some 46) rfl rfl (by kernel_rfl) (by kernel_rfl) (by kernel_rfl) (by kernel_rfl) (fun _ _ _ h => h) (Or.inl ⟨by kernel_rfl, by intro u hSu; obtain ⟨-, ⟨p0, p1, p2, p3⟩, q0⟩ := hSu; go_simp⟩) hS ?_
        try simp only [Act.put, List.setIfInBounds_toArray, List.set_cons_zero, List.set_cons_succ]
        refine wpAnyE_takeD (L := 999) (i := 3) (v := .pointer (some ⟨F, 0, none⟩)) (some 49) rfl rfl (by kernel_rfl) (by kernel_rfl) (by kernel_rfl) (by kernel_rfl) (fun _ _ _ h => h) (Or.inl ⟨by kernel_rfl, by intro u hSu; go_simp⟩) hS ?_
        try simp only [Act.put, List.setIfInBounds_toArray, List.set_cons_zero, List.set_cons_succ]
        refine wpAnyE_takeD (L := 999) (i := 4) (v := .int .i64 3) (some 50) rfl rfl (by kernel_rfl) (by kernel_rfl) (by kernel_rfl) (by kernel_rfl) (fun _ _ _ h => h) (Or.inl ⟨by kernel_rfl, by intro u hSu; obtain ⟨-, ⟨p0, p1, p2, p3⟩, q0⟩ := hSu; go_simp⟩) hS ?_
        try simp only [Act.put, List.setIfInBounds_toArray, List.set_cons_zero, List.set_cons_succ]
        refine wpAnyE_ready (rs := [1]) (by kernel_rfl) (by simp) ?_
        refine AllReadyE.cons rfl (fun K9 hK => ?_) AllReadyE.nil
        go_simp
        refine (HFS.out _).mono ?_
        rintro e w9 ⟨rfl, hb9⟩
        refine hK.out _ _ (⟨hS.1.trans (hb9.mono hS.1.size), ⟨cell_below hS.2.1.1 hb9, cell_below hS.2.1.2.1 hb9, cell_below hS.2.1.2.2.1 hb9, cell_below hS.2.1.2.2.2 hb9⟩, cell_below hS.2.2 hb9⟩) (fun hS9 => ?_)
        try simp only [Act.put, List.setIfInBounds_toArray, List.set_cons_zero, List.set_cons_succ]
        clear hK K9 hS
        have hS := hS9
        clear hS9
        refine wpAnyE_takeD (L := 999) (i := 2) (v := .int .i64 3) (some 48) rfl rfl (by kernel_rfl) (by kernel_rfl) (by kernel_rfl) (by kernel_rfl) (fun _ _ _ h => h) (Or.inl ⟨by kernel_rfl, by intro u hSu; have hf : (Instr.field 31 (.agg #[.int .i64 3, .string ByteArray.empty]) 0).run Tryd.prog u = .ok (.int .i64 3) u := (by kernel_rfl); go_simp⟩) hS ?_
        try simp only [Act.put, List.setIfInBounds_toArray, List.set_cons_zero, List.set_cons_succ]
        refine wpAnyE_takeD (L := 999) (i := 5) (v := .bool true) (some 51) rfl rfl (by kernel_rfl) (by kernel_rfl) (by kernel_rfl) (by kernel_rfl) (fun _ _ _ h => h) (Or.inl ⟨by kernel_rfl, by intro u hSu; go_simp⟩) hS ?_
        try simp only [Act.put, List.setIfInBounds_toArray, List.set_cons_zero, List.set_cons_succ]
        refine wpAnyE_takeD (L := 999) (i := 6) (v := .bool true) (some 2) rfl rfl (by kernel_rfl) (by kernel_rfl) (by kernel_rfl) (by kernel_rfl) (fun _ _ _ h => h) (Or.inl ⟨by kernel_rfl, by intro u hSu; go_simp⟩) hS ?_
        try simp only [Act.put, List.setIfInBounds_toArray, List.set_cons_zero, List.set_cons_succ]
        have HB9 : Hid (Below w.heap.size w w9) := hS.1
        refine wpAnyE_done (by kernel_rfl) ?_ _
        go_simp
        go_wp2_with fail
        go_ret
        exact ⟨rfl, HB9.out⟩
      | true =>
        obtain ⟨m, rfl⟩ : ∃ m : Nat, kd = m := ⟨kd.toNat, by simp only [ffit, inB, Bool.and_eq_true, decide_eq_true_eq] at hff; omega⟩
        rw [(ff_yes hff).1] at HFI
        have hrd := read_c3 hff
        obtain ⟨hc1, hc2⟩ := text_cut hff
        have htp := text_pos hff
        have hts := ftext_size m tx ky vl
        generalize c3 m 0 tx = x' at *
        generalize c3 m 1 ky = y' at *
        generalize c3 m 2 vl = z' at *
        have HF2 : Hid (∀ u : World, TabAt u → PowAt u → Calls Tryd.prog 11 #[.agg #[.int .i64 (m : Int), .int .i64 x', .int .i64 y', .int .i64 z']] u fun e w' => e = .returned (.agg #[.int .i64 0, .string (ftext m tx ky vl)]) ∧ Below u.heap.size u w') := fun u h1 h2 => by
          have h := implFormat_any m x' y' z' u h1 h2
          unfold FRes at h
          rw [hc1, hc2] at h
          exact h
        have HFX : Hid (Calls Tryd.prog 11 #[.agg #[.int .i64 (m : Int), .int .i64 tx, .int .i64 ky, .int .i64 vl]] w6 fun e w' => e = .returned (.agg #[.int .i64 0, .string (ftext m tx ky vl)]) ∧ Below w6.heap.size w6 w') := HFI
        have HPR : Hid (∀ u : World, TabAt u → Calls Tryd.prog 7 #[.string (ftext m tx ky vl)] u fun e w' => e = .returned (.agg #[.int .i64 0, .int .i64 (m : Int), .int .i64 x', .int .i64 y', .int .i64 z']) ∧ Below u.heap.size u w') := fun u h1 => by
          have h := implParse_any (ftext m tx ky vl) u (by omega) h1
          rw [hrd] at h
          exact h
        clear hff HFI hrd hc1 hc2
        generalize ftext m tx ky vl = T at *
        have htp2 : (0 : Int) < (T.size : Int) := by omega
        obtain ⟨a0, a1, a2, a3⟩ := A5
        go_wp2_with fail
        refine HFX.out.mono ?_
        rintro e w7 ⟨rfl, hb7⟩
        have HB7 : Hid (Below w.heap.size w w7) := HB6.out.trans (hb7.mono HB6.out.size)
        have a7 : w7.cell? ⟨A, 0, none⟩ = some (.int .i64 (m : Int)) := cell_below a0 hb7
        clear hb7 a0 a1 a2 a3
        go_upto_region 11 with fail
        have F8 := Box2.new w7 (.int .i64 0) (.string T) 31
        have a8 := cell_alloc a7 (.cells #[.int .i64 0, .string T] 31)
        have HB8 : Hid (Below w.heap.size w (w7.alloc (.cells #[.int .i64 0, .string T] 31))) := HB7.out.alloc HB7.out.size _
        obtain ⟨F, hF⟩ : ∃ F, F = w7.heap.size := ⟨_, rfl⟩
        rw [← hF] at F8 ⊢
        generalize (w7.alloc (.cells #[.int .i64 0, .string T] 31)) = w8 at *
        clear hF a7
        obtain ⟨f0, f1⟩ := F8
        go_wp2_with fail
        refine (HPR.out _ (HT.out.below HB8.out)).mono ?_
        rintro e w9 ⟨rfl, hb9⟩
        have HB9 : Hid (Below w.heap.size w w9) := HB8.out.trans (hb9.mono HB8.out.size)
        have a9 := cell_below a8 hb9
        have f90 := cell_below f0 hb9
        have f91 := cell_below f1 hb9
        clear hb9 a8 f0 f1
        go_upto_region 14 with fail
        have R9 := C5.new w9 0 m x' y' z' 25
        have a10 := cell_alloc a9 (.cells #[.int .i64 0, .int .i64 (m : Int), .int .i64 x', .int .i64 y', .int .i64 z'] 25)
        have f100 := cell_alloc f90 (.cells #[.int .i64 0, .int .i64 (m : Int), .int .i64 x', .int .i64 y', .int .i64 z'] 25)
        have f101 := cell_alloc f91 (.cells #[.int .i64 0, .int .i64 (m : Int), .int .i64 x', .int .i64 y', .int .i64 z'] 25)
        have HB10 : Hid (Below w.heap.size w (w9.alloc (.cells #[.int .i64 0, .int .i64 (m : Int), .int .i64 x', .int .i64 y', .int .i64 z'] 25))) := HB9.out.alloc HB9.out.size _
        obtain ⟨R, hR⟩ : ∃ R, R = w9.heap.size := ⟨_, rfl⟩
        rw [← hR] at R9 ⊢
        generalize (w9.alloc (.cells #[.int .i64 0, .int .i64 (m : Int), .int .i64 x', .int .i64 y', .int .i64 z'] 25)) = w10 at *
        clear hR a9 f90 f91
        refine wp_region_E 999 (S := fun u => Below w.heap.size w u ∧ C5 u R 0 m x' y' z' ∧ u.cell? ⟨A, 0, none⟩ = some (.int .i64 (m : Int)) ∧ u.cell? ⟨F, 0, none⟩ = some (.int .i64 0) ∧ u.cell? ⟨F, 1, none⟩ = some (.string T)) hmo ⟨HB10.out.drew, R9, a10, f100, f101⟩ (fun hS => ?_)
        refine wpAnyE_takeD (L := 999) (i := 0) (v := .pointer (some ⟨R, 0, none⟩)) (some 55) rfl rfl (by kernel_rfl) (by kernel_rfl) (by kernel_rfl) (by kernel_rfl) (fun _ _ _ h => h) (Or.inl ⟨by kernel_rfl, by intro u hSu; obtain ⟨-, ⟨p0, p1, p2, p3, p4⟩, q0, q1, q2⟩ := hSu; go_simp⟩) hS ?_
        try simp only [Act.put, List.setIfInBounds_toArray, List.set_cons_zero, List.set_cons_succ]
        refine wpAnyE_takeD (L := 999) (i := 1) (v := .int .i64 0) (some 56) rfl rfl (by kernel_rfl) (by kernel_rfl) (by kernel_rfl) (by kernel_rfl) (fun _ _ _ h => h) (Or.inl ⟨by kernel_rfl, by intro u hSu; obtain ⟨-, ⟨p0, p1, p2, p3, p4⟩, q0, q1, q2⟩ := hSu; go_simp⟩) hS ?_
        try simp only [Act.put, List.setIfInBounds_toArray, List.set_cons_zero, List.set_cons_succ]
        refine wpAnyE_takeD (L := 999) (i := 2) (v := .bool true) (some 57) rfl rfl (by kernel_rfl) (by kernel_rfl) (by kernel_rfl) (by kernel_rfl) (fun _ _ _ h => h) (Or.inl ⟨by kernel_rfl, by intro u hSu; obtain ⟨-, ⟨p0, p1, p2, p3, p4⟩, q0, q1, q2⟩ := hSu; go_simp⟩) hS ?_
        try simp only [Act.put, List.setIfInBounds_toArray, List.set_cons_zero, List.set_cons_succ]
        refine wpAnyE_takeD (L := 999) (i := 3) (v := .bool true) (some 58) rfl rfl (by kernel_rfl) (by kernel_rfl) (by kernel_rfl) (by kernel_rfl) (fun _ _ _ h => h) (Or.inl ⟨by kernel_rfl, by intro u hSu; obtain ⟨-, ⟨p0, p1, p2, p3, p4⟩, q0, q1, q2⟩ := hSu; go_simp⟩) hS ?_
        try simp only [Act.put, List.setIfInBounds_toArray, List.set_cons_zero, List.set_cons_succ]
        refine wpAnyE_takeD (L := 999) (i := 4) (v := .pointer (some ⟨R, 1, none⟩)) (some 59) rfl rfl (by kernel_rfl) (by kernel_rfl) (by kernel_rfl) (by kernel_rfl) (fun _ _ _ h => h) (Or.inl ⟨by kernel_rfl, by intro u hSu; obtain ⟨-, ⟨p0, p1, p2, p3, p4⟩, q0, q1, q2⟩ := hSu; go_simp⟩) hS ?_
        try simp only [Act.put, List.setIfInBounds_toArray, List.set_cons_zero, List.set_cons_succ]
        refine wpAnyE_takeD (L := 999) (i := 5) (v := (.agg #[.int .i64 (m : Int), .int .i64 x', .int .i64 y', .int .i64 z'])) (some 60) rfl rfl (by kernel_rfl) (by kernel_rfl) (by kernel_rfl) (by kernel_rfl) (fun _ _ _ h => h) (Or.inl ⟨by kernel_rfl, by intro u hSu; obtain ⟨-, ⟨p0, p1, p2, p3, p4⟩, q0, q1, q2⟩ := hSu; go_simp⟩) hS ?_
        try simp only [Act.put, List.setIfInBounds_toArray, List.set_cons_zero, List.set_cons_succ]
        refine wpAnyE_takeD (L := 999) (i := 7) (v := (.agg #[.int .i64 0, .string T])) (some 62) rfl rfl (by kernel_rfl) (by kernel_rfl) (by kernel_rfl) (by kernel_rfl) (fun _ _ _ h => h) (Or.inl ⟨by kernel_rfl, by intro u hSu; obtain ⟨-, ⟨p0, p1, p2, p3, p4⟩, q0, q1, q2⟩ := hSu; go_simp⟩) hS ?_
        try simp only [Act.put, List.setIfInBounds_toArray, List.set_cons_zero, List.set_cons_succ]
        refine wpAnyE_ready (rs := [6]) (by kernel_rfl) (by simp) ?_
        refine AllReadyE.cons rfl (fun K9 hK => ?_) AllReadyE.nil
        rw [if_pos (by kernel_rfl)]
        go_simp
        refine (HF2.out _ (HT.out.below hS.1) (HP.out.below hS.1)).mono ?_
        rintro e w11 ⟨rfl, hb11⟩
        refine hK.out _ _ (⟨hS.1.trans (hb11.mono hS.1.size), hS.2.1.below hb11, cell_below hS.2.2.1 hb11, cell_below hS.2.2.2.1 hb11, cell_below hS.2.2.2.2 hb11⟩) (fun hS9 => ?_)
        try simp only [Act.put, List.setIfInBounds_toArray, List.set_cons_zero, List.set_cons_succ]
        clear hK K9 hS
        have hS := hS9
        clear hS9
        refine wpAnyE_takeD (L := 999) (i := 8) (v := .bool true) (some 63) rfl rfl (by kernel_rfl) (by kernel_rfl) (by kernel_rfl) (by kernel_rfl) (fun _ _ _ h => h) (Or.inl ⟨by kernel_rfl, by intro u hSu; obtain ⟨-, ⟨p0, p1, p2, p3, p4⟩, q0, q1, q2⟩ := hSu; go_simp⟩) hS ?_
        try simp only [Act.put, List.setIfInBounds_toArray, List.set_cons_zero, List.set_cons_succ]
        refine wpAnyE_takeD (L := 999) (i := 9) (v := .bool true) (some 64) rfl rfl (by kernel_rfl) (by kernel_rfl) (by kernel_rfl) (by kernel_rfl) (fun _ _ _ h => h) (Or.inl ⟨by kernel_rfl, by intro u hSu; obtain ⟨-, ⟨p0, p1, p2, p3, p4⟩, q0, q1, q2⟩ := hSu; go_simp⟩) hS ?_
        try simp only [Act.put, List.setIfInBounds_toArray, List.set_cons_zero, List.set_cons_succ]
        refine wpAnyE_takeD (L := 999) (i := 10) (v := .bool true) (some 65) rfl rfl (by kernel_rfl) (by kernel_rfl) (by kernel_rfl) (by kernel_rfl) (fun _ _ _ h => h) (Or.inl ⟨by kernel_rfl, by intro u hSu; obtain ⟨-, ⟨p0, p1, p2, p3, p4⟩, q0, q1, q2⟩ := hSu; go_simp⟩) hS ?_
        try simp only [Act.put, List.setIfInBounds_toArray, List.set_cons_zero, List.set_cons_succ]
        refine wpAnyE_takeD (L := 999) (i := 11) (v := .pointer (some ⟨R, 1, none⟩)) (some 66) rfl rfl (by kernel_rfl) (by kernel_rfl) (by kernel_rfl) (by kernel_rfl) (fun _ _ _ h => h) (Or.inl ⟨by kernel_rfl, by intro u hSu; obtain ⟨-, ⟨p0, p1, p2, p3, p4⟩, q0, q1, q2⟩ := hSu; go_simp⟩) hS ?_
        try simp only [Act.put, List.setIfInBounds_toArray, List.set_cons_zero, List.set_cons_succ]
        refine wpAnyE_takeD (L := 999) (i := 12) (v := .pointer (some ⟨R, 1, none⟩)) (some 67) rfl rfl (by kernel_rfl) (by kernel_rfl) (by kernel_rfl) (by kernel_rfl) (fun _ _ _ h => h) (Or.inl ⟨by kernel_rfl, by intro u hSu; obtain ⟨-, ⟨p0, p1, p2, p3, p4⟩, q0, q1, q2⟩ := hSu; go_simp⟩) hS ?_
        try simp only [Act.put, List.setIfInBounds_toArray, List.set_cons_zero, List.set_cons_succ]
        refine wpAnyE_takeD (L := 999) (i := 13) (v := .int .i64 m) (some 68) rfl rfl (by kernel_rfl) (by kernel_rfl) (by kernel_rfl) (by kernel_rfl) (fun _ _ _ h => h) (Or.inl ⟨by kernel_rfl, by intro u hSu; obtain ⟨-, ⟨p0, p1, p2, p3, p4⟩, q0, q1, q2⟩ := hSu; go_simp⟩) hS ?_
        try simp only [Act.put, List.setIfInBounds_toArray, List.set_cons_zero, List.set_cons_succ]
        refine wpAnyE_takeD (L := 999) (i := 14) (v := .pointer (some ⟨A, 0, none⟩)) (some 69) rfl rfl (by kernel_rfl) (by kernel_rfl) (by kernel_rfl) (by kernel_rfl) (fun _ _ _ h => h) (Or.inl ⟨by kernel_rfl, by intro u hSu; obtain ⟨-, ⟨p0, p1, p2, p3, p4⟩, q0, q1, q2⟩ := hSu; go_simp⟩) hS ?_
        try simp only [Act.put, List.setIfInBounds_toArray, List.set_cons_zero, List.set_cons_succ]
        refine wpAnyE_takeD (L := 999) (i := 15) (v := .int .i64 m) (some 70) rfl rfl (by kernel_rfl) (by kernel_rfl) (by kernel_rfl) (by kernel_rfl) (fun _ _ _ h => h) (Or.inl ⟨by kernel_rfl, by intro u hSu; obtain ⟨-, ⟨p0, p1, p2, p3, p4⟩, q0, q1, q2⟩ := hSu; go_simp⟩) hS ?_
        try simp only [Act.put, List.setIfInBounds_toArray, List.set_cons_zero, List.set_cons_succ]
        refine wpAnyE_takeD (L := 999) (i := 16) (v := .bool true) (some 71) rfl rfl (by kernel_rfl) (by kernel_rfl) (by kernel_rfl) (by kernel_rfl) (fun _ _ _ h => h) (Or.inl ⟨by kernel_rfl, by intro u hSu; obtain ⟨-, ⟨p0, p1, p2, p3, p4⟩, q0, q1, q2⟩ := hSu; go_simp⟩) hS ?_
        try simp only [Act.put, List.setIfInBounds_toArray, List.set_cons_zero, List.set_cons_succ]
        refine wpAnyE_takeD (L := 999) (i := 17) (v := .bool true) (some 72) rfl rfl (by kernel_rfl) (by kernel_rfl) (by kernel_rfl) (by kernel_rfl) (fun _ _ _ h => h) (Or.inl ⟨by kernel_rfl, by intro u hSu; obtain ⟨-, ⟨p0, p1, p2, p3, p4⟩, q0, q1, q2⟩ := hSu; go_simp⟩) hS ?_
        try simp only [Act.put, List.setIfInBounds_toArray, List.set_cons_zero, List.set_cons_succ]
        refine wpAnyE_takeD (L := 999) (i := 18) (v := .bool true) (some 73) rfl rfl (by kernel_rfl) (by kernel_rfl) (by kernel_rfl) (by kernel_rfl) (fun _ _ _ h => h) (Or.inl ⟨by kernel_rfl, by intro u hSu; obtain ⟨-, ⟨p0, p1, p2, p3, p4⟩, q0, q1, q2⟩ := hSu; go_simp⟩) hS ?_
        try simp only [Act.put, List.setIfInBounds_toArray, List.set_cons_zero, List.set_cons_succ]
        refine wpAnyE_takeD (L := 999) (i := 19) (v := .pointer (some ⟨F, 1, none⟩)) (some 74) rfl rfl (by kernel_rfl) (by kernel_rfl) (by kernel_rfl) (by kernel_rfl) (fun _ _ _ h => h) (Or.inl ⟨by kernel_rfl, by intro u hSu; obtain ⟨-, ⟨p0, p1, p2, p3, p4⟩, q0, q1, q2⟩ := hSu; go_simp⟩) hS ?_
        try simp only [Act.put, List.setIfInBounds_toArray, List.set_cons_zero, List.set_cons_succ]
        refine wpAnyE_takeD (L := 999) (i := 20) (v := .string T) (some 75) rfl rfl (by kernel_rfl) (by kernel_rfl) (by kernel_rfl) (by kernel_rfl) (fun _ _ _ h => h) (Or.inl ⟨by kernel_rfl, by intro u hSu; obtain ⟨-, ⟨p0, p1, p2, p3, p4⟩, q0, q1, q2⟩ := hSu; go_simp⟩) hS ?_
        try simp only [Act.put, List.setIfInBounds_toArray, List.set_cons_zero, List.set_cons_succ]
        refine wpAnyE_takeD (L := 999) (i := 21) (v := .int .i64 T.size) (some 76) rfl rfl (by kernel_rfl) (by kernel_rfl) (by kernel_rfl) (by kernel_rfl) (fun _ _ _ h => h) (Or.inl ⟨by kernel_rfl, by intro u hSu; obtain ⟨-, ⟨p0, p1, p2, p3, p4⟩, q0, q1, q2⟩ := hSu; go_simp⟩) hS ?_
        try simp only [Act.put, List.setIfInBounds_toArray, List.set_cons_zero, List.set_cons_succ]
        refine wpAnyE_takeD (L := 999) (i := 22) (v := .bool true) (some 77) rfl rfl (by kernel_rfl) (by kernel_rfl) (by kernel_rfl) (by kernel_rfl) (fun _ _ _ h => h) (Or.inl ⟨by kernel_rfl, by intro u hSu; obtain ⟨-, ⟨p0, p1, p2, p3, p4⟩, q0, q1, q2⟩ := hSu; go_simp⟩) hS ?_
        try simp only [Act.put, List.setIfInBounds_toArray, List.set_cons_zero, List.set_cons_succ]
        refine wpAnyE_takeD (L := 999) (i := 23) (v := .bool true) (some 78) rfl rfl (by kernel_rfl) (by kernel_rfl) (by kernel_rfl) (by kernel_rfl) (fun _ _ _ h => h) (Or.inl ⟨by kernel_rfl, by intro u hSu; obtain ⟨-, ⟨p0, p1, p2, p3, p4⟩, q0, q1, q2⟩ := hSu; go_simp⟩) hS ?_
        try simp only [Act.put, List.setIfInBounds_toArray, List.set_cons_zero, List.set_cons_succ]
        refine wpAnyE_takeD (L := 999) (i := 24) (v := .bool true) (some 2) rfl rfl (by kernel_rfl) (by kernel_rfl) (by kernel_rfl) (by kernel_rfl) (fun _ _ _ h => h) (Or.inl ⟨by kernel_rfl, by intro u hSu; obtain ⟨-, ⟨p0, p1, p2, p3, p4⟩, q0, q1, q2⟩ := hSu; go_simp⟩) hS ?_
        try simp only [Act.put, List.setIfInBounds_toArray, List.set_cons_zero, List.set_cons_succ]
        have HB11 : Hid (Below w.heap.size w w11) := hS.1
        refine wpAnyE_done (by kernel_rfl) ?_ _
        go_simp
        go_wp2_with fail
        go_ret
        exact ⟨rfl, HB11.out⟩
end Go.Proofs.YtiflheclfgloaaaDoor
