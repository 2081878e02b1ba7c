/- SameAnswers: spec.l7May. -/
import Derived.Test.YtnhlcadipkmhhaaGreatQSaa
import Derived.Test.YtnhlcadipkmhhaaGreatQWae
namespace Go.Proofs.YtnhlcadipkmhhaaGreat
open Go.RowKit Go.Deep
set_option linter.unusedVariables false
set_option linter.unusedSimpArgs false
set_option maxRecDepth 20000

def MyS (E : En) (x o : Int) (w : World) (e : Ending) (w' : World) : Prop := ∃ va vc, e = .returned (.slice va (myL E x o 32).length vc) ∧ Below w.heap.size w w' ∧ IntsAt w' va (myL E x o 32).length (zI (myL E x o 32))
set_option maxHeartbeats 16000000 in
theorem l7May_any (E : En) (B : Nat) (a : Option Addr) (cap : Nat) (a' : Option Addr) (cap' : Nat) (x o : Int) (w : World) (hq : E.q ≤ 32) (h : EBox w B a cap a' cap' E) :
    Calls Tryz.prog 35 #[.pointer (some ⟨B, 0, none⟩), .agg #[.int .i64 x, .int .i64 o]] w (MyS E x o w) := by
  have HX : Hid (EBox w B a cap a' cap' E) := h
  clear h
  have HI : Hid (∀ o1 : Obj, o1 = .cells #[.int .i64 x, .int .i64 o] 59 → Below w.heap.size w ((w.alloc o1).alloc (.cells #[] 2)) ∧ Box2 ((w.alloc o1).alloc (.cells #[] 2)) w.heap.size (.int .i64 x) (.int .i64 o) ∧ ((w.alloc o1).alloc (.cells #[] 2)).heap.size = w.heap.size + 2 ∧ ((w.alloc o1).alloc (.cells #[] 2)).ownsRow (w.heap.size + 1) 2 1 (.slice (some ⟨w.heap.size + 1, 0, none⟩) 0 0) 0 []) := by
    rintro o1 rfl
    refine ⟨((Below.refl _ _).alloc (Nat.le_refl _) _).alloc (by simp) _, (Box2.new w _ _ _).alloc _, by simp, ?_⟩
    have h := World.ownsRow_made (base := w.heap.size + 1) (e := 2) (size := 1) (w.alloc (.cells #[.int .i64 x, .int .i64 o] 59)) #[] 0 (by simp) (by unfold maxLen; omega) rfl
    rw [World.size_alloc] at h
    exact h
  go_enter Tryz.func35, Tryz.ntmps35
  go_wp2_with fail
  go_loopw [5, 6, 7] (fun v i _ wr => ∃ k : Nat, k ≤ 32 ∧ i = .int .i64 k ∧ Hid (Below w.heap.size w wr ∧ Box2 wr w.heap.size (.int .i64 x) (.int .i64 o) ∧ w.heap.size + 2 ≤ wr.heap.size) ∧ Hid (wr.ownsRow (w.heap.size + 1) 2 1 v (myL E x o k).length (il (myL E x o k)))) (fun _ i _ _ => 32 - (intOf i).toNat)
  case atStart =>
    obtain ⟨h1, h2, h3, h4⟩ := HI.out _ rfl
    exact ⟨0, Nat.zero_le _, rfl, ⟨h1, h2, by rw [h3]; omega⟩, h4⟩
  case round =>
    clear HI
    obtain ⟨k, hk, rfl, HB, HO⟩ := hrel
    have hsz := HB.out.2.2
    have HX1 : Hid (EBox wr B a cap a' cap' E) := HX.out.below HB.out.1
    obtain ⟨⟨b0, b1, b2, b3⟩, -, hRA⟩ := HX1.out
    obtain ⟨v0, v1⟩ := HB.out.2.1
    by_cases hlt : k < 32
    · have hlt' : (k : Int) ≤ 31 := by omega
      have hk0 : (0 : Int) ≤ (k : Int) := by omega
      have HLT : Hid (k < 32) := hlt
      have HLK : Hid ((myL E x o k).length ≤ 100000) := by have := myL_len E x o k; show _ ≤ _; omega
      rcases fR_cases E.q E.R (k : Int) with h1 | ⟨j, hj, h1⟩
      · have HMB : Hid (myB E x o (k : Int) = true) := myB_none h1
        have HE1 : Hid (myL E x o (k + 1) = myL E x o k ++ [(k : Int)]) := if_pos HMB.out
        have HH1 : Hid (fR E.q E.R (k : Int) = -1) := h1
        clear h1
        go_upto_region 6 with (first | (go_at_call 69; refine (l6Row_any E.q E.R B a' cap' (k : Int) _ (by omega) b3 hRA).mono ?_; rintro e w9 ⟨rfl, hw9⟩; rw [hw9, HH1.out]; clear hw9))
        refine wp_region_E 999 (S := fun u => Below wr.heap.size wr u) (by kernel_rfl) ((Below.refl _ _).drew) (fun hS => ?_)
        obtain ⟨u0, hu0⟩ : ∃ y, y = wr.drew := ⟨_, rfl⟩
        rw [← hu0] at hS ⊢
        clear hu0
        refine wpAnyE_takeD (L := 999) (i := 0) (v := .int .i64 (-1)) (some 16) rfl rfl (by kernel_rfl) (by kernel_rfl) (by kernel_rfl) (by kernel_rfl) (fun _ _ _ h => h) (Or.inl ⟨by kernel_rfl, by intro u hSu; go_simp⟩) hS ?_
        try simp only [Act.put, List.setIfInBounds_toArray, List.set_cons_zero, List.set_cons_succ]
        refine wpAnyE_takeD (L := 999) (i := 1) (v := .bool true) (some 17) rfl rfl (by kernel_rfl) (by kernel_rfl) (by kernel_rfl) (by kernel_rfl) (fun _ _ _ h => h) (Or.inl ⟨by kernel_rfl, by intro u hSu; go_simp⟩) hS ?_
        try simp only [Act.put, List.setIfInBounds_toArray, List.set_cons_zero, List.set_cons_succ]
        refine wpAnyE_takeD (L := 999) (i := 2) (v := .bool true) (some 18) rfl rfl (by kernel_rfl) (by kernel_rfl) (by kernel_rfl) (by kernel_rfl) (fun _ _ _ h => h) (Or.inl ⟨by kernel_rfl, by intro u hSu; go_simp⟩) hS ?_
        try simp only [Act.put, List.setIfInBounds_toArray, List.set_cons_zero, List.set_cons_succ]
        refine wpAnyE_takeD (L := 999) (i := 3) (v := undef) (some 19) rfl rfl (by kernel_rfl) (by kernel_rfl) (by kernel_rfl) (by kernel_rfl) (fun _ _ _ h => h) (Or.inr ⟨by kernel_rfl, rfl⟩) hS ?_
        try simp only [Act.put, List.setIfInBounds_toArray, List.set_cons_zero, List.set_cons_succ]
        refine wpAnyE_takeD (L := 999) (i := 4) (v := undef) (some 20) rfl rfl (by kernel_rfl) (by kernel_rfl) (by kernel_rfl) (by kernel_rfl) (fun _ _ _ h => h) (Or.inr ⟨by kernel_rfl, rfl⟩) hS ?_
        try simp only [Act.put, List.setIfInBounds_toArray, List.set_cons_zero, List.set_cons_succ]
        refine wpAnyE_takeD (L := 999) (i := 5) (v := undef) (some 21) rfl rfl (by kernel_rfl) (by kernel_rfl) (by kernel_rfl) (by kernel_rfl) (fun _ _ _ h => h) (Or.inr ⟨by kernel_rfl, rfl⟩) hS ?_
        try simp only [Act.put, List.setIfInBounds_toArray, List.set_cons_zero, List.set_cons_succ]
        refine wpAnyE_takeD (L := 999) (i := 6) (v := undef) (some 22) rfl rfl (by kernel_rfl) (by kernel_rfl) (by kernel_rfl) (by kernel_rfl) (fun _ _ _ h => h) (Or.inr ⟨by kernel_rfl, rfl⟩) hS ?_
        try simp only [Act.put, List.setIfInBounds_toArray, List.set_cons_zero, List.set_cons_succ]
        refine wpAnyE_takeD (L := 999) (i := 7) (v := undef) (some 23) rfl rfl (by kernel_rfl) (by kernel_rfl) (by kernel_rfl) (by kernel_rfl) (fun _ _ _ h => h) (Or.inr ⟨by kernel_rfl, rfl⟩) hS ?_
        try simp only [Act.put, List.setIfInBounds_toArray, List.set_cons_zero, List.set_cons_succ]
        refine wpAnyE_takeD (L := 999) (i := 8) (v := undef) (some 24) rfl rfl (by kernel_rfl) (by kernel_rfl) (by kernel_rfl) (by kernel_rfl) (fun _ _ _ h => h) (Or.inr ⟨by kernel_rfl, rfl⟩) hS ?_
        try simp only [Act.put, List.setIfInBounds_toArray, List.set_cons_zero, List.set_cons_succ]
        refine wpAnyE_takeD (L := 999) (i := 9) (v := undef) (some 25) rfl rfl (by kernel_rfl) (by kernel_rfl) (by kernel_rfl) (by kernel_rfl) (fun _ _ _ h => h) (Or.inr ⟨by kernel_rfl, rfl⟩) hS ?_
        try simp only [Act.put, List.setIfInBounds_toArray, List.set_cons_zero, List.set_cons_succ]
        refine wpAnyE_takeD (L := 999) (i := 10) (v := undef) (some 26) rfl rfl (by kernel_rfl) (by kernel_rfl) (by kernel_rfl) (by kernel_rfl) (fun _ _ _ h => h) (Or.inr ⟨by kernel_rfl, rfl⟩) hS ?_
        try simp only [Act.put, List.setIfInBounds_toArray, List.set_cons_zero, List.set_cons_succ]
        refine wpAnyE_takeD (L := 999) (i := 11) (v := undef) (some 27) rfl rfl (by kernel_rfl) (by kernel_rfl) (by kernel_rfl) (by kernel_rfl) (fun _ _ _ h => h) (Or.inr ⟨by kernel_rfl, rfl⟩) hS ?_
        try simp only [Act.put, List.setIfInBounds_toArray, List.set_cons_zero, List.set_cons_succ]
        refine wpAnyE_takeD (L := 999) (i := 12) (v := undef) (some 28) rfl rfl (by kernel_rfl) (by kernel_rfl) (by kernel_rfl) (by kernel_rfl) (fun _ _ _ h => h) (Or.inr ⟨by kernel_rfl, rfl⟩) hS ?_
        try simp only [Act.put, List.setIfInBounds_toArray, List.set_cons_zero, List.set_cons_succ]
        refine wpAnyE_takeD (L := 999) (i := 13) (v := .bool true) (some 29) rfl rfl (by kernel_rfl) (by kernel_rfl) (by kernel_rfl) (by kernel_rfl) (fun _ _ _ h => h) (Or.inl ⟨by kernel_rfl, by intro u hSu; go_simp⟩) hS ?_
        try simp only [Act.put, List.setIfInBounds_toArray, List.set_cons_zero, List.set_cons_succ]
        refine wpAnyE_done (by kernel_rfl) ?_ _
        go_simp
        have HBU : Hid (Below wr.heap.size wr _) := hS
        have HBC : Hid (Below w.heap.size w u0 ∧ Box2 u0 w.heap.size (.int .i64 x) (.int .i64 o) ∧ w.heap.size + 2 ≤ u0.heap.size) := ⟨below_then HB.out.1 HBU.out, HB.out.2.1.below HBU.out, Nat.le_trans hsz (HBU.out).size⟩
        have HOC := own_belowI HO.out HBU.out
        have hszc : w.heap.size + 2 ≤ u0.heap.size := HBC.out.2.2
        · clear v0 v1 b0 b1 b2 b3 hS
          have HOA : Hid (∀ o1 : Obj, (u0.alloc o1).ownsRow (w.heap.size + 1) 2 1 _ (myL E x o k).length (il (myL E x o k))) := fun o1 => own_belowI HOC (below_new _ _)
          clear HOC HO HB
          generalize myL E x o k = zs at *
          go_wp2_with (at_builtin; refine wpList_appI _ rfl (.tmp 30) (.tmp 32) rfl (w.heap.size + 1) _ zs rfl (HOA.out _) u0.heap.size 0 1 (k : Int) rfl (by simp [go_sem]) (by simp; omega) HLK.out ?_)
          intro v2 w3 ho3 hg3
          have HB3 : Hid (Below w.heap.size w w3 ∧ Box2 w3 w.heap.size (.int .i64 x) (.int .i64 o) ∧ w.heap.size + 2 ≤ w3.heap.size) := by
            have hlo := fun q hq => ((HOA.out (.cells #[.int .i64 (k : Int)] 2)).lt q hq).1
            have hw : Writes (w.heap.size + 1) (u0.alloc (.cells #[.int .i64 (k : Int)] 2)).heap.size (u0.alloc (.cells #[.int .i64 (k : Int)] 2)) w3 := ⟨hg3.os, hg3.tape, hg3.output, hg3.size, fun q hq hd => hg3.block q hq fun e => by have := hlo q e.symm; omega⟩
            refine ⟨Writes.below (below_then HBC.out.1 (below_new _ _)) hw (by omega), (HBC.out.2.1.below (below_new _ _)).writes hw (by omega), ?_⟩
            have := hg3.size
            simp at this
            omega
          have HO3 : Hid (w3.ownsRow (w.heap.size + 1) 2 1 v2 (myL E x o (k + 1)).length (il (myL E x o (k + 1)))) := by
            show w3.ownsRow _ _ _ _ _ _
            rw [HE1.out]
            first | exact ho3 | simpa using ho3
          clear ho3 hg3 HOA
          go_wp2_with fail
          go_roundw
          case rel => exact ⟨k + 1, HLT.out, by go_num, HB3, HO3⟩
          case measure => simp [intOf]; omega
      · rcases hRA with h | ⟨rb, ro, rfl, hrl, hrc⟩
        · omega
        obtain ⟨ri, rcp, ⟨z0, z1⟩, hrv, -⟩ := hrc j hj
        have HRV : Hid (VersAt wr ri (E.R j).n (E.R j).U) := hrv
        have HRA : Hid (RwsAt wr (some ⟨rb, ro, none⟩) E.q E.R) := .inr ⟨rb, ro, rfl, hrl, hrc⟩
        have HMB : Hid (myB E x o (k : Int) = mayB (E.R j).n (E.R j).U x o) := myB_some h1
        have HH1 : Hid (fR E.q E.R (k : Int) = (j : Int)) := h1
        have hj1 : (j : Int) < (E.q : Int) := by omega
        have hj0 : (0 : Int) ≤ (j : Int) := by omega
        have hj3 : ¬ ((j : Int) < 0) := by omega
        clear h1 hrv hrc z0
        go_upto_region 6 with (first | (go_at_call 69; refine (l6Row_any E.q E.R B _ cap' (k : Int) _ (by omega) b3 HRA.out).mono ?_; rintro e w9 ⟨rfl, hw9⟩; rw [hw9, HH1.out]; clear hw9))
        refine wp_region_E 999 (S := fun u => Below wr.heap.size wr u) (by kernel_rfl) ((Below.refl _ _).drew) (fun hS => ?_)
        obtain ⟨u0, hu0⟩ : ∃ y, y = wr.drew := ⟨_, rfl⟩
        rw [← hu0] at hS ⊢
        clear hu0
        refine wpAnyE_takeD (L := 999) (i := 0) (v := .int .i64 (j : Int)) (some 16) rfl rfl (by kernel_rfl) (by kernel_rfl) (by kernel_rfl) (by kernel_rfl) (fun _ _ _ h => h) (Or.inl ⟨by kernel_rfl, by intro u hSu; go_simp⟩) hS ?_
        try simp only [Act.put, List.setIfInBounds_toArray, List.set_cons_zero, List.set_cons_succ]
        refine wpAnyE_takeD (L := 999) (i := 1) (v := .bool false) (some 17) rfl rfl (by kernel_rfl) (by kernel_rfl) (by kernel_rfl) (by kernel_rfl) (fun _ _ _ h => h) (Or.inl ⟨by kernel_rfl, by intro u hSu; go_simp⟩) hS ?_
        try simp only [Act.put, List.setIfInBounds_toArray, List.set_cons_zero, List.set_cons_succ]
        refine wpAnyE_takeD (L := 999) (i := 2) (v := .bool false) (some 18) rfl rfl (by kernel_rfl) (by kernel_rfl) (by kernel_rfl) (by kernel_rfl) (fun _ _ _ h => h) (Or.inl ⟨by kernel_rfl, by intro u hSu; go_simp⟩) hS ?_
        try simp only [Act.put, List.setIfInBounds_toArray, List.set_cons_zero, List.set_cons_succ]
        refine wpAnyE_takeD (L := 999) (i := 3) (v := .pointer (some ⟨B, 0, none⟩)) (some 19) rfl rfl (by kernel_rfl) (by kernel_rfl) (by kernel_rfl) (by kernel_rfl) (fun _ _ _ h => h) (Or.inl ⟨by kernel_rfl, by intro u hSu; go_simp⟩) hS ?_
        try simp only [Act.put, List.setIfInBounds_toArray, List.set_cons_zero, List.set_cons_succ]
        refine wpAnyE_takeD (L := 999) (i := 4) (v := .pointer (some ⟨B, 0, none⟩)) (some 20) rfl rfl (by kernel_rfl) (by kernel_rfl) (by kernel_rfl) (by kernel_rfl) (fun _ _ _ h => h) (Or.inl ⟨by kernel_rfl, by intro u hSu; go_simp⟩) hS ?_
        try simp only [Act.put, List.setIfInBounds_toArray, List.set_cons_zero, List.set_cons_succ]
        refine wpAnyE_takeD (L := 999) (i := 5) (v := .pointer (some ⟨B, 3, none⟩)) (some 21) rfl rfl (by kernel_rfl) (by kernel_rfl) (by kernel_rfl) (by kernel_rfl) (fun _ _ _ h => h) (Or.inl ⟨by kernel_rfl, by intro u hSu; go_simp⟩) hS ?_
        try simp only [Act.put, List.setIfInBounds_toArray, List.set_cons_zero, List.set_cons_succ]
        refine wpAnyE_takeD (L := 999) (i := 6) (v := .slice (some ⟨rb, ro, none⟩) E.q cap') (some 22) rfl rfl (by kernel_rfl) (by kernel_rfl) (by kernel_rfl) (by kernel_rfl) (fun _ _ _ h => h) (Or.inl ⟨by kernel_rfl, by intro u hSu; have gb3 := cell_below b3 hSu; go_simp⟩) hS ?_
        try simp only [Act.put, List.setIfInBounds_toArray, List.set_cons_zero, List.set_cons_succ]
        refine wpAnyE_takeD (L := 999) (i := 7) (v := .int .i64 (j : Int)) (some 23) rfl rfl (by kernel_rfl) (by kernel_rfl) (by kernel_rfl) (by kernel_rfl) (fun _ _ _ h => h) (Or.inl ⟨by kernel_rfl, by intro u hSu; go_simp⟩) hS ?_
        try simp only [Act.put, List.setIfInBounds_toArray, List.set_cons_zero, List.set_cons_succ]
        refine wpAnyE_takeD (L := 999) (i := 8) (v := .pointer (some ⟨rb, ro + j * 2, none⟩)) (some 24) rfl rfl (by kernel_rfl) (by kernel_rfl) (by kernel_rfl) (by kernel_rfl) (fun _ _ _ h => h) (Or.inl ⟨by kernel_rfl, by intro u hSu; go_simp⟩) hS ?_
        try simp only [Act.put, List.setIfInBounds_toArray, List.set_cons_zero, List.set_cons_succ]
        refine wpAnyE_takeD (L := 999) (i := 9) (v := .pointer (some ⟨rb, ro + j * 2 + 1, none⟩)) (some 25) rfl rfl (by kernel_rfl) (by kernel_rfl) (by kernel_rfl) (by kernel_rfl) (fun _ _ _ h => h) (Or.inl ⟨by kernel_rfl, by intro u hSu; go_simp⟩) hS ?_
        try simp only [Act.put, List.setIfInBounds_toArray, List.set_cons_zero, List.set_cons_succ]
        refine wpAnyE_takeD (L := 999) (i := 10) (v := .slice ri (E.R j).n rcp) (some 26) rfl rfl (by kernel_rfl) (by kernel_rfl) (by kernel_rfl) (by kernel_rfl) (fun _ _ _ h => h) (Or.inl ⟨by kernel_rfl, by intro u hSu; have gz1 := cell_below z1 hSu; go_simp⟩) hS ?_
        try simp only [Act.put, List.setIfInBounds_toArray, List.set_cons_zero, List.set_cons_succ]
        refine wpAnyE_takeD (L := 999) (i := 11) (v := .agg #[.int .i64 x, .int .i64 o]) (some 27) rfl rfl (by kernel_rfl) (by kernel_rfl) (by kernel_rfl) (by kernel_rfl) (fun _ _ _ h => h) (Or.inl ⟨by kernel_rfl, by intro u hSu; have gv0 := cell_below v0 hSu; have gv1 := cell_below v1 hSu; go_simp⟩) hS ?_
        try simp only [Act.put, List.setIfInBounds_toArray, List.set_cons_zero, List.set_cons_succ]
        refine wpAnyE_ready (rs := [12]) (by kernel_rfl) (by simp) ?_
        refine AllReadyE.cons rfl (fun K9 hK => ?_) AllReadyE.nil
        rw [if_pos (by kernel_rfl)]
        go_simp
        refine (l5May_any (E.R j).n (E.R j).U ri rcp x o _ (HRV.out.below hS)).mono ?_
        rintro e u1 ⟨rfl, hbu⟩
        have HBU : Hid (Below wr.heap.size wr u1) := below_then hS hbu
        refine hK.out _ _ (below_then hS hbu) (fun hS9 => ?_)
        try simp only [Act.put, List.setIfInBounds_toArray, List.set_cons_zero, List.set_cons_succ]
        clear hK K9 hS hbu
        have hS := hS9
        clear hS9
        refine wpAnyE_takeD (L := 999) (i := 13) (v := .bool (mayB (E.R j).n (E.R j).U x o)) (some 29) rfl rfl (by kernel_rfl) (by kernel_rfl) (by kernel_rfl) (by kernel_rfl) (fun _ _ _ h => h) (Or.inl ⟨by kernel_rfl, by intro u hSu; go_simp⟩) hS ?_
        try simp only [Act.put, List.setIfInBounds_toArray, List.set_cons_zero, List.set_cons_succ]
        refine wpAnyE_done (by kernel_rfl) ?_ _
        go_simp
        rw [← HMB.out]
        have HBC : Hid (Below w.heap.size w u1 ∧ Box2 u1 w.heap.size (.int .i64 x) (.int .i64 o) ∧ w.heap.size + 2 ≤ u1.heap.size) := ⟨below_then HB.out.1 HBU.out, HB.out.2.1.below HBU.out, Nat.le_trans hsz (HBU.out).size⟩
        have HOC := own_belowI HO.out HBU.out
        have hszc : w.heap.size + 2 ≤ u1.heap.size := HBC.out.2.2
        clear v0 v1 b0 b1 b2 b3 z1 hS
        obtain hm | hm := bool_or2 (myB E x o (k : Int))
        · have HE1 : Hid (myL E x o (k + 1) = myL E x o k ++ [(k : Int)]) := if_pos hm
          rw [hm]
          clear hm HMB
          have HOA : Hid (∀ o1 : Obj, (u1.alloc o1).ownsRow (w.heap.size + 1) 2 1 _ (myL E x o k).length (il (myL E x o k))) := fun o1 => own_belowI HOC (below_new _ _)
          clear HOC HO HB
          generalize myL E x o k = zs at *
          go_wp2_with (at_builtin; refine wpList_appI _ rfl (.tmp 30) (.tmp 32) rfl (w.heap.size + 1) _ zs rfl (HOA.out _) u1.heap.size 0 1 (k : Int) rfl (by simp [go_sem]) (by simp; omega) HLK.out ?_)
          intro v2 w3 ho3 hg3
          have HB3 : Hid (Below w.heap.size w w3 ∧ Box2 w3 w.heap.size (.int .i64 x) (.int .i64 o) ∧ w.heap.size + 2 ≤ w3.heap.size) := by
            have hlo := fun q hq => ((HOA.out (.cells #[.int .i64 (k : Int)] 2)).lt q hq).1
            have hw : Writes (w.heap.size + 1) (u1.alloc (.cells #[.int .i64 (k : Int)] 2)).heap.size (u1.alloc (.cells #[.int .i64 (k : Int)] 2)) w3 := ⟨hg3.os, hg3.tape, hg3.output, hg3.size, fun q hq hd => hg3.block q hq fun e => by have := hlo q e.symm; omega⟩
            refine ⟨Writes.below (below_then HBC.out.1 (below_new _ _)) hw (by omega), (HBC.out.2.1.below (below_new _ _)).writes hw (by omega), ?_⟩
            have := hg3.size
            simp at this
            omega
          have HO3 : Hid (w3.ownsRow (w.heap.size + 1) 2 1 v2 (myL E x o (k + 1)).length (il (myL E x o (k + 1)))) := by
            show w3.ownsRow _ _ _ _ _ _
            rw [HE1.out]
            first | exact ho3 | simpa using ho3
          clear ho3 hg3 HOA
          go_wp2_with fail
          go_roundw
          case rel => exact ⟨k + 1, HLT.out, by go_num, HB3, HO3⟩
          case measure => simp [intOf]; omega
        · have HE1 : Hid (myL E x o (k + 1) = myL E x o k) := if_neg (by simp [hm])
          rw [← HE1.out] at HOC
          have HO3 : Hid (World.ownsRow _ _ _ _ _ _ _) := HOC
          rw [hm]
          clear hm HOC HO HB HMB
          go_wp2_with fail
          go_roundw
          case rel => exact ⟨k + 1, HLT.out, by go_num, HBC, HO3⟩
          case measure => simp [intOf]; omega
    · have hkn : k = 32 := by omega
      subst hkn
      obtain ⟨va, vc, rfl, hO⟩ := ownI_of_row HO.out
      have HF : Hid (Below w.heap.size w wr ∧ IntsAt wr va (myL E x o 32).length (zI (myL E x o 32))) := ⟨HB.out.1, hO.at⟩
      have HL : Hid ((myL E x o 32).length = (myL E x o 32).length) := rfl
      clear HO hO HB b0 b1 b2 b3 v0 v1
      obtain ⟨len, hlen⟩ : ∃ y, y = (myL E x o 32).length := ⟨_, rfl⟩
      have HLE : Hid (len = (myL E x o 32).length) := hlen
      rw [← hlen]
      clear hlen HL
      go_wp2_with fail
      go_ret
      exact ⟨va, vc, by rw [HLE.out] <;> rfl, HF.out.1, HF.out.2⟩
end Go.Proofs.YtnhlcadipkmhhaaGreat
