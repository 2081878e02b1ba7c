/- FnExactUnpackRecs: the walk of the law. -/
import Derived.Test.YtdanabecpmhjhaaUw
import Derived.Test.YtdanabecpmhjhaaCp
namespace Go.Proofs.Ytdanabecpmhjhaa
open Go.RowKit Go.Deep
set_option linter.unusedVariables false
set_option maxRecDepth 20000

theorem ownB_new {w w0 : World} {n : Nat} {z : Nat → Int} {o : Obj} (h : w.rowIs (w0.alloc o).heap.size 5 n (fun i => .int .u8 (z i))) : OwnB w (w0.heap.size + 1) w.heap.size (some ⟨w0.heap.size + 1, 0, none⟩) n z := by
  rw [World.size_alloc] at h
  have r := Row1.of_row h
  exact ⟨Nat.le_refl _, .inr ⟨_, 0, rfl, Nat.le_refl _, h.lt, r.1, r.2⟩⟩
set_option maxHeartbeats 8000000 in
theorem unpackRecsLaw_small (n : Nat) (z : Nat → Int) (a : Option Addr) (cap : Nat) (w : World) (hn : n ≤ 1048576) (HA0 : BytesAt w a n z) (c u : Int) (N : Nat) (R : Nat → Rc) (hN : N ≤ 4000)
    (HP : Hid (∀ (b : Nat) (w : World), b < w.heap.size → Row1 w b 0 n z → Calls Try.prog 11 #[.slice (some ⟨b, 0, none⟩) n n] w fun e w' => ∃ a cap, e = .returned (.agg #[.int .i64 c, .int .i64 u, .slice a N cap]) ∧ Below w.heap.size w w' ∧ Own8 w' w.heap.size w'.heap.size a N R))
    (HQ : Hid (∀ (b : Nat) (w : World), b < w.heap.size → Row1 w b 0 n z → Calls Try.prog 13 #[.slice (some ⟨b, 0, none⟩) n n] w fun e w' => ∃ a cap, e = .returned (.agg #[.int .i64 c, .int .i64 u, .slice a N cap]) ∧ Below w.heap.size w w' ∧ Own8 w' w.heap.size w'.heap.size a N R)) :
    Calls Try.prog 3 #[.slice a n cap] w fun e w' => e = .returned (.bool true) ∧ Below w.heap.size w w' := by
  go_enter Try.func3, Try.ntmps3
  have hneg : ¬ (1048576 < (n : Int)) := by omega
  have hneg2 : ¬ ((1 : Int) + (n : Int) < 0) := by omega
  have hneg3 : ¬ ((1 : Int) + (N : Int) * 8 < 0) := by omega
  go_wp2_with fail
  refine (toByteS_any n z a cap _ (by omega) HA0).mono ?_
  rintro e w1 ⟨rfl, hb, ho⟩
  have hB : Below w.heap.size w w1 := hb
  have HA := HA0.below hB
  have sw1 : Hid (w.heap.size ≤ w1.heap.size) := by have hq := hb.size; show w.heap.size ≤ w1.heap.size; omega
  clear hb
  go_wp2_with fail
  refine (HP.out _ _ ho.lt (Row1.of_row ho)).mono ?_
  rintro e w2 ⟨aw, cw, rfl, hb, OW⟩
  replace hB := below_then hB hb
  replace HA := HA.below hb
  have sw2 : Hid (w1.heap.size ≤ w2.heap.size) := by have hq := hb.size; show w1.heap.size ≤ w2.heap.size; omega
  clear hb
  clear ho
  go_wp2_with fail
  refine (toByteS_any n z a cap _ (by omega) (HA.below (below_new _ _))).mono ?_
  rintro e w3 ⟨rfl, hb, ho⟩
  replace hB := below_then hB (below_then (below_new _ _) hb)
  have BW := (Box3.new w2 (.int .i64 c) (.int .i64 u) (.slice aw N cw) 25).below hb
  replace OW := (OW.below (below_new _ _)).below hb
  replace HA := (HA.below (below_new _ _)).below hb
  have sw3 : Hid (w2.heap.size < w3.heap.size) := by have hq := hb.size; simp at hq; show w2.heap.size < w3.heap.size; omega
  have OX : OwnB w3 (w2.heap.size + 1) w3.heap.size (some ⟨w2.heap.size + 1, 0, none⟩) n z := ownB_new ho
  rw [World.size_alloc] at ho
  clear hb
  go_wp2_with fail
  refine (HQ.out _ _ ho.lt (Row1.of_row ho)).mono ?_
  rintro e w4 ⟨ag, cg, rfl, hb, OG⟩
  replace hB := below_then hB hb
  replace BW := BW.below hb
  replace OW := OW.below hb
  replace OX := OX.below hb
  replace HA := HA.below hb
  have sw4 : Hid (w3.heap.size ≤ w4.heap.size) := by have hq := hb.size; show w3.heap.size ≤ w4.heap.size; omega
  clear hb
  clear ho
  have TW := BW
  obtain ⟨qW0, qW1, qW2⟩ := TW
  have rW0 := fun o : Obj => cell_alloc qW0 o
  have rW1 := fun o : Obj => cell_alloc qW1 o
  have rW2 := fun o : Obj => cell_alloc qW2 o
  go_wp2_with fail
  refine (eqRecsResult_same c u N R ag aw cg cw _ (by omega) (OG.at.below (below_new _ _)) (OW.at.below (below_new _ _))).mono ?_
  rintro e w5 ⟨rfl, hb⟩
  clear qW0 qW1 qW2 rW0 rW1 rW2
  replace hB := below_then hB (below_then (below_new _ _) hb)
  replace BW := (BW.alloc _).below hb
  have BG := (Box3.new w4 (.int .i64 c) (.int .i64 u) (.slice ag N cg) 25).below hb
  replace OW := (OW.below (below_new _ _)).below hb
  replace OX := (OX.below (below_new _ _)).below hb
  replace OG := (OG.below (below_new _ _)).below hb
  replace HA := (HA.below (below_new _ _)).below hb
  have sw5 : Hid (w4.heap.size < w5.heap.size) := by have hq := hb.size; simp at hq; show w4.heap.size < w5.heap.size; omega
  clear hb
  go_wp2_with fail
  refine (toByteS_any n z a cap _ (by omega) HA).mono ?_
  rintro e w6 ⟨rfl, hb, ho⟩
  replace hB := below_then hB hb
  replace BW := BW.below hb
  replace BG := BG.below hb
  replace OW := OW.below hb
  replace OX := OX.below hb
  replace OG := OG.below hb
  replace HA := HA.below hb
  have sw6 : Hid (w5.heap.size ≤ w6.heap.size) := by have hq := hb.size; show w5.heap.size ≤ w6.heap.size; omega
  clear hb
  go_wp2_with fail
  refine (eqByteS_any n z _ _ n n _ (by omega) OX.at (Row1.at (Row1.of_row ho) ho.lt)).mono ?_
  rintro e w7 ⟨rfl, hb⟩
  replace hB := below_then hB hb
  replace BW := BW.below hb
  replace BG := BG.below hb
  replace OW := OW.below hb
  replace OX := OX.below hb
  replace OG := OG.below hb
  replace HA := HA.below hb
  have sw7 : Hid (w6.heap.size ≤ w7.heap.size) := by have hq := hb.size; show w6.heap.size ≤ w7.heap.size; omega
  clear hb
  clear ho
  go_wp2_with fail
  refine (markByteS_any n z _ n (w2.heap.size + 1) w3.heap.size 1 _ (by omega) (by omega) (by omega) OX).mono ?_
  rintro e w8 ⟨rfl, hw, hox⟩
  replace hB := Writes.below hB hw (by have t0 := sw1.out; have t1 := sw2.out; have t2 := sw3.out; have t3 := sw4.out; have t4 := sw5.out; have t5 := sw6.out; have t6 := sw7.out; omega)
  replace BW := BW.writes hw (by have t0 := sw1.out; have t1 := sw2.out; have t2 := sw3.out; have t3 := sw4.out; have t4 := sw5.out; have t5 := sw6.out; have t6 := sw7.out; omega)
  replace BG := BG.writes hw (by have t0 := sw1.out; have t1 := sw2.out; have t2 := sw3.out; have t3 := sw4.out; have t4 := sw5.out; have t5 := sw6.out; have t6 := sw7.out; omega)
  replace OW := OW.writes hw (by have t0 := sw1.out; have t1 := sw2.out; have t2 := sw3.out; have t3 := sw4.out; have t4 := sw5.out; have t5 := sw6.out; have t6 := sw7.out; omega)
  replace OG := OG.writes hw (by have t0 := sw1.out; have t1 := sw2.out; have t2 := sw3.out; have t3 := sw4.out; have t4 := sw5.out; have t5 := sw6.out; have t6 := sw7.out; omega)
  replace HA := HA0.below hB
  have sw8 : Hid (w7.heap.size ≤ w8.heap.size) := by have hq := hw.size; show w7.heap.size ≤ w8.heap.size; omega
  clear hw
  clear hox OX
  have TG := BG
  obtain ⟨qG0, qG1, qG2⟩ := TG
  have TW := BW
  obtain ⟨qW0, qW1, qW2⟩ := TW
  go_wp2_with fail
  refine (eqRecsResult_same c u N R ag aw cg cw _ (by omega) OG.at OW.at).mono ?_
  rintro e w9 ⟨rfl, hb⟩
  clear qG0 qG1 qG2 qW0 qW1 qW2
  replace hB := below_then hB hb
  replace BW := BW.below hb
  replace BG := BG.below hb
  replace OW := OW.below hb
  replace OG := OG.below hb
  replace HA := HA.below hb
  have sw9 : Hid (w8.heap.size ≤ w9.heap.size) := by have hq := hb.size; show w8.heap.size ≤ w9.heap.size; omega
  clear hb
  have TG := BG
  obtain ⟨qG0, qG1, qG2⟩ := TG
  go_wp2_with fail
  refine (markRecsResult_any c u N R _ cg w3.heap.size w4.heap.size _ (by omega) OG).mono ?_
  rintro e w10 ⟨rfl, hw, hog⟩
  clear qG0 qG1 qG2
  replace hB := Writes.below hB hw (by have t0 := sw1.out; have t1 := sw2.out; have t2 := sw3.out; have t3 := sw4.out; have t4 := sw5.out; have t5 := sw6.out; have t6 := sw7.out; have t7 := sw8.out; have t8 := sw9.out; omega)
  replace BW := BW.writes hw (by have t0 := sw1.out; have t1 := sw2.out; have t2 := sw3.out; have t3 := sw4.out; have t4 := sw5.out; have t5 := sw6.out; have t6 := sw7.out; have t7 := sw8.out; have t8 := sw9.out; omega)
  replace BG := BG.writes hw (by have t0 := sw1.out; have t1 := sw2.out; have t2 := sw3.out; have t3 := sw4.out; have t4 := sw5.out; have t5 := sw6.out; have t6 := sw7.out; have t7 := sw8.out; have t8 := sw9.out; omega)
  replace OW := OW.writes hw (by have t0 := sw1.out; have t1 := sw2.out; have t2 := sw3.out; have t3 := sw4.out; have t4 := sw5.out; have t5 := sw6.out; have t6 := sw7.out; have t7 := sw8.out; have t8 := sw9.out; omega)
  replace HA := HA0.below hB
  have sw10 : Hid (w9.heap.size ≤ w10.heap.size) := by have hq := hw.size; show w9.heap.size ≤ w10.heap.size; omega
  clear hw
  clear OG
  have OG := hog
  clear hog
  have TG := BG
  obtain ⟨qG0, qG1, qG2⟩ := TG
  go_wp2_with fail
  refine (heldRecsResult_any c u N _ cg _ (by omega) OG.at).mono ?_
  rintro e w11 ⟨rfl, hb⟩
  clear qG0 qG1 qG2
  replace hB := below_then hB hb
  replace BW := BW.below hb
  replace BG := BG.below hb
  replace OW := OW.below hb
  replace OG := OG.below hb
  replace HA := HA.below hb
  have sw11 : Hid (w10.heap.size ≤ w11.heap.size) := by have hq := hb.size; show w10.heap.size ≤ w11.heap.size; omega
  clear hb
  go_wp2_with fail
  refine (toByteS_any n z a cap _ (by omega) HA).mono ?_
  rintro e w12 ⟨rfl, hb, ho⟩
  replace hB := below_then hB hb
  replace BW := BW.below hb
  replace BG := BG.below hb
  replace OW := OW.below hb
  replace OG := OG.below hb
  replace HA := HA.below hb
  have sw12 : Hid (w11.heap.size ≤ w12.heap.size) := by have hq := hb.size; show w11.heap.size ≤ w12.heap.size; omega
  clear hb
  go_wp2_with fail
  refine (HQ.out _ _ ho.lt (Row1.of_row ho)).mono ?_
  rintro e w13 ⟨ah, ch, rfl, hb, OH⟩
  replace hB := below_then hB hb
  replace BW := BW.below hb
  replace BG := BG.below hb
  replace OW := OW.below hb
  replace OG := OG.below hb
  replace HA := HA.below hb
  have sw13 : Hid (w12.heap.size ≤ w13.heap.size) := by have hq := hb.size; show w12.heap.size ≤ w13.heap.size; omega
  clear hb
  clear ho
  have TW := BW
  obtain ⟨qW0, qW1, qW2⟩ := TW
  have rW0 := fun o : Obj => cell_alloc qW0 o
  have rW1 := fun o : Obj => cell_alloc qW1 o
  have rW2 := fun o : Obj => cell_alloc qW2 o
  go_wp2_with fail
  refine (eqRecsResult_same c u N R ah aw ch cw _ (by omega) (OH.at.below (below_new _ _)) (OW.at.below (below_new _ _))).mono ?_
  rintro e w14 ⟨rfl, hb⟩
  clear qW0 qW1 qW2 rW0 rW1 rW2
  replace hB := below_then hB (below_then (below_new _ _) hb)
  replace BW := (BW.alloc _).below hb
  replace BG := (BG.alloc _).below hb
  have BH := (Box3.new w13 (.int .i64 c) (.int .i64 u) (.slice ah N ch) 25).below hb
  replace OW := (OW.below (below_new _ _)).below hb
  replace OG := (OG.below (below_new _ _)).below hb
  replace OH := (OH.below (below_new _ _)).below hb
  replace HA := (HA.below (below_new _ _)).below hb
  have sw14 : Hid (w13.heap.size < w14.heap.size) := by have hq := hb.size; simp at hq; show w13.heap.size < w14.heap.size; omega
  clear hb
  have TG := BG
  obtain ⟨qG0, qG1, qG2⟩ := TG
  go_wp2_with fail
  refine (heldRecsResult_any c u N _ cg _ (by omega) OG.at).mono ?_
  rintro e w15 ⟨rfl, hb⟩
  clear qG0 qG1 qG2
  replace hB := below_then hB hb
  replace BW := BW.below hb
  replace BG := BG.below hb
  replace BH := BH.below hb
  replace OW := OW.below hb
  replace OG := OG.below hb
  replace OH := OH.below hb
  replace HA := HA.below hb
  have sw15 : Hid (w14.heap.size ≤ w15.heap.size) := by have hq := hb.size; show w14.heap.size ≤ w15.heap.size; omega
  clear hb
  go_wp2_with fail
  go_ret
  exact ⟨rfl, hB⟩
theorem unpackRecsLaw_big (n : Nat) (a : Option Addr) (cap : Nat) (w : World) (hn : ¬ n ≤ 1048576) :
    Calls Try.prog 3 #[.slice a n cap] w fun e w' => e = .returned (.bool true) ∧ Below w.heap.size w w' := by
  have h : 1048576 < (n : Int) := by omega
  go_enter Try.func3, Try.ntmps3
  go_wp2_with fail
  go_ret
  exact ⟨rfl, Below.refl _ _⟩
theorem unpackRecsLaw (n : Nat) (z : Nat → Int) (a : Option Addr) (cap : Nat) (w : World) (hn : n ≤ 9223372036854775807) (hz : Byt n z) (HA0 : BytesAt w a n z) :
    Calls Try.prog 3 #[.slice a n cap] w fun e w' => e = .returned (.bool true) ∧ Below w.heap.size w w' := by
  by_cases h : n ≤ 1048576
  · refine unpackRecsLaw_small n z a cap w h HA0 (urC n) (13 * (urN z n : Int)) (urN z n) (zRs z) ?_
      (fun b w hbl hr => Calls.mono (specUr_any n z (some ⟨b, 0, none⟩) b 0 n w (Nat.le_refl _) hz (.inr ⟨rfl, hbl, hr.1⟩)) (fun e w' h => R8.of h)) (fun b w hbl hr => Calls.mono (implUr_all n z (some ⟨b, 0, none⟩) b 0 n w (Nat.le_refl _) hz (.inr ⟨rfl, hbl, hr.1⟩)) (fun e w' h => R8.of h))
    have := cnt_le z n
    unfold urN
    split <;> omega
  · exact unpackRecsLaw_big n a cap w h
end Go.Proofs.Ytdanabecpmhjhaa
