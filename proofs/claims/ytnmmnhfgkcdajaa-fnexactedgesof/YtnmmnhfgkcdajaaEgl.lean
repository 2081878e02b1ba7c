/- FnExactEdgesOf: the walk of the law. -/
import Derived.Test.YtnmmnhfgkcdajaaEeh
namespace Go.Proofs.Ytnmmnhfgkcdajaa
open Go.RowKit Go.Deep
set_option linter.unusedVariables false
set_option maxRecDepth 20000

theorem eg_le (R : Nat → Hp) (n : Nat) : (if hsC R n = 0 then addAll [] (eI R n (cmL R n) 32) else []).length ≤ 1048576 := by
  split
  · rename_i h
    have h2 := hs_few h
    have h3 := eI_len R n (cmL R n) h2 (Nat.le_trans (cmL_len R n) h2) 32
    have h1 := addAll_len (eI R n (cmL R n) 32) []
    exact Nat.le_trans h1 (Nat.le_trans (by rw [List.length_nil, Nat.zero_add]; exact h3) (by decide))
  · simp
set_option maxHeartbeats 8000000 in
theorem eglLaw_small (n : Nat) (R : Nat → Hp) (a : Option Addr) (cap : Nat) (w : World) (hn : n ≤ 1048576) (HA0 : HopsAt w a n R) (c : Int) (m : Nat) (S : Nat → Ed) (hm : m ≤ 1048576)
    (HP : Hid (∀ (a : Option Addr) (w : World), HopsAt w a n R → Calls Try.prog 23 #[.slice a n n] w fun e w' => ∃ a cap, e = .returned (.agg #[.int .i64 c, .slice a m cap]) ∧ Below w.heap.size w w' ∧ OwnE3 w' w.heap.size w'.heap.size a m S))
    (HQ : Hid (∀ (a : Option Addr) (w : World), HopsAt w a n R → Calls Try.prog 24 #[.slice a n n] w fun e w' => ∃ a cap, e = .returned (.agg #[.int .i64 c, .slice a m cap]) ∧ Below w.heap.size w w' ∧ OwnE3 w' w.heap.size w'.heap.size a m S)) :
    Calls Try.prog 7 #[.slice a n cap] w fun e w' => e = .returned (.bool true) ∧ Below w.heap.size w w' := by
  go_enter Try.func7, Try.ntmps7
  have hneg : ¬ ((1048576 : Int) - (n : Int) < 0) := by omega
  have hneg2 : ¬ ((1 : Int) + (n : Int) * 4 < 0) := by omega
  have hneg3 : ¬ ((1 : Int) + (m : Int) * 3 < 0) := by omega
  go_wp2_with fail
  refine (szHopS_any n a cap _ (by omega)).mono ?_
  rintro e w0 ⟨rfl, hw0⟩
  have hw1 := hw0.symm
  clear hw0
  subst hw1
  rw [if_pos hn]
  go_wp2_with fail
  refine (toHopS_any n R a cap _ hn HA0).mono ?_
  rintro e w1 ⟨bt, rfl, hb, OT⟩
  have hB : Below w.heap.size w w1 := hb
  have HA := HA0.below hB
  have sw1 : Hid (w.heap.size ≤ w1.heap.size) := by have hq := hb.size; show w.heap.size ≤ w1.heap.size; omega
  clear hb
  go_wp2_with fail
  refine (HP.out _ _ OT.at).mono ?_
  rintro e w2 ⟨aw, cw, rfl, hb, OW⟩
  replace hB := below_then hB hb
  replace OT := OT.below hb
  replace HA := HA.below hb
  have sw2 : Hid (w1.heap.size ≤ w2.heap.size) := by have hq := hb.size; show w1.heap.size ≤ w2.heap.size; omega
  clear hb
  clear OT
  go_wp2_with fail
  refine (toHopS_any n R a cap _ hn (HA.below (below_new _ _))).mono ?_
  rintro e w3 ⟨bx, rfl, hb, OX⟩
  replace hB := below_then hB (below_then (below_new _ _) hb)
  have BW := (Box2.new w2 (.int .i64 c) (.slice aw m cw) 42).below hb
  replace OW := (OW.below (below_new _ _)).below hb
  replace HA := (HA.below (below_new _ _)).below hb
  have sw3 : Hid (w2.heap.size < w3.heap.size) := by have hq := hb.size; simp at hq; show w2.heap.size < w3.heap.size; omega
  rw [World.size_alloc] at OX
  clear hb
  go_wp2_with fail
  refine (HQ.out _ _ OX.at).mono ?_
  rintro e w4 ⟨ag, cg, rfl, hb, OG⟩
  replace hB := below_then hB hb
  replace BW := BW.below hb
  replace OW := OW.below hb
  replace OX := OX.below hb
  replace HA := HA.below hb
  have sw4 : Hid (w3.heap.size ≤ w4.heap.size) := by have hq := hb.size; show w3.heap.size ≤ w4.heap.size; omega
  clear hb
  have TW := BW
  obtain ⟨qW0, qW1⟩ := TW
  have rW0 := fun o : Obj => cell_alloc qW0 o
  have rW1 := fun o : Obj => cell_alloc qW1 o
  go_wp2_with fail
  refine (eqEdgesResult_same c m S ag aw cg cw _ hm (OG.at.below (below_new _ _)) (OW.at.below (below_new _ _))).mono ?_
  rintro e w5 ⟨rfl, hb⟩
  clear qW0 qW1 rW0 rW1
  replace hB := below_then hB (below_then (below_new _ _) hb)
  replace BW := (BW.alloc _).below hb
  have BG := (Box2.new w4 (.int .i64 c) (.slice ag m cg) 42).below hb
  replace OW := (OW.below (below_new _ _)).below hb
  replace OX := (OX.below (below_new _ _)).below hb
  replace OG := (OG.below (below_new _ _)).below hb
  replace HA := (HA.below (below_new _ _)).below hb
  have sw5 : Hid (w4.heap.size < w5.heap.size) := by have hq := hb.size; simp at hq; show w4.heap.size < w5.heap.size; omega
  clear hb
  go_wp2_with fail
  refine (toHopS_any n R a cap _ hn HA).mono ?_
  rintro e w6 ⟨bq, rfl, hb, OQ⟩
  replace hB := below_then hB hb
  replace BW := BW.below hb
  replace BG := BG.below hb
  replace OW := OW.below hb
  replace OX := OX.below hb
  replace OG := OG.below hb
  replace HA := HA.below hb
  have sw6 : Hid (w5.heap.size ≤ w6.heap.size) := by have hq := hb.size; show w5.heap.size ≤ w6.heap.size; omega
  clear hb
  go_wp2_with fail
  refine (eqHopS_any n R _ _ n n _ hn OX.at OQ.at).mono ?_
  rintro e w7 ⟨rfl, hb⟩
  replace hB := below_then hB hb
  replace BW := BW.below hb
  replace BG := BG.below hb
  replace OW := OW.below hb
  replace OX := OX.below hb
  replace OG := OG.below hb
  replace HA := HA.below hb
  have sw7 : Hid (w6.heap.size ≤ w7.heap.size) := by have hq := hb.size; show w6.heap.size ≤ w7.heap.size; omega
  clear hb
  clear OQ
  go_wp2_with fail
  refine (markHopS_any n R _ n (w2.heap.size + 1) w3.heap.size 1 _ hn (by omega) (by omega) OX).mono ?_
  rintro e w8 ⟨rfl, hw, hox⟩
  replace hB := Writes.below hB hw (by have t0 := sw1.out; have t1 := sw2.out; have t2 := sw3.out; have t3 := sw4.out; have t4 := sw5.out; have t5 := sw6.out; have t6 := sw7.out; omega)
  replace BW := BW.writes hw (by have t0 := sw1.out; have t1 := sw2.out; have t2 := sw3.out; have t3 := sw4.out; have t4 := sw5.out; have t5 := sw6.out; have t6 := sw7.out; omega)
  replace BG := BG.writes hw (by have t0 := sw1.out; have t1 := sw2.out; have t2 := sw3.out; have t3 := sw4.out; have t4 := sw5.out; have t5 := sw6.out; have t6 := sw7.out; omega)
  replace OW := OW.writes hw (by have t0 := sw1.out; have t1 := sw2.out; have t2 := sw3.out; have t3 := sw4.out; have t4 := sw5.out; have t5 := sw6.out; have t6 := sw7.out; omega)
  replace OG := OG.writes hw (by have t0 := sw1.out; have t1 := sw2.out; have t2 := sw3.out; have t3 := sw4.out; have t4 := sw5.out; have t5 := sw6.out; have t6 := sw7.out; omega)
  replace HA := HA0.below hB
  have sw8 : Hid (w7.heap.size ≤ w8.heap.size) := by have hq := hw.size; show w7.heap.size ≤ w8.heap.size; omega
  clear hw
  clear hox OX
  have TG := BG
  obtain ⟨qG0, qG1⟩ := TG
  have TW := BW
  obtain ⟨qW0, qW1⟩ := TW
  go_wp2_with fail
  refine (eqEdgesResult_same c m S ag aw cg cw _ hm OG.at OW.at).mono ?_
  rintro e w9 ⟨rfl, hb⟩
  clear qG0 qG1 qW0 qW1
  replace hB := below_then hB hb
  replace BW := BW.below hb
  replace BG := BG.below hb
  replace OW := OW.below hb
  replace OG := OG.below hb
  replace HA := HA.below hb
  have sw9 : Hid (w8.heap.size ≤ w9.heap.size) := by have hq := hb.size; show w8.heap.size ≤ w9.heap.size; omega
  clear hb
  have TG := BG
  obtain ⟨qG0, qG1⟩ := TG
  go_wp2_with fail
  refine (markEdgesResult_any c m S ag cg w3.heap.size w4.heap.size _ hm OG).mono ?_
  rintro e w10 ⟨rfl, hw, hog⟩
  clear qG0 qG1
  replace hB := Writes.below hB hw (by have t0 := sw1.out; have t1 := sw2.out; have t2 := sw3.out; have t3 := sw4.out; have t4 := sw5.out; have t5 := sw6.out; have t6 := sw7.out; have t7 := sw8.out; have t8 := sw9.out; omega)
  replace BW := BW.writes hw (by have t0 := sw1.out; have t1 := sw2.out; have t2 := sw3.out; have t3 := sw4.out; have t4 := sw5.out; have t5 := sw6.out; have t6 := sw7.out; have t7 := sw8.out; have t8 := sw9.out; omega)
  replace BG := BG.writes hw (by have t0 := sw1.out; have t1 := sw2.out; have t2 := sw3.out; have t3 := sw4.out; have t4 := sw5.out; have t5 := sw6.out; have t6 := sw7.out; have t7 := sw8.out; have t8 := sw9.out; omega)
  replace OW := OW.writes hw (by have t0 := sw1.out; have t1 := sw2.out; have t2 := sw3.out; have t3 := sw4.out; have t4 := sw5.out; have t5 := sw6.out; have t6 := sw7.out; have t7 := sw8.out; have t8 := sw9.out; omega)
  replace HA := HA0.below hB
  have sw10 : Hid (w9.heap.size ≤ w10.heap.size) := by have hq := hw.size; show w9.heap.size ≤ w10.heap.size; omega
  clear hw
  clear OG
  have OG := hog
  clear hog
  have TG := BG
  obtain ⟨qG0, qG1⟩ := TG
  go_wp2_with fail
  refine (heldEdgesResult_any c m ag cg _ hm OG.at).mono ?_
  rintro e w11 ⟨rfl, hb⟩
  clear qG0 qG1
  replace hB := below_then hB hb
  replace BW := BW.below hb
  replace BG := BG.below hb
  replace OW := OW.below hb
  replace OG := OG.below hb
  replace HA := HA.below hb
  have sw11 : Hid (w10.heap.size ≤ w11.heap.size) := by have hq := hb.size; show w10.heap.size ≤ w11.heap.size; omega
  clear hb
  go_wp2_with fail
  refine (toHopS_any n R a cap _ hn HA).mono ?_
  rintro e w12 ⟨bh, rfl, hb, OQ⟩
  replace hB := below_then hB hb
  replace BW := BW.below hb
  replace BG := BG.below hb
  replace OW := OW.below hb
  replace OG := OG.below hb
  replace HA := HA.below hb
  have sw12 : Hid (w11.heap.size ≤ w12.heap.size) := by have hq := hb.size; show w11.heap.size ≤ w12.heap.size; omega
  clear hb
  go_wp2_with fail
  refine (HQ.out _ _ OQ.at).mono ?_
  rintro e w13 ⟨ah, ch, rfl, hb, OH⟩
  replace hB := below_then hB hb
  replace BW := BW.below hb
  replace BG := BG.below hb
  replace OW := OW.below hb
  replace OG := OG.below hb
  replace OQ := OQ.below hb
  replace HA := HA.below hb
  have sw13 : Hid (w12.heap.size ≤ w13.heap.size) := by have hq := hb.size; show w12.heap.size ≤ w13.heap.size; omega
  clear hb
  clear OQ
  have TW := BW
  obtain ⟨qW0, qW1⟩ := TW
  have rW0 := fun o : Obj => cell_alloc qW0 o
  have rW1 := fun o : Obj => cell_alloc qW1 o
  go_wp2_with fail
  refine (eqEdgesResult_same c m S ah aw ch cw _ hm (OH.at.below (below_new _ _)) (OW.at.below (below_new _ _))).mono ?_
  rintro e w14 ⟨rfl, hb⟩
  clear qW0 qW1 rW0 rW1
  replace hB := below_then hB (below_then (below_new _ _) hb)
  replace BW := (BW.alloc _).below hb
  replace BG := (BG.alloc _).below hb
  have BH := (Box2.new w13 (.int .i64 c) (.slice ah m ch) 42).below hb
  replace OW := (OW.below (below_new _ _)).below hb
  replace OG := (OG.below (below_new _ _)).below hb
  replace OH := (OH.below (below_new _ _)).below hb
  replace HA := (HA.below (below_new _ _)).below hb
  have sw14 : Hid (w13.heap.size < w14.heap.size) := by have hq := hb.size; simp at hq; show w13.heap.size < w14.heap.size; omega
  clear hb
  have TG := BG
  obtain ⟨qG0, qG1⟩ := TG
  go_wp2_with fail
  refine (heldEdgesResult_any c m ag cg _ hm OG.at).mono ?_
  rintro e w15 ⟨rfl, hb⟩
  clear qG0 qG1
  replace hB := below_then hB hb
  replace BW := BW.below hb
  replace BG := BG.below hb
  replace BH := BH.below hb
  replace OW := OW.below hb
  replace OG := OG.below hb
  replace OH := OH.below hb
  replace HA := HA.below hb
  have sw15 : Hid (w14.heap.size ≤ w15.heap.size) := by have hq := hb.size; show w14.heap.size ≤ w15.heap.size; omega
  clear hb
  go_wp2_with fail
  go_ret
  exact ⟨rfl, hB⟩
theorem eglLaw_big (n : Nat) (a : Option Addr) (cap : Nat) (w : World) (hn0 : n ≤ 9223372036854775807) (hn : ¬ n ≤ 1048576) :
    Calls Try.prog 7 #[.slice a n cap] w fun e w' => e = .returned (.bool true) ∧ Below w.heap.size w w' := by
  go_enter Try.func7, Try.ntmps7
  go_wp2_with fail
  refine (szHopS_any n a cap _ hn0).mono ?_
  rintro e w0 ⟨rfl, rfl⟩
  rw [if_neg hn]
  go_wp2_with fail
  go_ret
  exact ⟨rfl, Below.refl _ _⟩
theorem eglLaw (n : Nat) (R : Nat → Hp) (a : Option Addr) (cap : Nat) (w : World) (hn : n ≤ 9223372036854775807) (h : HopsAt w a n R) (hw : HpW n R) :
    Calls Try.prog 7 #[.slice a n cap] w fun e w' => e = .returned (.bool true) ∧ Below w.heap.size w w' := by
  by_cases hs : n ≤ 1048576
  · exact eglLaw_small n R a cap w hs h (hsC R n) (if hsC R n = 0 then addAll [] (eI R n (cmL R n) 32) else []).length (eE (if hsC R n = 0 then addAll [] (eI R n (cmL R n) 32) else [])) (eg_le R n) (fun a w h => specEg_any 32 rfl n R a w hs h) (fun a w h => implEg_any 32 rfl n R a w hs hw h)
  · exact eglLaw_big n a cap w hn hs
end Go.Proofs.Ytnmmnhfgkcdajaa
