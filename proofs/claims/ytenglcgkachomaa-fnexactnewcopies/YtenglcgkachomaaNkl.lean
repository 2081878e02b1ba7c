/- FnExactNewCopies: the walk of the law. -/
import Derived.Test.YtenglcgkachomaaNkc
import Derived.Test.YtenglcgkachomaaNkd
namespace Go.Proofs.Ytenglcgkachomaa
open Go.RowKit Go.Deep
set_option linter.unusedVariables false
set_option maxRecDepth 20000

set_option maxHeartbeats 8000000 in
theorem newCopiesLaw_small (n : Nat) (K V : Nat → Int) (a : Option Addr) (cap : Nat) (w : World) (hn : n ≤ 1048576) (HA0 : CellsAt w a n K V) (c : Int) (t : Cs) (hS : SmCs t) (ht : t.tn = 0)
    (HP : Hid (∀ (a : Option Addr) (cap : Nat) (w : World), CellsAt w a n K V → Calls Try.prog 24 #[.slice a n cap] w (NRes9 c t w)))
    (HQ : Hid (∀ (a : Option Addr) (cap : Nat) (w : World), CellsAt w a n K V → Calls Try.prog 26 #[.slice a n cap] w (NRes9 c t w))) :
    Calls Try.prog 6 #[.slice a n cap] w fun e w' => e = .returned (.bool true) ∧ Below w.heap.size w w' := by
  go_enter Try.func6, Try.ntmps6
  have hneg : ¬ ((1048576 : Int) - (n : Int) < 0) := by omega
  have hneg2 : ¬ ((1 : Int) + (n : Int) * 2 < 0) := by omega
  have hneg3 : ¬ ((1 : Int) + (t.wn : Int) * 2 + (t.ln : Int) < 0) := by omega
  go_wp2_with fail
  refine (szCellS_x n a cap 1048576 _ (by omega) (by omega) (by omega)).mono ?_
  rintro e w0 ⟨rfl, hw0⟩
  have hw1 := hw0.symm
  clear hw0
  subst hw1
  rw [if_neg (by omega)]
  go_wp2_with fail
  refine (toCellS_own n K V a cap _ (by omega) HA0).mono ?_
  rintro e w1 ⟨bt, rfl, hb, OT⟩
  have hB : Below w.heap.size w w1 := hb
  have HA := HA0.below hB
  have sw1 : Hid (w.heap.size ≤ w1.heap.size) := by have hq := hb.size; show w.heap.size ≤ w1.heap.size; omega
  clear hb
  go_wp2_with fail
  refine (HP.out _ _ _ OT.at).mono ?_
  rintro e w2 ⟨aw, cw, bw, dw, rfl, hb, OW⟩
  replace hB := below_then hB hb
  replace OT := OT.below hb
  replace HA := HA.below hb
  have sw2 : Hid (w1.heap.size ≤ w2.heap.size) := by have hq := hb.size; show w1.heap.size ≤ w2.heap.size; omega
  clear hb
  clear OT
  go_wp2_with fail
  refine (toCellS_own n K V a cap _ (by omega) (HA.below (below_new _ _))).mono ?_
  rintro e w3 ⟨bx, rfl, hb, OX⟩
  replace hB := below_then hB (below_then (below_new _ _) hb)
  have BW := (Box8.new w2 (.int .i64 c) (.int .i64 0) (.slice none 0 0) (.int .i64 t.nx) (.int .i64 t.ck) (.slice aw t.wn cw) (.slice bw t.ln dw) (.slice none 0 0) 56).below hb
  replace OW := (OW.below (below_new _ _)).below hb
  replace HA := (HA.below (below_new _ _)).below hb
  have sw3 : Hid (w2.heap.size < w3.heap.size) := by have hq := hb.size; simp at hq; show w2.heap.size < w3.heap.size; omega
  rw [World.size_alloc] at OX
  clear hb
  go_wp2_with fail
  refine (HQ.out _ _ _ OX.at).mono ?_
  rintro e w4 ⟨ag, cg, bg, dg, rfl, hb, OG⟩
  replace hB := below_then hB hb
  replace BW := BW.below hb
  replace OW := OW.below hb
  replace OX := OX.below hb
  replace HA := HA.below hb
  have sw4 : Hid (w3.heap.size ≤ w4.heap.size) := by have hq := hb.size; show w3.heap.size ≤ w4.heap.size; omega
  clear hb
  have TW := BW
  obtain ⟨qW0, qW1, qW2, qW3, qW4, qW5, qW6, qW7⟩ := TW
  have rW0 := fun o : Obj => cell_alloc qW0 o
  have rW1 := fun o : Obj => cell_alloc qW1 o
  have rW2 := fun o : Obj => cell_alloc qW2 o
  have rW3 := fun o : Obj => cell_alloc qW3 o
  have rW4 := fun o : Obj => cell_alloc qW4 o
  have rW5 := fun o : Obj => cell_alloc qW5 o
  have rW6 := fun o : Obj => cell_alloc qW6 o
  have rW7 := fun o : Obj => cell_alloc qW7 o
  go_wp2_with fail
  refine (eqCR_same c t ag cg bg dg aw cw bw dw _ hS ht (OG.at.below (below_new _ _)) (OW.at.below (below_new _ _))).mono ?_
  rintro e w5 ⟨rfl, hb⟩
  clear qW0 qW1 qW2 qW3 qW4 qW5 qW6 qW7 rW0 rW1 rW2 rW3 rW4 rW5 rW6 rW7
  replace hB := below_then hB (below_then (below_new _ _) hb)
  replace BW := (BW.alloc _).below hb
  have BG := (Box8.new w4 (.int .i64 c) (.int .i64 0) (.slice none 0 0) (.int .i64 t.nx) (.int .i64 t.ck) (.slice ag t.wn cg) (.slice bg t.ln dg) (.slice none 0 0) 56).below hb
  replace OW := (OW.below (below_new _ _)).below hb
  replace OX := (OX.below (below_new _ _)).below hb
  replace OG := (OG.below (below_new _ _)).below hb
  replace HA := (HA.below (below_new _ _)).below hb
  have sw5 : Hid (w4.heap.size < w5.heap.size) := by have hq := hb.size; simp at hq; show w4.heap.size < w5.heap.size; omega
  clear hb
  go_wp2_with fail
  refine (toCellS_own n K V a cap _ (by omega) HA).mono ?_
  rintro e w6 ⟨bq, rfl, hb, OQ⟩
  replace hB := below_then hB hb
  replace BW := BW.below hb
  replace BG := BG.below hb
  replace OW := OW.below hb
  replace OX := OX.below hb
  replace OG := OG.below hb
  replace HA := HA.below hb
  have sw6 : Hid (w5.heap.size ≤ w6.heap.size) := by have hq := hb.size; show w5.heap.size ≤ w6.heap.size; omega
  clear hb
  go_wp2_with fail
  refine (eqCellS_any n K V _ _ n n _ (by omega) OX.at OQ.at).mono ?_
  rintro e w7 ⟨rfl, hb⟩
  replace hB := below_then hB hb
  replace BW := BW.below hb
  replace BG := BG.below hb
  replace OW := OW.below hb
  replace OX := OX.below hb
  replace OG := OG.below hb
  replace HA := HA.below hb
  have sw7 : Hid (w6.heap.size ≤ w7.heap.size) := by have hq := hb.size; show w6.heap.size ≤ w7.heap.size; omega
  clear hb
  clear OQ
  go_wp2_with fail
  refine (markCellS_any n K V _ n (w2.heap.size + 1) w3.heap.size 1 _ (by omega) (by omega) (by omega) OX).mono ?_
  rintro e w8 ⟨rfl, hw, hox⟩
  replace hB := Writes.below hB hw (by have t0 := sw1.out; have t1 := sw2.out; have t2 := sw3.out; have t3 := sw4.out; have t4 := sw5.out; have t5 := sw6.out; have t6 := sw7.out; omega)
  replace BW := BW.writes hw (by have t0 := sw1.out; have t1 := sw2.out; have t2 := sw3.out; have t3 := sw4.out; have t4 := sw5.out; have t5 := sw6.out; have t6 := sw7.out; omega)
  replace BG := BG.writes hw (by have t0 := sw1.out; have t1 := sw2.out; have t2 := sw3.out; have t3 := sw4.out; have t4 := sw5.out; have t5 := sw6.out; have t6 := sw7.out; omega)
  replace OW := OW.writes hw (by have t0 := sw1.out; have t1 := sw2.out; have t2 := sw3.out; have t3 := sw4.out; have t4 := sw5.out; have t5 := sw6.out; have t6 := sw7.out; omega)
  replace OG := OG.writes hw (by have t0 := sw1.out; have t1 := sw2.out; have t2 := sw3.out; have t3 := sw4.out; have t4 := sw5.out; have t5 := sw6.out; have t6 := sw7.out; omega)
  replace HA := HA0.below hB
  have sw8 : Hid (w7.heap.size ≤ w8.heap.size) := by have hq := hw.size; show w7.heap.size ≤ w8.heap.size; omega
  clear hw
  clear hox OX
  have TG := BG
  obtain ⟨qG0, qG1, qG2, qG3, qG4, qG5, qG6, qG7⟩ := TG
  have TW := BW
  obtain ⟨qW0, qW1, qW2, qW3, qW4, qW5, qW6, qW7⟩ := TW
  go_wp2_with fail
  refine (eqCR_same c t ag cg bg dg aw cw bw dw _ hS ht OG.at OW.at).mono ?_
  rintro e w9 ⟨rfl, hb⟩
  clear qG0 qG1 qG2 qG3 qG4 qG5 qG6 qG7 qW0 qW1 qW2 qW3 qW4 qW5 qW6 qW7
  replace hB := below_then hB hb
  replace BW := BW.below hb
  replace BG := BG.below hb
  replace OW := OW.below hb
  replace OG := OG.below hb
  replace HA := HA.below hb
  have sw9 : Hid (w8.heap.size ≤ w9.heap.size) := by have hq := hb.size; show w8.heap.size ≤ w9.heap.size; omega
  clear hb
  have TG := BG
  obtain ⟨qG0, qG1, qG2, qG3, qG4, qG5, qG6, qG7⟩ := TG
  go_wp2_with fail
  refine (markCR_any c t ag cg bg dg w3.heap.size w4.heap.size _ hS OG).mono ?_
  rintro e w10 ⟨rfl, hw, hog⟩
  clear qG0 qG1 qG2 qG3 qG4 qG5 qG6 qG7
  replace hB := Writes.below hB hw (by have t0 := sw1.out; have t1 := sw2.out; have t2 := sw3.out; have t3 := sw4.out; have t4 := sw5.out; have t5 := sw6.out; have t6 := sw7.out; have t7 := sw8.out; have t8 := sw9.out; omega)
  replace BW := BW.writes hw (by have t0 := sw1.out; have t1 := sw2.out; have t2 := sw3.out; have t3 := sw4.out; have t4 := sw5.out; have t5 := sw6.out; have t6 := sw7.out; have t7 := sw8.out; have t8 := sw9.out; omega)
  replace BG := BG.writes hw (by have t0 := sw1.out; have t1 := sw2.out; have t2 := sw3.out; have t3 := sw4.out; have t4 := sw5.out; have t5 := sw6.out; have t6 := sw7.out; have t7 := sw8.out; have t8 := sw9.out; omega)
  replace OW := OW.writes hw (by have t0 := sw1.out; have t1 := sw2.out; have t2 := sw3.out; have t3 := sw4.out; have t4 := sw5.out; have t5 := sw6.out; have t6 := sw7.out; have t7 := sw8.out; have t8 := sw9.out; omega)
  replace HA := HA0.below hB
  have sw10 : Hid (w9.heap.size ≤ w10.heap.size) := by have hq := hw.size; show w9.heap.size ≤ w10.heap.size; omega
  clear hw
  clear OG
  have OG := hog
  clear hog
  have TG := BG
  obtain ⟨qG0, qG1, qG2, qG3, qG4, qG5, qG6, qG7⟩ := TG
  go_wp2_with fail
  refine (heldCR_any c t.nx t.ck t ag cg bg dg _ hS OG.at).mono ?_
  rintro e w11 ⟨rfl, hb⟩
  clear qG0 qG1 qG2 qG3 qG4 qG5 qG6 qG7
  replace hB := below_then hB hb
  replace BW := BW.below hb
  replace BG := BG.below hb
  replace OW := OW.below hb
  replace OG := OG.below hb
  replace HA := HA.below hb
  have sw11 : Hid (w10.heap.size ≤ w11.heap.size) := by have hq := hb.size; show w10.heap.size ≤ w11.heap.size; omega
  clear hb
  go_wp2_with fail
  refine (toCellS_own n K V a cap _ (by omega) HA).mono ?_
  rintro e w12 ⟨bh, rfl, hb, OQ⟩
  replace hB := below_then hB hb
  replace BW := BW.below hb
  replace BG := BG.below hb
  replace OW := OW.below hb
  replace OG := OG.below hb
  replace HA := HA.below hb
  have sw12 : Hid (w11.heap.size ≤ w12.heap.size) := by have hq := hb.size; show w11.heap.size ≤ w12.heap.size; omega
  clear hb
  go_wp2_with fail
  refine (HQ.out _ _ _ OQ.at).mono ?_
  rintro e w13 ⟨ah, ch, bh, dh, rfl, hb, OH⟩
  replace hB := below_then hB hb
  replace BW := BW.below hb
  replace BG := BG.below hb
  replace OW := OW.below hb
  replace OG := OG.below hb
  replace OQ := OQ.below hb
  replace HA := HA.below hb
  have sw13 : Hid (w12.heap.size ≤ w13.heap.size) := by have hq := hb.size; show w12.heap.size ≤ w13.heap.size; omega
  clear hb
  clear OQ
  have TW := BW
  obtain ⟨qW0, qW1, qW2, qW3, qW4, qW5, qW6, qW7⟩ := TW
  have rW0 := fun o : Obj => cell_alloc qW0 o
  have rW1 := fun o : Obj => cell_alloc qW1 o
  have rW2 := fun o : Obj => cell_alloc qW2 o
  have rW3 := fun o : Obj => cell_alloc qW3 o
  have rW4 := fun o : Obj => cell_alloc qW4 o
  have rW5 := fun o : Obj => cell_alloc qW5 o
  have rW6 := fun o : Obj => cell_alloc qW6 o
  have rW7 := fun o : Obj => cell_alloc qW7 o
  go_wp2_with fail
  refine (eqCR_same c t ah ch bh dh aw cw bw dw _ hS ht (OH.at.below (below_new _ _)) (OW.at.below (below_new _ _))).mono ?_
  rintro e w14 ⟨rfl, hb⟩
  clear qW0 qW1 qW2 qW3 qW4 qW5 qW6 qW7 rW0 rW1 rW2 rW3 rW4 rW5 rW6 rW7
  replace hB := below_then hB (below_then (below_new _ _) hb)
  replace BW := (BW.alloc _).below hb
  replace BG := (BG.alloc _).below hb
  have BH := (Box8.new w13 (.int .i64 c) (.int .i64 0) (.slice none 0 0) (.int .i64 t.nx) (.int .i64 t.ck) (.slice ah t.wn ch) (.slice bh t.ln dh) (.slice none 0 0) 56).below hb
  replace OW := (OW.below (below_new _ _)).below hb
  replace OG := (OG.below (below_new _ _)).below hb
  replace OH := (OH.below (below_new _ _)).below hb
  replace HA := (HA.below (below_new _ _)).below hb
  have sw14 : Hid (w13.heap.size < w14.heap.size) := by have hq := hb.size; simp at hq; show w13.heap.size < w14.heap.size; omega
  clear hb
  have TG := BG
  obtain ⟨qG0, qG1, qG2, qG3, qG4, qG5, qG6, qG7⟩ := TG
  go_wp2_with fail
  refine (heldCR_any c t.nx t.ck t ag cg bg dg _ hS OG.at).mono ?_
  rintro e w15 ⟨rfl, hb⟩
  clear qG0 qG1 qG2 qG3 qG4 qG5 qG6 qG7
  replace hB := below_then hB hb
  replace BW := BW.below hb
  replace BG := BG.below hb
  replace BH := BH.below hb
  replace OW := OW.below hb
  replace OG := OG.below hb
  replace OH := OH.below hb
  replace HA := HA.below hb
  have sw15 : Hid (w14.heap.size ≤ w15.heap.size) := by have hq := hb.size; show w14.heap.size ≤ w15.heap.size; omega
  clear hb
  go_wp2_with fail
  go_ret
  exact ⟨rfl, hB⟩
theorem newCopiesLaw_big (n : Nat) (a : Option Addr) (cap : Nat) (w : World) (hn0 : n ≤ 9223372036854775807) (hn : ¬ n ≤ 1048576) :
    Calls Try.prog 6 #[.slice a n cap] w fun e w' => e = .returned (.bool true) ∧ Below w.heap.size w w' := by
  go_enter Try.func6, Try.ntmps6
  go_wp2_with fail
  refine (szCellS_x n a cap 1048576 _ hn0 (by omega) (by omega)).mono ?_
  rintro e w0 ⟨rfl, rfl⟩
  rw [if_pos (by omega)]
  go_wp2_with fail
  go_ret
  exact ⟨rfl, Below.refl _ _⟩
theorem ncR_small (n : Nat) (K V : Nat → Int) : SmCs (ncR n K V) ∧ (ncR n K V).tn = 0 := by
  unfold ncR
  split
  · rename_i h
    have h20 := (nc_good h).1
    exact ⟨⟨by show n ≤ 1048576; omega, by show 32 ≤ 1048576; omega, by show 0 ≤ 1048576; omega, fun i hi => by simp [ncT] at hi⟩, rfl⟩
  · exact ⟨⟨by show 0 ≤ 1048576; omega, by show 0 ≤ 1048576; omega, by show 0 ≤ 1048576; omega, fun i hi => by simp [zCs0] at hi⟩, rfl⟩
theorem newCopiesLaw (n : Nat) (K V : Nat → Int) (a : Option Addr) (cap : Nat) (w : World) (hn : n ≤ 9223372036854775807) (h : CellsAt w a n K V) :
    Calls Try.prog 6 #[.slice a n cap] w fun e w' => e = .returned (.bool true) ∧ Below w.heap.size w w' := by
  by_cases hs : n ≤ 1048576
  · exact newCopiesLaw_small n K V a cap w hs h (neC n K V) (ncR n K V) (ncR_small n K V).1 (ncR_small n K V).2 (fun a cap w h => specNc_any n K V a cap w h) (fun a cap w h => implNc_any n K V a cap w h)
  · exact newCopiesLaw_big n a cap w hn hs
theorem openCells {H : Type} {enc : TypeId × Value → H} {W : World} {fuel : Nat} {cs : List Value} {x : DataW H × List MemPlace}
    (h : DataW.trod enc Try.prog W 0 (fun _ => true) true fuel 22 cs = some x) :
    ∃ (a : Option Addr) (n cap : Nat) (K V : Nat → Int), cs = [.slice a n cap] ∧ n ≤ 9223372036854775807 ∧ CellsAt W a n K V := by
  obtain ⟨a, n, cap, K, V, h1, -, h3, h4⟩ := openCellS h
  exact ⟨a, n, cap, K, V, h1, h3, h4⟩
end Go.Proofs.Ytenglcgkachomaa
