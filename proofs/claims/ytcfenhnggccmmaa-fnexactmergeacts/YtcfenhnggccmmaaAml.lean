/- FnExactMergeActs: the walk of the law. -/
import Derived.Test.YtcfenhnggccmmaaAmg
import Derived.Test.YtcfenhnggccmmaaAmc
namespace Go.Proofs.Ytcfenhnggccmmaa
open Go.ChangeShapes Go.WideShapes Go.ChangeAt Go.RowKit Go.Deep Go.Joins
set_option linter.unusedVariables false
set_option maxRecDepth 20000

theorem smallAl {n : Nat} {T : Nat → Al} {r : Int} (h0 : 0 ≤ r) (h : r = 1048576 - n - smAl T n) : n ≤ 1048576 ∧ SmAl n T :=
  ⟨by omega, fun i hi => by have := smf9_ge (fun i => (T i).n) n i hi; unfold smAl at h; omega⟩
theorem openInts {H : Type} {enc : TypeId × Value → H} {W : World} {fuel : Nat} {cs : List Value} {x : DataW H × List MemPlace}
    (h : DataW.trod enc Try.prog W 0 (fun _ => true) true fuel 31 cs = some x) : ∃ (a : Option Addr) (n cap : Nat) (z : Nat → Int), cs = [.slice a n cap] ∧ n ≤ 9223372036854775807 ∧ IntsAt W a n z := by
  obtain ⟨a, n, cap, z, h1, h2, h3, h4⟩ := openIntS h
  exact ⟨a, n, cap, z, h1, h3, h4⟩
theorem toActSS_own (n : Nat) (T : Nat → Al) (a : Option Addr) (cap : Nat) (w : World) (hn : n ≤ 1048576) (hL : SmAl n T) (h : AlsAt w a n T) :
    Calls Try.prog 9 #[.slice a n cap] w fun e w' => ∃ B, e = .returned (.slice (some ⟨B, 0, none⟩) n n) ∧ Below w.heap.size w w' ∧ OwnAl w' w.heap.size w'.heap.size (some ⟨B, 0, none⟩) n T := by
  refine (toActSS_any n T a cap w hn hL h).mono ?_
  rintro e w' ⟨rfl, h1, h2⟩
  exact ⟨_, rfl, h1, h2⟩
set_option maxHeartbeats 16000000 in
theorem mergeLaw_small (n : Nat) (T : Nat → Al) (a : Option Addr) (cap : Nat) (p : Nat) (P : Nat → Int) (d : Option Addr) (dc : Nat) (w : World) (hn : n ≤ 9223372036854775807) (hB0 : BigAl n T) (HA0 : AlsAt w a n T) (hp : p ≤ 1048576) (HD0 : IntsAt w d p P) (c : Int) (m : Nat) (S : Nat → Ac) (l : Nat) (Z : Nat → Int) (hm : m ≤ 1048576) (hl : l ≤ 1048576)
    (HPP : n ≤ 1048576 → SmAl n T → Hid (∀ (a d : Option Addr) (w : World), AlsAt w a n T → IntsAt w d p P → Calls Try.prog 23 #[.slice a n n, .slice d p p] w fun e w' => ∃ a0 a1 a2 a3, e = .returned (.agg #[.int .i64 c, .slice a0 m a1, .slice a2 l a3]) ∧ Below w.heap.size w w' ∧ OwnM w' w.heap.size w'.heap.size a0 m S a2 l Z))
    (HQQ : n ≤ 1048576 → SmAl n T → Hid (∀ (a d : Option Addr) (w : World), AlsAt w a n T → IntsAt w d p P → Calls Try.prog 24 #[.slice a n n, .slice d p p] w fun e w' => ∃ a0 a1 a2 a3, e = .returned (.agg #[.int .i64 c, .slice a0 m a1, .slice a2 l a3]) ∧ Below w.heap.size w w' ∧ OwnM w' w.heap.size w'.heap.size a0 m S a2 l Z)) :
    Calls Try.prog 6 #[.slice a n cap, .slice d p dc] w fun e w' => e = .returned (.bool true) ∧ Below w.heap.size w w' := by
  go_enter Try.func6, Try.ntmps6
  have hneg9 : ¬ ((1 : Int) + ((m : Int) * 4 + (l : Int)) < 0) := by omega
  have hnegp : ¬ ((p : Int) > 1048576) := by omega
  go_wp2_with fail
  refine (szActSS_any n T a cap 1048576 _ hn hB0 (by omega) (by omega) HA0).mono ?_
  rintro e w1 ⟨hb, r, rfl, hr⟩
  have hB : Below w.heap.size w w1 := hb
  have HA := HA0.below hB
  have HD := HD0.below hB
  have sw1 : Hid (w.heap.size ≤ w1.heap.size) := by have hq := hb.size; show w.heap.size ≤ w1.heap.size; omega
  clear hb
  rcases hr with rfl | ⟨hr0, hr1⟩
  · go_wp2_with fail
    go_ret
    exact ⟨rfl, hB⟩
  obtain ⟨hnA, hSA⟩ := smallAl hr0 hr1
  have hng : ¬ r < 0 := by omega
  have HS : Hid (SmAl n T) := hSA
  have hsm : smAl T n ≤ 1048576 := by omega
  have hnegm : ¬ ((1 : Int) + (smAl T n : Int) * 4 + (p : Int) < 0) := by omega
  have HP := HPP hnA hSA
  have HQ := HQQ hnA hSA
  clear hr1 hn hB0 hSA HPP HQQ
  go_wp2_with fail
  refine (toActSS_own n T a cap _ hnA HS.out HA).mono ?_
  rintro e w2 ⟨BOA, rfl, hb, OA⟩
  replace hB := below_then hB hb
  replace HA := HA.below hb
  replace HD := HD.below hb
  have sw2 : Hid (w1.heap.size ≤ w2.heap.size) := by have hq := hb.size; show w1.heap.size ≤ w2.heap.size; omega
  clear hb
  go_wp2_with fail
  refine (toInt64S_own p P d dc _ hp HD).mono ?_
  rintro e w3 ⟨BOD, rfl, hb, OD⟩
  replace hB := below_then hB hb
  replace HA := HA.below hb
  replace HD := HD.below hb
  replace OA := OA.below hb
  have sw3 : Hid (w2.heap.size ≤ w3.heap.size) := by have hq := hb.size; show w2.heap.size ≤ w3.heap.size; omega
  clear hb
  go_wp2_with fail
  refine (HP.out _ _ _ OA.at OD.at).mono ?_
  rintro e w4 ⟨x0, x1, x2, x3, rfl, hb, OW⟩
  replace hB := below_then hB hb
  replace HA := HA.below hb
  replace HD := HD.below hb
  replace OA := OA.below hb
  replace OD := OD.below hb
  have sw4 : Hid (w3.heap.size ≤ w4.heap.size) := by have hq := hb.size; show w3.heap.size ≤ w4.heap.size; omega
  clear hb
  clear OA OD
  go_wp2_with fail
  refine (toActSS_own n T a cap _ hnA HS.out (HA.below (below_new _ _))).mono ?_
  rintro e w5 ⟨BXA, rfl, hb, XA⟩
  have BW := (Box3.new w4 (.int .i64 c) (.slice x0 m x1) (.slice x2 l x3) 44).below hb
  replace hB := below_then hB (below_then (below_new _ _) hb)
  replace HA := (HA.below (below_new _ _)).below hb
  replace HD := (HD.below (below_new _ _)).below hb
  replace OW := (OW.below (below_new _ _)).below hb
  have sw5 : Hid (w4.heap.size < w5.heap.size) := by have hq := hb.size; simp at hq; show w4.heap.size < w5.heap.size; omega
  clear hb
  rw [World.size_alloc] at XA
  go_wp2_with fail
  refine (toInt64S_own p P d dc _ hp HD).mono ?_
  rintro e w6 ⟨BXD, rfl, hb, XD⟩
  replace hB := below_then hB hb
  replace BW := BW.below hb
  replace HA := HA.below hb
  replace HD := HD.below hb
  replace OW := OW.below hb
  replace XA := XA.below hb
  have sw6 : Hid (w5.heap.size ≤ w6.heap.size) := by have hq := hb.size; show w5.heap.size ≤ w6.heap.size; omega
  clear hb
  go_wp2_with fail
  refine (HQ.out _ _ _ XA.at XD.at).mono ?_
  rintro e w7 ⟨y0, y1, y2, y3, rfl, hb, OG⟩
  replace hB := below_then hB hb
  replace BW := BW.below hb
  replace HA := HA.below hb
  replace HD := HD.below hb
  replace OW := OW.below hb
  replace XA := XA.below hb
  replace XD := XD.below hb
  have sw7 : Hid (w6.heap.size ≤ w7.heap.size) := by have hq := hb.size; show w6.heap.size ≤ w7.heap.size; omega
  clear hb
  have TBW := BW
  obtain ⟨qBW0, qBW1, qBW2⟩ := TBW
  have rBW0 := fun o : Obj => cell_alloc qBW0 o
  have rBW1 := fun o : Obj => cell_alloc qBW1 o
  have rBW2 := fun o : Obj => cell_alloc qBW2 o
  go_wp2_with fail
  refine (eqMergeResult_same c m S l Z y0 x0 y1 x1 y2 x2 y3 x3 _ hm hl (OG.at_below (below_new _ _)) (OW.at_below (below_new _ _))).mono ?_
  rintro e w8 ⟨rfl, hb⟩
  clear qBW0 rBW0 qBW1 rBW1 qBW2 rBW2
  have BG := (Box3.new w7 (.int .i64 c) (.slice y0 m y1) (.slice y2 l y3) 44).below hb
  replace hB := below_then hB (below_then (below_new _ _) hb)
  replace BW := (BW.alloc _).below hb
  replace HA := (HA.below (below_new _ _)).below hb
  replace HD := (HD.below (below_new _ _)).below hb
  replace OW := (OW.below (below_new _ _)).below hb
  replace XA := (XA.below (below_new _ _)).below hb
  replace XD := (XD.below (below_new _ _)).below hb
  replace OG := (OG.below (below_new _ _)).below hb
  have sw8 : Hid (w7.heap.size < w8.heap.size) := by have hq := hb.size; simp at hq; show w7.heap.size < w8.heap.size; omega
  clear hb
  go_wp2_with fail
  refine (toActSS_own n T a cap _ hnA HS.out HA).mono ?_
  rintro e w9 ⟨BQ, rfl, hb, OQ⟩
  replace hB := below_then hB hb
  replace BW := BW.below hb
  replace BG := BG.below hb
  replace HA := HA.below hb
  replace HD := HD.below hb
  replace OW := OW.below hb
  replace XA := XA.below hb
  replace XD := XD.below hb
  replace OG := OG.below hb
  have sw9 : Hid (w8.heap.size ≤ w9.heap.size) := by have hq := hb.size; show w8.heap.size ≤ w9.heap.size; omega
  clear hb
  go_wp2_with fail
  refine (eqActSS_any n T _ _ n n _ hnA HS.out XA.at OQ.at).mono ?_
  rintro e w10 ⟨rfl, hb⟩
  replace hB := below_then hB hb
  replace BW := BW.below hb
  replace BG := BG.below hb
  replace HA := HA.below hb
  replace HD := HD.below hb
  replace OW := OW.below hb
  replace XA := XA.below hb
  replace XD := XD.below hb
  replace OG := OG.below hb
  replace OQ := OQ.below hb
  have sw10 : Hid (w9.heap.size ≤ w10.heap.size) := by have hq := hb.size; show w9.heap.size ≤ w10.heap.size; omega
  clear hb
  clear OQ
  go_wp2_with fail
  refine (toInt64S_own p P d dc _ hp HD).mono ?_
  rintro e w11 ⟨BQ2, rfl, hb, OQ⟩
  replace hB := below_then hB hb
  replace BW := BW.below hb
  replace BG := BG.below hb
  replace HA := HA.below hb
  replace HD := HD.below hb
  replace OW := OW.below hb
  replace XA := XA.below hb
  replace XD := XD.below hb
  replace OG := OG.below hb
  have sw11 : Hid (w10.heap.size ≤ w11.heap.size) := by have hq := hb.size; show w10.heap.size ≤ w11.heap.size; omega
  clear hb
  go_wp2_with fail
  refine (eqInt64S_any p P _ _ p p _ hp XD.at OQ.at).mono ?_
  rintro e w12 ⟨rfl, hb⟩
  replace hB := below_then hB hb
  replace BW := BW.below hb
  replace BG := BG.below hb
  replace HA := HA.below hb
  replace HD := HD.below hb
  replace OW := OW.below hb
  replace XA := XA.below hb
  replace XD := XD.below hb
  replace OG := OG.below hb
  replace OQ := OQ.below hb
  have sw12 : Hid (w11.heap.size ≤ w12.heap.size) := by have hq := hb.size; show w11.heap.size ≤ w12.heap.size; omega
  clear hb
  clear OQ
  go_wp2_with fail
  refine (markActSS_any n T _ n (w4.heap.size + 1) w5.heap.size _ hnA hsm XA).mono ?_
  rintro e w13 ⟨rfl, hw⟩
  clear XA
  replace hB := Writes.below hB hw (by have t0 := sw1.out; have t1 := sw2.out; have t2 := sw3.out; have t3 := sw4.out; have t4 := sw5.out; have t5 := sw6.out; have t6 := sw7.out; have t7 := sw8.out; have t8 := sw9.out; have t9 := sw10.out; have t10 := sw11.out; have t11 := sw12.out; omega)
  replace BW := BW.writes hw (by have t0 := sw1.out; have t1 := sw2.out; have t2 := sw3.out; have t3 := sw4.out; have t4 := sw5.out; have t5 := sw6.out; have t6 := sw7.out; have t7 := sw8.out; have t8 := sw9.out; have t9 := sw10.out; have t10 := sw11.out; have t11 := sw12.out; omega)
  replace BG := BG.writes hw (by have t0 := sw1.out; have t1 := sw2.out; have t2 := sw3.out; have t3 := sw4.out; have t4 := sw5.out; have t5 := sw6.out; have t6 := sw7.out; have t7 := sw8.out; have t8 := sw9.out; have t9 := sw10.out; have t10 := sw11.out; have t11 := sw12.out; omega)
  replace OW := OW.writes hw (by have t0 := sw1.out; have t1 := sw2.out; have t2 := sw3.out; have t3 := sw4.out; have t4 := sw5.out; have t5 := sw6.out; have t6 := sw7.out; have t7 := sw8.out; have t8 := sw9.out; have t9 := sw10.out; have t10 := sw11.out; have t11 := sw12.out; omega)
  replace XD := XD.writes hw (by have t0 := sw1.out; have t1 := sw2.out; have t2 := sw3.out; have t3 := sw4.out; have t4 := sw5.out; have t5 := sw6.out; have t6 := sw7.out; have t7 := sw8.out; have t8 := sw9.out; have t9 := sw10.out; have t10 := sw11.out; have t11 := sw12.out; omega)
  replace OG := OG.writes hw (by have t0 := sw1.out; have t1 := sw2.out; have t2 := sw3.out; have t3 := sw4.out; have t4 := sw5.out; have t5 := sw6.out; have t6 := sw7.out; have t7 := sw8.out; have t8 := sw9.out; have t9 := sw10.out; have t10 := sw11.out; have t11 := sw12.out; omega)
  replace HA := HA0.below hB
  replace HD := HD0.below hB
  have sw13 : Hid (w12.heap.size ≤ w13.heap.size) := by have hq := hw.size; show w12.heap.size ≤ w13.heap.size; omega
  clear hw
  go_wp2_with fail
  refine (markInt64S_any p P _ p w5.heap.size w6.heap.size (1 + smAl T n * 4) _ hp (by omega) (by omega) XD).mono ?_
  rintro e w14 ⟨rfl, hw, hox⟩
  clear XD hox
  replace hB := Writes.below hB hw (by have t0 := sw1.out; have t1 := sw2.out; have t2 := sw3.out; have t3 := sw4.out; have t4 := sw5.out; have t5 := sw6.out; have t6 := sw7.out; have t7 := sw8.out; have t8 := sw9.out; have t9 := sw10.out; have t10 := sw11.out; have t11 := sw12.out; have t12 := sw13.out; omega)
  replace BW := BW.writes hw (by have t0 := sw1.out; have t1 := sw2.out; have t2 := sw3.out; have t3 := sw4.out; have t4 := sw5.out; have t5 := sw6.out; have t6 := sw7.out; have t7 := sw8.out; have t8 := sw9.out; have t9 := sw10.out; have t10 := sw11.out; have t11 := sw12.out; have t12 := sw13.out; omega)
  replace BG := BG.writes hw (by have t0 := sw1.out; have t1 := sw2.out; have t2 := sw3.out; have t3 := sw4.out; have t4 := sw5.out; have t5 := sw6.out; have t6 := sw7.out; have t7 := sw8.out; have t8 := sw9.out; have t9 := sw10.out; have t10 := sw11.out; have t11 := sw12.out; have t12 := sw13.out; omega)
  replace OW := OW.writes hw (by have t0 := sw1.out; have t1 := sw2.out; have t2 := sw3.out; have t3 := sw4.out; have t4 := sw5.out; have t5 := sw6.out; have t6 := sw7.out; have t7 := sw8.out; have t8 := sw9.out; have t9 := sw10.out; have t10 := sw11.out; have t11 := sw12.out; have t12 := sw13.out; omega)
  replace OG := OG.writes hw (by have t0 := sw1.out; have t1 := sw2.out; have t2 := sw3.out; have t3 := sw4.out; have t4 := sw5.out; have t5 := sw6.out; have t6 := sw7.out; have t7 := sw8.out; have t8 := sw9.out; have t9 := sw10.out; have t10 := sw11.out; have t11 := sw12.out; have t12 := sw13.out; omega)
  replace HA := HA0.below hB
  replace HD := HD0.below hB
  have sw14 : Hid (w13.heap.size ≤ w14.heap.size) := by have hq := hw.size; show w13.heap.size ≤ w14.heap.size; omega
  clear hw
  have TBG := BG
  obtain ⟨qBG0, qBG1, qBG2⟩ := TBG
  have TBW := BW
  obtain ⟨qBW0, qBW1, qBW2⟩ := TBW
  go_wp2_with fail
  refine (eqMergeResult_same c m S l Z y0 x0 y1 x1 y2 x2 y3 x3 _ hm hl OG.at OW.at).mono ?_
  rintro e w15 ⟨rfl, hb⟩
  clear qBG0 qBG1 qBG2 qBW0 qBW1 qBW2
  replace hB := below_then hB hb
  replace BW := BW.below hb
  replace BG := BG.below hb
  replace HA := HA.below hb
  replace HD := HD.below hb
  replace OW := OW.below hb
  replace OG := OG.below hb
  have sw15 : Hid (w14.heap.size ≤ w15.heap.size) := by have hq := hb.size; show w14.heap.size ≤ w15.heap.size; omega
  clear hb
  have TBG := BG
  obtain ⟨qBG0, qBG1, qBG2⟩ := TBG
  go_wp2_with fail
  refine (markMergeResult_any c m S l Z y0 y1 y2 y3 w6.heap.size w7.heap.size _ hm hl OG).mono ?_
  rintro e w16 ⟨rfl, hw, hog⟩
  clear qBG0 qBG1 qBG2
  replace hB := Writes.below hB hw (by have t0 := sw1.out; have t1 := sw2.out; have t2 := sw3.out; have t3 := sw4.out; have t4 := sw5.out; have t5 := sw6.out; have t6 := sw7.out; have t7 := sw8.out; have t8 := sw9.out; have t9 := sw10.out; have t10 := sw11.out; have t11 := sw12.out; have t12 := sw13.out; have t13 := sw14.out; have t14 := sw15.out; omega)
  replace BW := BW.writes hw (by have t0 := sw1.out; have t1 := sw2.out; have t2 := sw3.out; have t3 := sw4.out; have t4 := sw5.out; have t5 := sw6.out; have t6 := sw7.out; have t7 := sw8.out; have t8 := sw9.out; have t9 := sw10.out; have t10 := sw11.out; have t11 := sw12.out; have t12 := sw13.out; have t13 := sw14.out; have t14 := sw15.out; omega)
  replace BG := BG.writes hw (by have t0 := sw1.out; have t1 := sw2.out; have t2 := sw3.out; have t3 := sw4.out; have t4 := sw5.out; have t5 := sw6.out; have t6 := sw7.out; have t7 := sw8.out; have t8 := sw9.out; have t9 := sw10.out; have t10 := sw11.out; have t11 := sw12.out; have t12 := sw13.out; have t13 := sw14.out; have t14 := sw15.out; omega)
  replace OW := OW.writes hw (by have t0 := sw1.out; have t1 := sw2.out; have t2 := sw3.out; have t3 := sw4.out; have t4 := sw5.out; have t5 := sw6.out; have t6 := sw7.out; have t7 := sw8.out; have t8 := sw9.out; have t9 := sw10.out; have t10 := sw11.out; have t11 := sw12.out; have t12 := sw13.out; have t13 := sw14.out; have t14 := sw15.out; omega)
  replace HA := HA0.below hB
  replace HD := HD0.below hB
  have sw16 : Hid (w15.heap.size ≤ w16.heap.size) := by have hq := hw.size; show w15.heap.size ≤ w16.heap.size; omega
  clear hw
  clear OG
  have OG := hog
  clear hog
  have TBG := BG
  obtain ⟨qBG0, qBG1, qBG2⟩ := TBG
  go_wp2_with fail
  refine (heldMergeResult_any c m l y0 y1 y2 y3 _ hm hl OG.at).mono ?_
  rintro e w17 ⟨rfl, hb⟩
  clear qBG0 qBG1 qBG2
  replace hB := below_then hB hb
  replace BW := BW.below hb
  replace BG := BG.below hb
  replace HA := HA.below hb
  replace HD := HD.below hb
  replace OW := OW.below hb
  replace OG := OG.below hb
  have sw17 : Hid (w16.heap.size ≤ w17.heap.size) := by have hq := hb.size; show w16.heap.size ≤ w17.heap.size; omega
  clear hb
  go_wp2_with fail
  refine (toActSS_own n T a cap _ hnA HS.out HA).mono ?_
  rintro e w18 ⟨BOA, rfl, hb, OA⟩
  replace hB := below_then hB hb
  replace BW := BW.below hb
  replace BG := BG.below hb
  replace HA := HA.below hb
  replace HD := HD.below hb
  replace OW := OW.below hb
  replace OG := OG.below hb
  have sw18 : Hid (w17.heap.size ≤ w18.heap.size) := by have hq := hb.size; show w17.heap.size ≤ w18.heap.size; omega
  clear hb
  go_wp2_with fail
  refine (toInt64S_own p P d dc _ hp HD).mono ?_
  rintro e w19 ⟨BOD, rfl, hb, OD⟩
  replace hB := below_then hB hb
  replace BW := BW.below hb
  replace BG := BG.below hb
  replace HA := HA.below hb
  replace HD := HD.below hb
  replace OW := OW.below hb
  replace OG := OG.below hb
  replace OA := OA.below hb
  have sw19 : Hid (w18.heap.size ≤ w19.heap.size) := by have hq := hb.size; show w18.heap.size ≤ w19.heap.size; omega
  clear hb
  go_wp2_with fail
  refine (HQ.out _ _ _ OA.at OD.at).mono ?_
  rintro e w20 ⟨z0, z1, z2, z3, rfl, hb, OH⟩
  replace hB := below_then hB hb
  replace BW := BW.below hb
  replace BG := BG.below hb
  replace HA := HA.below hb
  replace HD := HD.below hb
  replace OW := OW.below hb
  replace OG := OG.below hb
  replace OA := OA.below hb
  replace OD := OD.below hb
  have sw20 : Hid (w19.heap.size ≤ w20.heap.size) := by have hq := hb.size; show w19.heap.size ≤ w20.heap.size; omega
  clear hb
  clear OA OD
  have TBW := BW
  obtain ⟨qBW0, qBW1, qBW2⟩ := TBW
  have rBW0 := fun o : Obj => cell_alloc qBW0 o
  have rBW1 := fun o : Obj => cell_alloc qBW1 o
  have rBW2 := fun o : Obj => cell_alloc qBW2 o
  go_wp2_with fail
  refine (eqMergeResult_same c m S l Z z0 x0 z1 x1 z2 x2 z3 x3 _ hm hl (OH.at_below (below_new _ _)) (OW.at_below (below_new _ _))).mono ?_
  rintro e w21 ⟨rfl, hb⟩
  clear qBW0 rBW0 qBW1 rBW1 qBW2 rBW2
  replace hB := below_then hB (below_then (below_new _ _) hb)
  replace BW := (BW.alloc _).below hb
  replace BG := (BG.alloc _).below hb
  replace HA := (HA.below (below_new _ _)).below hb
  replace HD := (HD.below (below_new _ _)).below hb
  replace OW := (OW.below (below_new _ _)).below hb
  replace OG := (OG.below (below_new _ _)).below hb
  replace OH := (OH.below (below_new _ _)).below hb
  have sw21 : Hid (w20.heap.size < w21.heap.size) := by have hq := hb.size; simp at hq; show w20.heap.size < w21.heap.size; omega
  clear hb
  have TBG := BG
  obtain ⟨qBG0, qBG1, qBG2⟩ := TBG
  go_wp2_with fail
  refine (heldMergeResult_any c m l y0 y1 y2 y3 _ hm hl OG.at).mono ?_
  rintro e w22 ⟨rfl, hb⟩
  clear qBG0 qBG1 qBG2
  replace hB := below_then hB hb
  replace BW := BW.below hb
  replace BG := BG.below hb
  replace HA := HA.below hb
  replace HD := HD.below hb
  replace OW := OW.below hb
  replace OG := OG.below hb
  replace OH := OH.below hb
  have sw22 : Hid (w21.heap.size ≤ w22.heap.size) := by have hq := hb.size; show w21.heap.size ≤ w22.heap.size; omega
  clear hb
  go_wp2_with fail
  go_ret
  exact ⟨rfl, hB⟩
theorem mergeLaw_big (n : Nat) (a : Option Addr) (cap : Nat) (p : Nat) (d : Option Addr) (dc : Nat) (w : World) (hp0 : p ≤ 9223372036854775807) (hp : ¬ p ≤ 1048576) :
    Calls Try.prog 6 #[.slice a n cap, .slice d p dc] w fun e w' => e = .returned (.bool true) ∧ Below w.heap.size w w' := by
  have hnegp : (p : Int) > 1048576 := by omega
  go_enter Try.func6, Try.ntmps6
  go_wp2_with fail
  go_ret
  exact ⟨rfl, Below.refl _ _⟩
theorem mg_le (n : Nat) (T : Nat → Al) (p : Nat) (P : Nat → Int) : (if mgF n T p P = 0 then (mgK T P p).xs else []).length ≤ 1048576 ∧ (if mgF n T p P = 0 then (mgK T P p).ws else []).length ≤ 1048576 := by
  split
  · rename_i h
    have h2 := (mgF_ok h).2.1
    have h3 := mgK_b T P p
    have := h3.x
    have := h3.y
    omega
  · simp
theorem mergeLaw (n : Nat) (T : Nat → Al) (a : Option Addr) (cap : Nat) (p : Nat) (P : Nat → Int) (d : Option Addr) (dc : Nat) (w : World) (hn : n ≤ 9223372036854775807) (hB : BigAl n T) (h : AlsAt w a n T) (hp : p ≤ 9223372036854775807) (hd : IntsAt w d p P) :
    Calls Try.prog 6 #[.slice a n cap, .slice d p dc] w fun e w' => e = .returned (.bool true) ∧ Below w.heap.size w w' := by
  by_cases hs : p ≤ 1048576
  · exact mergeLaw_small n T a cap p P d dc w hn hB h hs hd (mgF n T p P) (if mgF n T p P = 0 then (mgK T P p).xs else []).length (aX (if mgF n T p P = 0 then (mgK T P p).xs else [])) (if mgF n T p P = 0 then (mgK T P p).ws else []).length (zI (if mgF n T p P = 0 then (mgK T P p).ws else [])) (mg_le n T p P).1 (mg_le n T p P).2 (fun hnA hSA => fun a d w h hd => specMg_any n T a n p P d p w hnA hSA hs h hd) (fun hnA hSA => fun a d w h hd => implMg_any n T a n p P d p w hnA hSA hs h hd)
  · exact mergeLaw_big n a cap p d dc  w hp hs
end Go.Proofs.Ytcfenhnggccmmaa
