/- FnExactPackPage: the walk of the law. -/
import Derived.Test.YtmopoblladnjbaaBh
import Derived.Test.YtmopoblladnjbaaOpen
namespace Go.Proofs.Ytmopoblladnjbaa
open Go.RowKit Go.Deep
set_option linter.unusedVariables false
set_option maxRecDepth 20000

theorem szPage_below (idn lsn : Int) (n : Nat) (a : Option Addr) (cap : Nat) (w : World) (hn : n ≤ 1048576) :
    Calls Try.prog 32 #[.agg #[.int .i64 idn, .int .i64 lsn, .slice a n cap], .int .i64 1048576] w fun e w' => e = .returned (.int .i64 (1048576 - n)) ∧ Below w.heap.size w w' := by
  refine (szPage_any idn lsn n a cap w (by omega)).mono ?_
  rintro e w' ⟨rfl, c, rfl⟩
  exact ⟨by rw [if_pos hn], below_new _ _⟩
theorem szPage_big (idn lsn : Int) (n : Nat) (a : Option Addr) (cap : Nat) (w : World) (hn : n ≤ 9223372036854775807) (hb : ¬ n ≤ 1048576) :
    Calls Try.prog 32 #[.agg #[.int .i64 idn, .int .i64 lsn, .slice a n cap], .int .i64 1048576] w fun e w' => e = .returned (.int .i64 (-1)) ∧ Below w.heap.size w w' := by
  refine (szPage_any idn lsn n a cap w (by omega)).mono ?_
  rintro e w' ⟨rfl, c, rfl⟩
  exact ⟨by rw [if_neg hb], below_new _ _⟩
set_option maxHeartbeats 4000000 in
theorem packLaw_small (idn lsn : Int) (n : Nat) (K V : Nat → Int) (a : Option Addr) (cap : Nat) (w : World) (hbig : n ≤ 1048576) (HA0 : CellsAt w a n K V)
    (c : Int) (m : Nat) (ZZ : Nat → Int) (hm : m ≤ 1000000000)
    (HP : Hid (∀ (b : Nat) (w : World), CellsAt w (some ⟨b, 0, none⟩) n K V → Calls Try.prog 33 #[.agg #[.int .i64 idn, .int .i64 lsn, .slice (some ⟨b, 0, none⟩) n n]] w fun e w' => ∃ a' cap', e = .returned (.agg #[.int .i64 c, .slice a' m cap']) ∧ Below w.heap.size w w' ∧ OwnB w' w.heap.size w'.heap.size a' m ZZ))
    (HQ : Hid (∀ (b : Nat) (w : World), CellsAt w (some ⟨b, 0, none⟩) n K V → Calls Try.prog 23 #[.agg #[.int .i64 idn, .int .i64 lsn, .slice (some ⟨b, 0, none⟩) n n]] w fun e w' => ∃ a' cap', e = .returned (.agg #[.int .i64 c, .slice a' m cap']) ∧ Below w.heap.size w w' ∧ OwnB w' w.heap.size w'.heap.size a' m ZZ)) :
    Calls Try.prog 5 #[.agg #[.int .i64 idn, .int .i64 lsn, .slice a n cap]] w fun e w' => e = .returned (.bool true) ∧ Below w.heap.size w w' := by
  go_enter Try.func5, Try.ntmps5
  go_wp2_with fail
  refine (szPage_below idn lsn n a cap _ hbig).mono ?_
  rintro e w1 ⟨rfl, hb⟩
  have hB : Below w.heap.size w w1 := below_then (below_new _ _) hb
  have BA := (Box3.new w (.int .i64 idn) (.int .i64 lsn) (.slice a n cap) 49).below hb
  have HA := HA0.below hB
  have sw1 : Hid (w.heap.size < w1.heap.size) := by have hq := hb.size; simp at hq; show w.heap.size < w1.heap.size; omega
  clear hb
  have hneg : ¬ ((1048576 : Int) - (n : Int) < 0) := by omega
  have hneg2 : ¬ ((1 : Int) + (n : Int) * 2 < 0) := by omega
  have hneg3 : ¬ ((1 : Int) + (m : Int) < 0) := by omega
  have TA := BA
  obtain ⟨qA0, qA1, qA2⟩ := TA
  go_wp2_with fail
  refine (toPage_any idn lsn n K V a cap _ (by omega) HA).mono ?_
  rintro e w2 ⟨b1, rfl, hb, ho⟩
  clear qA0 qA1 qA2
  replace hB := below_then hB hb
  replace BA := BA.below hb
  replace HA := HA.below hb
  have sw2 : Hid (w1.heap.size ≤ w2.heap.size) := by have hq := hb.size; show w1.heap.size ≤ w2.heap.size; omega
  clear hb
  go_wp2_with fail
  refine (HP.out _ _ ho.at).mono ?_
  rintro e w3 ⟨aw, cw, rfl, hb, OW⟩
  replace hB := below_then hB hb
  replace BA := BA.below hb
  replace HA := HA.below hb
  have sw3 : Hid (w2.heap.size ≤ w3.heap.size) := by have hq := hb.size; show w2.heap.size ≤ w3.heap.size; omega
  clear hb
  clear ho
  have TA := BA
  obtain ⟨qA0, qA1, qA2⟩ := TA
  have rA0 := fun o : Obj => cell_alloc qA0 o
  have rA1 := fun o : Obj => cell_alloc qA1 o
  have rA2 := fun o : Obj => cell_alloc qA2 o
  go_wp2_with fail
  refine (toPage_any idn lsn n K V a cap _ (by omega) (HA.below (below_new _ _))).mono ?_
  rintro e w4 ⟨bx, rfl, hb, ho⟩
  clear qA0 qA1 qA2 rA0 rA1 rA2
  replace hB := below_then hB (below_then (below_new _ _) hb)
  replace BA := (BA.alloc _).below hb
  have BW := (Box2.new w3 (.int .i64 c) (.slice aw m cw) 32).below hb
  replace OW := (OW.below (below_new _ _)).below hb
  replace HA := (HA.below (below_new _ _)).below hb
  have sw4 : Hid (w3.heap.size < w4.heap.size) := by have hq := hb.size; simp at hq; show w3.heap.size < w4.heap.size; omega
  have OX : Own w4 (w3.heap.size + 1) w4.heap.size _ n K V := ho.wide (by simp) (Nat.le_refl _) (Nat.le_refl _)
  clear ho
  clear hb
  go_wp2_with fail
  refine (HQ.out _ _ (OX.at.below (below_new _ _))).mono ?_
  rintro e w5 ⟨ag, cg, rfl, hb, ho⟩
  replace hB := below_then hB (below_then (below_new _ _) hb)
  replace BA := (BA.alloc _).below hb
  replace BW := (BW.alloc _).below hb
  have BX := (Box3.new w4 (.int .i64 idn) (.int .i64 lsn) (.slice (some ⟨bx, 0, none⟩) n n) 27).below hb
  replace OW := (OW.below (below_new _ _)).below hb
  replace OX := (OX.below (below_new _ _)).below hb
  replace HA := (HA.below (below_new _ _)).below hb
  have sw5 : Hid (w4.heap.size < w5.heap.size) := by have hq := hb.size; simp at hq; show w4.heap.size < w5.heap.size; omega
  have OG : OwnB w5 (w4.heap.size + 1) w5.heap.size _ m ZZ := ho.wide (by simp) (Nat.le_refl _) (Nat.le_refl _)
  clear ho
  clear hb
  have TW := BW
  obtain ⟨qW0, qW1⟩ := TW
  have rW0 := fun o : Obj => cell_alloc qW0 o
  have rW1 := fun o : Obj => cell_alloc qW1 o
  go_wp2_with fail
  refine (eqBytesResult_same c m ZZ ag aw cg cw _ (by omega) (OG.at.below (below_new _ _)) (OW.at.below (below_new _ _))).mono ?_
  rintro e w6 ⟨rfl, hb⟩
  clear qW0 qW1 rW0 rW1
  replace hB := below_then hB (below_then (below_new _ _) hb)
  replace BA := (BA.alloc _).below hb
  replace BW := (BW.alloc _).below hb
  replace BX := (BX.alloc _).below hb
  have BG := (Box2.new w5 (.int .i64 c) (.slice ag m cg) 32).below hb
  replace OW := (OW.below (below_new _ _)).below hb
  replace OX := (OX.below (below_new _ _)).below hb
  replace OG := (OG.below (below_new _ _)).below hb
  replace HA := (HA.below (below_new _ _)).below hb
  have sw6 : Hid (w5.heap.size < w6.heap.size) := by have hq := hb.size; simp at hq; show w5.heap.size < w6.heap.size; omega
  clear hb
  have TX := BX
  obtain ⟨qX0, qX1, qX2⟩ := TX
  have TA := BA
  obtain ⟨qA0, qA1, qA2⟩ := TA
  go_wp2_with fail
  have hb0 : Below w6.heap.size w6 w6.drew := (Below.refl _ _).drew
  go_region_held3 (fun w' => Below w6.heap.size w6 w' ∧ w'.cell? ⟨w4.heap.size, 0, none⟩ = some (.int .i64 idn) ∧ w'.cell? ⟨w4.heap.size, 1, none⟩ = some (.int .i64 lsn) ∧ w'.cell? ⟨w4.heap.size, 2, none⟩ = some (.slice (some ⟨bx, 0, none⟩) n n) ∧ w'.cell? ⟨w.heap.size, 0, none⟩ = some (.int .i64 idn) ∧ w'.cell? ⟨w.heap.size, 1, none⟩ = some (.int .i64 lsn) ∧ w'.cell? ⟨w.heap.size, 2, none⟩ = some (.slice a n cap)) (go_keep)
    (first | (go_at_call 34; refine (toPage_any idn lsn n K V a cap _ (by omega) (HA.below (by simp [*]))).mono ?_; rintro e wq ⟨bq, rfl, hbq, hoq⟩; have hU := below_then (w := w6) (by simp [*]) hbq; have hU0 := cell_below (B := w4.heap.size) (o := 0) (v := .int .i64 idn) (by simp [*]) hbq; have hU1 := cell_below (B := w4.heap.size) (o := 1) (v := .int .i64 lsn) (by simp [*]) hbq; have hU2 := cell_below (B := w4.heap.size) (o := 2) (v := .slice (some ⟨bx, 0, none⟩) n n) (by simp [*]) hbq; have hU3 := cell_below (B := w.heap.size) (o := 0) (v := .int .i64 idn) (by simp [*]) hbq; have hU4 := cell_below (B := w.heap.size) (o := 1) (v := .int .i64 lsn) (by simp [*]) hbq; have hU5 := cell_below (B := w.heap.size) (o := 2) (v := .slice a n cap) (by simp [*]) hbq) | (go_at_call 36; refine (eqPage_same idn lsn n K V _ _ n n _ (by omega) (OX.at.below (by simp [*])) hoq.at).mono ?_; rintro e w7 ⟨rfl, hbz⟩; have hS := below_then (w := w6) (by simp [*]) hbz; have hS0 := cell_below (B := w4.heap.size) (o := 0) (v := .int .i64 idn) (by simp [*]) hbz; have hS1 := cell_below (B := w4.heap.size) (o := 1) (v := .int .i64 lsn) (by simp [*]) hbz; have hS2 := cell_below (B := w4.heap.size) (o := 2) (v := .slice (some ⟨bx, 0, none⟩) n n) (by simp [*]) hbz; have hS3 := cell_below (B := w.heap.size) (o := 0) (v := .int .i64 idn) (by simp [*]) hbz; have hS4 := cell_below (B := w.heap.size) (o := 1) (v := .int .i64 lsn) (by simp [*]) hbz; have hS5 := cell_below (B := w.heap.size) (o := 2) (v := .slice a n cap) (by simp [*]) hbz))
  clear qX0 qX1 qX2 qA0 qA1 qA2
  clear hb0 hU hU0 hU1 hU2 hU3 hU4 hU5 hS0 hS1 hS2 hS3 hS4 hS5 hbq hoq hbz
  replace hB := below_then hB hS
  replace BA := BA.below hS
  replace BW := BW.below hS
  replace BX := BX.below hS
  replace BG := BG.below hS
  replace OW := OW.below hS
  replace OX := OX.below hS
  replace OG := OG.below hS
  replace HA := HA.below hS
  have sw7 : Hid (w6.heap.size ≤ w7.heap.size) := by have hq := hS.size; show w6.heap.size ≤ w7.heap.size; omega
  clear hS
  have TX := BX
  obtain ⟨qX0, qX1, qX2⟩ := TX
  go_wp2_with fail
  refine (markPage_any idn lsn n K V _ n (w3.heap.size + 1) w4.heap.size _ (by omega) OX).mono ?_
  rintro e w8 ⟨rfl, hw, hox⟩
  clear qX0 qX1 qX2
  replace hB := Writes.below hB hw (by have t0 := sw1.out; have t1 := sw2.out; have t2 := sw3.out; have t3 := sw4.out; have t4 := sw5.out; have t5 := sw6.out; have t6 := sw7.out; omega)
  replace BA := BA.writes hw (by have t0 := sw1.out; have t1 := sw2.out; have t2 := sw3.out; have t3 := sw4.out; have t4 := sw5.out; have t5 := sw6.out; have t6 := sw7.out; omega)
  replace BW := BW.writes hw (by have t0 := sw1.out; have t1 := sw2.out; have t2 := sw3.out; have t3 := sw4.out; have t4 := sw5.out; have t5 := sw6.out; have t6 := sw7.out; omega)
  replace BX := BX.writes hw (by have t0 := sw1.out; have t1 := sw2.out; have t2 := sw3.out; have t3 := sw4.out; have t4 := sw5.out; have t5 := sw6.out; have t6 := sw7.out; omega)
  replace BG := BG.writes hw (by have t0 := sw1.out; have t1 := sw2.out; have t2 := sw3.out; have t3 := sw4.out; have t4 := sw5.out; have t5 := sw6.out; have t6 := sw7.out; omega)
  replace OW := OW.writes hw (by have t0 := sw1.out; have t1 := sw2.out; have t2 := sw3.out; have t3 := sw4.out; have t4 := sw5.out; have t5 := sw6.out; have t6 := sw7.out; omega)
  replace OG := OG.writes hw (by have t0 := sw1.out; have t1 := sw2.out; have t2 := sw3.out; have t3 := sw4.out; have t4 := sw5.out; have t5 := sw6.out; have t6 := sw7.out; omega)
  replace HA := HA0.below hB
  have sw8 : Hid (w7.heap.size ≤ w8.heap.size) := by have hq := hw.size; show w7.heap.size ≤ w8.heap.size; omega
  clear hw
  clear hox OX
  have TG := BG
  obtain ⟨qG0, qG1⟩ := TG
  have TW := BW
  obtain ⟨qW0, qW1⟩ := TW
  go_wp2_with fail
  refine (eqBytesResult_same c m ZZ ag aw cg cw _ (by omega) OG.at OW.at).mono ?_
  rintro e w9 ⟨rfl, hb⟩
  clear qG0 qG1 qW0 qW1
  replace hB := below_then hB hb
  replace BA := BA.below hb
  replace BW := BW.below hb
  replace BX := BX.below hb
  replace BG := BG.below hb
  replace OW := OW.below hb
  replace OG := OG.below hb
  replace HA := HA.below hb
  have sw9 : Hid (w8.heap.size ≤ w9.heap.size) := by have hq := hb.size; show w8.heap.size ≤ w9.heap.size; omega
  clear hb
  have TG := BG
  obtain ⟨qG0, qG1⟩ := TG
  go_wp2_with fail
  refine (markBytesResult_any c m ZZ _ cg (w4.heap.size + 1) w5.heap.size _ (by omega) OG).mono ?_
  rintro e w10 ⟨rfl, hw, hog⟩
  clear qG0 qG1
  replace hB := Writes.below hB hw (by have t0 := sw1.out; have t1 := sw2.out; have t2 := sw3.out; have t3 := sw4.out; have t4 := sw5.out; have t5 := sw6.out; have t6 := sw7.out; have t7 := sw8.out; have t8 := sw9.out; omega)
  replace BA := BA.writes hw (by have t0 := sw1.out; have t1 := sw2.out; have t2 := sw3.out; have t3 := sw4.out; have t4 := sw5.out; have t5 := sw6.out; have t6 := sw7.out; have t7 := sw8.out; have t8 := sw9.out; omega)
  replace BW := BW.writes hw (by have t0 := sw1.out; have t1 := sw2.out; have t2 := sw3.out; have t3 := sw4.out; have t4 := sw5.out; have t5 := sw6.out; have t6 := sw7.out; have t7 := sw8.out; have t8 := sw9.out; omega)
  replace BX := BX.writes hw (by have t0 := sw1.out; have t1 := sw2.out; have t2 := sw3.out; have t3 := sw4.out; have t4 := sw5.out; have t5 := sw6.out; have t6 := sw7.out; have t7 := sw8.out; have t8 := sw9.out; omega)
  replace BG := BG.writes hw (by have t0 := sw1.out; have t1 := sw2.out; have t2 := sw3.out; have t3 := sw4.out; have t4 := sw5.out; have t5 := sw6.out; have t6 := sw7.out; have t7 := sw8.out; have t8 := sw9.out; omega)
  replace OW := OW.writes hw (by have t0 := sw1.out; have t1 := sw2.out; have t2 := sw3.out; have t3 := sw4.out; have t4 := sw5.out; have t5 := sw6.out; have t6 := sw7.out; have t7 := sw8.out; have t8 := sw9.out; omega)
  replace HA := HA0.below hB
  have sw10 : Hid (w9.heap.size ≤ w10.heap.size) := by have hq := hw.size; show w9.heap.size ≤ w10.heap.size; omega
  clear hw
  clear OG
  have OG := hog
  clear hog
  have TG := BG
  obtain ⟨qG0, qG1⟩ := TG
  go_wp2_with fail
  refine (heldBytesResult_any c m _ cg _ (by omega) OG.at).mono ?_
  rintro e w11 ⟨rfl, hb⟩
  clear qG0 qG1
  replace hB := below_then hB hb
  replace BA := BA.below hb
  replace BW := BW.below hb
  replace BX := BX.below hb
  replace BG := BG.below hb
  replace OW := OW.below hb
  replace OG := OG.below hb
  replace HA := HA.below hb
  have sw11 : Hid (w10.heap.size ≤ w11.heap.size) := by have hq := hb.size; show w10.heap.size ≤ w11.heap.size; omega
  clear hb
  have TA := BA
  obtain ⟨qA0, qA1, qA2⟩ := TA
  go_wp2_with fail
  refine (toPage_any idn lsn n K V a cap _ (by omega) HA).mono ?_
  rintro e w12 ⟨bv, rfl, hb, ho⟩
  clear qA0 qA1 qA2
  replace hB := below_then hB hb
  replace BA := BA.below hb
  replace BW := BW.below hb
  replace BX := BX.below hb
  replace BG := BG.below hb
  replace OW := OW.below hb
  replace OG := OG.below hb
  replace HA := HA.below hb
  have sw12 : Hid (w11.heap.size ≤ w12.heap.size) := by have hq := hb.size; show w11.heap.size ≤ w12.heap.size; omega
  clear hb
  go_wp2_with fail
  refine (HQ.out _ _ ho.at).mono ?_
  rintro e w13 ⟨ah, ch, rfl, hb, OH⟩
  replace hB := below_then hB hb
  replace BA := BA.below hb
  replace BW := BW.below hb
  replace BX := BX.below hb
  replace BG := BG.below hb
  replace OW := OW.below hb
  replace OG := OG.below hb
  replace HA := HA.below hb
  have sw13 : Hid (w12.heap.size ≤ w13.heap.size) := by have hq := hb.size; show w12.heap.size ≤ w13.heap.size; omega
  clear hb
  clear ho
  have TW := BW
  obtain ⟨qW0, qW1⟩ := TW
  have rW0 := fun o : Obj => cell_alloc qW0 o
  have rW1 := fun o : Obj => cell_alloc qW1 o
  go_wp2_with fail
  refine (eqBytesResult_same c m ZZ ah aw ch cw _ (by omega) (OH.at.below (below_new _ _)) (OW.at.below (below_new _ _))).mono ?_
  rintro e w14 ⟨rfl, hb⟩
  clear qW0 qW1 rW0 rW1
  replace hB := below_then hB (below_then (below_new _ _) hb)
  replace BA := (BA.alloc _).below hb
  replace BW := (BW.alloc _).below hb
  replace BX := (BX.alloc _).below hb
  replace BG := (BG.alloc _).below hb
  have BH := (Box2.new w13 (.int .i64 c) (.slice ah m ch) 32).below hb
  replace OW := (OW.below (below_new _ _)).below hb
  replace OG := (OG.below (below_new _ _)).below hb
  replace OH := (OH.below (below_new _ _)).below hb
  replace HA := (HA.below (below_new _ _)).below hb
  have sw14 : Hid (w13.heap.size < w14.heap.size) := by have hq := hb.size; simp at hq; show w13.heap.size < w14.heap.size; omega
  clear hb
  have TG := BG
  obtain ⟨qG0, qG1⟩ := TG
  go_wp2_with fail
  refine (heldBytesResult_any c m _ cg _ (by omega) OG.at).mono ?_
  rintro e w15 ⟨rfl, hb⟩
  clear qG0 qG1
  replace hB := below_then hB hb
  replace BA := BA.below hb
  replace BW := BW.below hb
  replace BX := BX.below hb
  replace BG := BG.below hb
  replace BH := BH.below hb
  replace OW := OW.below hb
  replace OG := OG.below hb
  replace OH := OH.below hb
  replace HA := HA.below hb
  have sw15 : Hid (w14.heap.size ≤ w15.heap.size) := by have hq := hb.size; show w14.heap.size ≤ w15.heap.size; omega
  clear hb
  go_wp2_with fail
  go_ret
  exact ⟨rfl, hB⟩
theorem pgb_len (idn lsn : Int) (n : Nat) (K V : Nat → Int) : (pgb idn lsn n K V).length ≤ 3 * n + 54 := by
  simp only [pgb, fld, bdy, List.length_append, List.length_replicate, hd_len, cb_len, nb_len]; omega
theorem packLaw (idn lsn : Int) (n : Nat) (K V : Nat → Int) (a : Option Addr) (cap : Nat) (w : World) (hn : n ≤ 9223372036854775807) (HA0 : CellsAt w a n K V) :
    Calls Try.prog 5 #[.agg #[.int .i64 idn, .int .i64 lsn, .slice a n cap]] w fun e w' => e = .returned (.bool true) ∧ Below w.heap.size w w' := by
  by_cases hbig : n ≤ 1048576
  · refine packLaw_small idn lsn n K V a cap w hbig HA0 _ _ _ ?_ (fun b w h => specPack_any idn lsn n K V _ n w (by omega) h) (fun b w h => implPack_any idn lsn n K V _ n w (by omega) h)
    have := pgb_len idn lsn n K V
    split <;> simp <;> omega
  · go_enter Try.func5, Try.ntmps5
    go_wp2_with fail
    refine (szPage_big idn lsn n a cap _ hn hbig).mono ?_
    rintro e w1 ⟨rfl, hb⟩
    go_wp2_with fail
    go_ret
    exact ⟨rfl, below_then (below_new _ _) hb⟩
end Go.Proofs.Ytmopoblladnjbaa
