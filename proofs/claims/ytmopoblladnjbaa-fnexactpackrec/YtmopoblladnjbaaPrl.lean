/- FnExactPackRec: the walk of the law. -/
import Derived.Test.YtmopoblladnjbaaSq
import Derived.Test.YtmopoblladnjbaaRl
namespace Go.Proofs.Ytmopoblladnjbaa
open Go.RowKit Go.Deep
set_option linter.unusedVariables false
set_option maxRecDepth 20000

theorem Box8.w {w w' : World} {lo hi B : Nat} {k t key : Int} {hd : Bool} {old : Int} {hs : Bool} {nw bk : Int} (h : Box8 w B k t key hd old hs nw bk) (x : Writes lo hi w w') (d : B < lo ∨ hi ≤ B) : Box8 w' B k t key hd old hs nw bk :=
  ⟨cell_writes h.1 x d, cell_writes h.2.1 x d, cell_writes h.2.2.1 x d, cell_writes h.2.2.2.1 x d, cell_writes h.2.2.2.2.1 x d, cell_writes h.2.2.2.2.2.1 x d, cell_writes h.2.2.2.2.2.2.1 x d, cell_writes h.2.2.2.2.2.2.2 x d⟩
theorem Box8.alloc {w : World} {B : Nat} {k t key : Int} {hd : Bool} {old : Int} {hs : Bool} {nw bk : Int} (h : Box8 w B k t key hd old hs nw bk) (x : Obj) : Box8 (w.alloc x) B k t key hd old hs nw bk := h.below (below_new _ _)
theorem Box8.writes {w w' : World} {lo hi B : Nat} {k t key : Int} {hd : Bool} {old : Int} {hs : Bool} {nw bk : Int} (h : Box8 w B k t key hd old hs nw bk) (x : Writes lo hi w w') (d : B < lo ∨ hi ≤ B) : Box8 w' B k t key hd old hs nw bk := h.w x d
theorem Box8.mk0 (w : World) (k t key : Int) (hd : Bool) (old : Int) (hs : Bool) (nw bk : Int) (T : TypeId) : Box8 (w.alloc (.cells #[.int .i64 k, .int .i64 t, .int .i64 key, .bool hd, .int .i64 old, .bool hs, .int .i64 nw, .int .i64 bk] T)) w.heap.size k t key hd old hs nw bk := by simp [Box8]
set_option maxHeartbeats 4000000 in
theorem packRecLaw_small (k t key : Int) (hd : Bool) (old : Int) (hs : Bool) (nw bk : Int) (w : World) (c : Int) (m : Nat) (ZZ : Nat → Int) (hm : m ≤ 1000000000)
    (HP : Hid (∀ (w : World), Calls Try.prog 67 #[.agg #[.int .i64 k, .int .i64 t, .int .i64 key, .bool hd, .int .i64 old, .bool hs, .int .i64 nw, .int .i64 bk]] w fun e w' => ∃ a' cap', e = .returned (.agg #[.int .i64 c, .slice a' m cap']) ∧ Below w.heap.size w w' ∧ OwnB w' w.heap.size w'.heap.size a' m ZZ))
    (HQ : Hid (∀ (w : World), Calls Try.prog 68 #[.agg #[.int .i64 k, .int .i64 t, .int .i64 key, .bool hd, .int .i64 old, .bool hs, .int .i64 nw, .int .i64 bk]] w fun e w' => ∃ a' cap', e = .returned (.agg #[.int .i64 c, .slice a' m cap']) ∧ Below w.heap.size w w' ∧ OwnB w' w.heap.size w'.heap.size a' m ZZ)) :
    Calls Try.prog 12 #[.agg #[.int .i64 k, .int .i64 t, .int .i64 key, .bool hd, .int .i64 old, .bool hs, .int .i64 nw, .int .i64 bk]] w fun e w' => e = .returned (.bool true) ∧ Below w.heap.size w w' := by
  have hneg3 : ¬ ((1 : Int) + (m : Int) < 0) := by omega
  go_enter Try.func12, Try.ntmps12
  go_wp2_with fail
  refine (toRec_any k t key hd old hs nw bk _).mono ?_
  rintro e w1 ⟨rfl, hb⟩
  have hB : Below w.heap.size w w1 := below_then (below_new _ _) hb
  have BA := (Box8.mk0 w k t key hd old hs nw bk 86).below hb
  have sw1 : Hid (w.heap.size < w1.heap.size) := by have hq := hb.size; simp at hq; show w.heap.size < w1.heap.size; omega
  clear hb
  go_wp2_with fail
  refine (HP.out _).mono ?_
  rintro e w2 ⟨aw, cw, rfl, hb, OW⟩
  replace hB := below_then hB hb
  replace BA := BA.below hb
  have sw2 : Hid (w1.heap.size ≤ w2.heap.size) := by have hq := hb.size; show w1.heap.size ≤ w2.heap.size; omega
  clear hb
  have TA := BA
  obtain ⟨qA0, qA1, qA2, qA3, qA4, qA5, qA6, qA7⟩ := TA
  have rA0 := fun o : Obj => cell_alloc qA0 o
  have rA1 := fun o : Obj => cell_alloc qA1 o
  have rA2 := fun o : Obj => cell_alloc qA2 o
  have rA3 := fun o : Obj => cell_alloc qA3 o
  have rA4 := fun o : Obj => cell_alloc qA4 o
  have rA5 := fun o : Obj => cell_alloc qA5 o
  have rA6 := fun o : Obj => cell_alloc qA6 o
  have rA7 := fun o : Obj => cell_alloc qA7 o
  go_wp2_with fail
  refine (toRec_any k t key hd old hs nw bk _).mono ?_
  rintro e w3 ⟨rfl, hb⟩
  clear qA0 qA1 qA2 qA3 qA4 qA5 qA6 qA7 rA0 rA1 rA2 rA3 rA4 rA5 rA6 rA7
  replace hB := below_then hB (below_then (below_new _ _) hb)
  replace BA := (BA.alloc _).below hb
  have BW := (Box2.new w2 (.int .i64 c) (.slice aw m cw) 32).below hb
  replace OW := (OW.below (below_new _ _)).below hb
  have sw3 : Hid (w2.heap.size < w3.heap.size) := by have hq := hb.size; simp at hq; show w2.heap.size < w3.heap.size; omega
  clear hb
  go_wp2_with fail
  refine (HQ.out _).mono ?_
  rintro e w4 ⟨ag, cg, rfl, hb, ho⟩
  replace hB := below_then hB hb
  replace BA := BA.below hb
  replace BW := BW.below hb
  replace OW := OW.below hb
  have sw4 : Hid (w3.heap.size ≤ w4.heap.size) := by have hq := hb.size; show w3.heap.size ≤ w4.heap.size; omega
  have OG : OwnB w4 (w3.heap.size) w4.heap.size _ m ZZ := ho.wide (Nat.le_refl _) (Nat.le_refl _) (Nat.le_refl _)
  clear ho
  clear hb
  have TW := BW
  obtain ⟨qW0, qW1⟩ := TW
  have rW0 := fun o : Obj => cell_alloc qW0 o
  have rW1 := fun o : Obj => cell_alloc qW1 o
  go_wp2_with fail
  refine (eqBytesResult_same c m ZZ ag aw cg cw _ (by omega) (OG.at.below (below_new _ _)) (OW.at.below (below_new _ _))).mono ?_
  rintro e w5 ⟨rfl, hb⟩
  clear qW0 qW1 rW0 rW1
  replace hB := below_then hB (below_then (below_new _ _) hb)
  replace BA := (BA.alloc _).below hb
  replace BW := (BW.alloc _).below hb
  have BG := (Box2.new w4 (.int .i64 c) (.slice ag m cg) 32).below hb
  replace OW := (OW.below (below_new _ _)).below hb
  replace OG := (OG.below (below_new _ _)).below hb
  have sw5 : Hid (w4.heap.size < w5.heap.size) := by have hq := hb.size; simp at hq; show w4.heap.size < w5.heap.size; omega
  clear hb
  have TG := BG
  obtain ⟨qG0, qG1⟩ := TG
  go_wp2_with fail
  refine (markBytesResult_any c m ZZ _ cg (w3.heap.size) w4.heap.size _ (by omega) OG).mono ?_
  rintro e w6 ⟨rfl, hw, hog⟩
  clear qG0 qG1
  replace hB := Writes.below hB hw (by have t0 := sw1.out; have t1 := sw2.out; have t2 := sw3.out; have t3 := sw4.out; have t4 := sw5.out; omega)
  replace BA := BA.writes hw (by have t0 := sw1.out; have t1 := sw2.out; have t2 := sw3.out; have t3 := sw4.out; have t4 := sw5.out; omega)
  replace BW := BW.writes hw (by have t0 := sw1.out; have t1 := sw2.out; have t2 := sw3.out; have t3 := sw4.out; have t4 := sw5.out; omega)
  replace BG := BG.writes hw (by have t0 := sw1.out; have t1 := sw2.out; have t2 := sw3.out; have t3 := sw4.out; have t4 := sw5.out; omega)
  replace OW := OW.writes hw (by have t0 := sw1.out; have t1 := sw2.out; have t2 := sw3.out; have t3 := sw4.out; have t4 := sw5.out; omega)
  have sw6 : Hid (w5.heap.size ≤ w6.heap.size) := by have hq := hw.size; show w5.heap.size ≤ w6.heap.size; omega
  clear hw
  clear OG
  have OG := hog
  clear hog
  have TG := BG
  obtain ⟨qG0, qG1⟩ := TG
  go_wp2_with fail
  refine (heldBytesResult_any c m _ cg _ (by omega) OG.at).mono ?_
  rintro e w7 ⟨rfl, hb⟩
  clear qG0 qG1
  replace hB := below_then hB hb
  replace BA := BA.below hb
  replace BW := BW.below hb
  replace BG := BG.below hb
  replace OW := OW.below hb
  replace OG := OG.below hb
  have sw7 : Hid (w6.heap.size ≤ w7.heap.size) := by have hq := hb.size; show w6.heap.size ≤ w7.heap.size; omega
  clear hb
  have TA := BA
  obtain ⟨qA0, qA1, qA2, qA3, qA4, qA5, qA6, qA7⟩ := TA
  go_wp2_with fail
  refine (toRec_any k t key hd old hs nw bk _).mono ?_
  rintro e w8 ⟨rfl, hb⟩
  clear qA0 qA1 qA2 qA3 qA4 qA5 qA6 qA7
  replace hB := below_then hB hb
  replace BA := BA.below hb
  replace BW := BW.below hb
  replace BG := BG.below hb
  replace OW := OW.below hb
  replace OG := OG.below hb
  have sw8 : Hid (w7.heap.size ≤ w8.heap.size) := by have hq := hb.size; show w7.heap.size ≤ w8.heap.size; omega
  clear hb
  go_wp2_with fail
  refine (HQ.out _).mono ?_
  rintro e w9 ⟨ah, ch, rfl, hb, OH⟩
  replace hB := below_then hB hb
  replace BA := BA.below hb
  replace BW := BW.below hb
  replace BG := BG.below hb
  replace OW := OW.below hb
  replace OG := OG.below hb
  have sw9 : Hid (w8.heap.size ≤ w9.heap.size) := by have hq := hb.size; show w8.heap.size ≤ w9.heap.size; omega
  clear hb
  have TW := BW
  obtain ⟨qW0, qW1⟩ := TW
  have rW0 := fun o : Obj => cell_alloc qW0 o
  have rW1 := fun o : Obj => cell_alloc qW1 o
  go_wp2_with fail
  refine (eqBytesResult_same c m ZZ ah aw ch cw _ (by omega) (OH.at.below (below_new _ _)) (OW.at.below (below_new _ _))).mono ?_
  rintro e w10 ⟨rfl, hb⟩
  clear qW0 qW1 rW0 rW1
  replace hB := below_then hB (below_then (below_new _ _) hb)
  replace BA := (BA.alloc _).below hb
  replace BW := (BW.alloc _).below hb
  replace BG := (BG.alloc _).below hb
  have BH := (Box2.new w9 (.int .i64 c) (.slice ah m ch) 32).below hb
  replace OW := (OW.below (below_new _ _)).below hb
  replace OG := (OG.below (below_new _ _)).below hb
  replace OH := (OH.below (below_new _ _)).below hb
  have sw10 : Hid (w9.heap.size < w10.heap.size) := by have hq := hb.size; simp at hq; show w9.heap.size < w10.heap.size; omega
  clear hb
  have TG := BG
  obtain ⟨qG0, qG1⟩ := TG
  go_wp2_with fail
  refine (heldBytesResult_any c m _ cg _ (by omega) OG.at).mono ?_
  rintro e w11 ⟨rfl, hb⟩
  clear qG0 qG1
  replace hB := below_then hB hb
  replace BA := BA.below hb
  replace BW := BW.below hb
  replace BG := BG.below hb
  replace BH := BH.below hb
  replace OW := OW.below hb
  replace OG := OG.below hb
  replace OH := OH.below hb
  have sw11 : Hid (w10.heap.size ≤ w11.heap.size) := by have hq := hb.size; show w10.heap.size ≤ w11.heap.size; omega
  clear hb
  go_wp2_with fail
  go_ret
  exact ⟨rfl, hB⟩
theorem packRecLaw (k t key : Int) (hd : Bool) (old : Int) (hs : Bool) (nw bk : Int) (w : World) :
    Calls Try.prog 12 #[.agg #[.int .i64 k, .int .i64 t, .int .i64 key, .bool hd, .int .i64 old, .bool hs, .int .i64 nw, .int .i64 bk]] w fun e w' => e = .returned (.bool true) ∧ Below w.heap.size w w' := by
  refine packRecLaw_small k t key hd old hs nw bk w _ _ _ ?_ (fun w => specPr_any k t key hd old hs nw bk w) (fun w => (implPr_any k t key hd old hs nw bk w).mono fun e w' h => ?_)
  · have := rb_len k t key hd old hs nw bk
    split <;> simp <;> omega
  · obtain ⟨a', cap', h1, h2, h3, h4⟩ := h
    exact ⟨a', cap', h1, h2, h3⟩
end Go.Proofs.Ytmopoblladnjbaa
