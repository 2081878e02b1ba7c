/- FnExactNewStore: the walk of the law. -/
import Derived.Test.YtjggplfhkejbbaaQZna
namespace Go.Proofs.Ytjggplfhkejbbaa
open Go.ChangeShapes Go.WideShapes Go.ChangeAt Go.RowKit Go.Deep Go.Joins
set_option linter.unusedVariables false
set_option maxRecDepth 20000

def Box10 (w : World) (B : Nat) (c0 c1 c2 c3 c4 c5 c6 c7 c8 c9 : Value) : Prop := w.cell? ⟨B, 0, none⟩ = some c0 ∧ w.cell? ⟨B, 1, none⟩ = some c1 ∧ w.cell? ⟨B, 2, none⟩ = some c2 ∧ w.cell? ⟨B, 3, none⟩ = some c3 ∧ w.cell? ⟨B, 4, none⟩ = some c4 ∧ w.cell? ⟨B, 5, none⟩ = some c5 ∧ w.cell? ⟨B, 6, none⟩ = some c6 ∧ w.cell? ⟨B, 7, none⟩ = some c7 ∧ w.cell? ⟨B, 8, none⟩ = some c8 ∧ w.cell? ⟨B, 9, none⟩ = some c9
theorem Box10.alloc {w : World} {B : Nat} {c0 c1 c2 c3 c4 c5 c6 c7 c8 c9 : Value} (h : Box10 w B c0 c1 c2 c3 c4 c5 c6 c7 c8 c9) (x : Obj) : Box10 (w.alloc x) B c0 c1 c2 c3 c4 c5 c6 c7 c8 c9 := ⟨cell_alloc h.1 x, cell_alloc h.2.1 x, cell_alloc h.2.2.1 x, cell_alloc h.2.2.2.1 x, cell_alloc h.2.2.2.2.1 x, cell_alloc h.2.2.2.2.2.1 x, cell_alloc h.2.2.2.2.2.2.1 x, cell_alloc h.2.2.2.2.2.2.2.1 x, cell_alloc h.2.2.2.2.2.2.2.2.1 x, cell_alloc h.2.2.2.2.2.2.2.2.2 x⟩
theorem Box10.below {w w' : World} {B : Nat} {c0 c1 c2 c3 c4 c5 c6 c7 c8 c9 : Value} (h : Box10 w B c0 c1 c2 c3 c4 c5 c6 c7 c8 c9) (x : Below w.heap.size w w') : Box10 w' B c0 c1 c2 c3 c4 c5 c6 c7 c8 c9 := ⟨cell_below h.1 x, cell_below h.2.1 x, cell_below h.2.2.1 x, cell_below h.2.2.2.1 x, cell_below h.2.2.2.2.1 x, cell_below h.2.2.2.2.2.1 x, cell_below h.2.2.2.2.2.2.1 x, cell_below h.2.2.2.2.2.2.2.1 x, cell_below h.2.2.2.2.2.2.2.2.1 x, cell_below h.2.2.2.2.2.2.2.2.2 x⟩
theorem Box10.writes {w w' : World} {lo hi : Nat} {B : Nat} {c0 c1 c2 c3 c4 c5 c6 c7 c8 c9 : Value} (h : Box10 w B c0 c1 c2 c3 c4 c5 c6 c7 c8 c9) (x : Writes lo hi w w') (d : B < lo ∨ hi ≤ B) : Box10 w' B c0 c1 c2 c3 c4 c5 c6 c7 c8 c9 := ⟨cell_writes h.1 x d, cell_writes h.2.1 x d, cell_writes h.2.2.1 x d, cell_writes h.2.2.2.1 x d, cell_writes h.2.2.2.2.1 x d, cell_writes h.2.2.2.2.2.1 x d, cell_writes h.2.2.2.2.2.2.1 x d, cell_writes h.2.2.2.2.2.2.2.1 x d, cell_writes h.2.2.2.2.2.2.2.2.1 x d, cell_writes h.2.2.2.2.2.2.2.2.2 x d⟩
theorem Box10.new (w : World) (c0 c1 c2 c3 c4 c5 c6 c7 c8 c9 : Value) (t : TypeId) : Box10 (w.alloc (.cells #[c0, c1, c2, c3, c4, c5, c6, c7, c8, c9] t)) w.heap.size c0 c1 c2 c3 c4 c5 c6 c7 c8 c9 := by simp [Box10]
set_option maxHeartbeats 8000000 in
theorem newStoreLaw_small (x : Int) (w : World) (c v : Int) (R : Sto) (hR : FewS R)
    (HP : Hid (∀ (w : World), Calls Try.prog 10 #[.int .i64 x] w (SRes c v R w)))
    (HQ : Hid (∀ (w : World), Calls Try.prog 11 #[.int .i64 x] w (SRes c v R w))) :
    Calls Try.prog 4 #[.int .i64 x] w fun e w' => e = .returned (.bool true) ∧ Below w.heap.size w w' := by
  go_enter Try.func4, Try.ntmps4
  have hneg3 : ¬ ((1 : Int) + (totS R : Int) < 0) := by omega
  go_wp2_with fail
  refine (HP.out w).mono ?_
  rintro e w1 ⟨wa0, wc0, wa1, wc1, wa2, wc2, wa3, wc3, wa4, wc4, wa5, wc5, wa6, wc6, rfl, hb, OW⟩
  have hB : Below w.heap.size w w1 := hb
  have sw1 : Hid (w.heap.size ≤ w1.heap.size) := by have hq := hb.size; show w.heap.size ≤ w1.heap.size; omega
  clear hb
  go_wp2_with fail
  refine (HQ.out _).mono ?_
  rintro e w2 ⟨ga0, gc0, ga1, gc1, ga2, gc2, ga3, gc3, ga4, gc4, ga5, gc5, ga6, gc6, rfl, hb, ho⟩
  replace hB := below_then hB (below_then (below_new _ _) hb)
  have BW := (Box10.new w1 (.int .i64 c) (.int .i64 v) (.int .i64 R.nx) (.slice wa0 R.pn wc0) (.slice wa1 R.d.n wc1) (.slice wa2 R.d.m wc2) (.slice wa3 R.g.n1 wc3) (.slice wa4 R.g.n2 wc4) (.slice wa5 R.hn wc5) (.slice wa6 R.on wc6) 48).below hb
  replace OW := (OW.below (below_new _ _)).below hb
  have sw2 : Hid (w1.heap.size < w2.heap.size) := by have hq := hb.size; simp at hq; show w1.heap.size < w2.heap.size; omega
  have OG : OwnS w2 (w1.heap.size + 1) w2.heap.size ga0 ga1 ga2 ga3 ga4 ga5 ga6 R := ho.wide (by simp) (Nat.le_refl _) (Nat.le_refl _)
  clear ho
  clear hb
  have TW := BW
  obtain ⟨qW0, qW1, qW2, qW3, qW4, qW5, qW6, qW7, qW8, qW9⟩ := TW
  have rW0 := fun o : Obj => cell_alloc qW0 o
  have rW1 := fun o : Obj => cell_alloc qW1 o
  have rW2 := fun o : Obj => cell_alloc qW2 o
  have rW3 := fun o : Obj => cell_alloc qW3 o
  have rW4 := fun o : Obj => cell_alloc qW4 o
  have rW5 := fun o : Obj => cell_alloc qW5 o
  have rW6 := fun o : Obj => cell_alloc qW6 o
  have rW7 := fun o : Obj => cell_alloc qW7 o
  have rW8 := fun o : Obj => cell_alloc qW8 o
  have rW9 := fun o : Obj => cell_alloc qW9 o
  go_wp2_with fail
  refine (eqStoreResult_same c v R ga0 gc0 ga1 gc1 ga2 gc2 ga3 gc3 ga4 gc4 ga5 gc5 ga6 gc6 wa0 wc0 wa1 wc1 wa2 wc2 wa3 wc3 wa4 wc4 wa5 wc5 wa6 wc6 _ hR.1 (OG.at.below (below_new _ _)) (OW.at.below (below_new _ _))).mono ?_
  rintro e w3 ⟨rfl, hb⟩
  clear qW0 qW1 qW2 qW3 qW4 qW5 qW6 qW7 qW8 qW9 rW0 rW1 rW2 rW3 rW4 rW5 rW6 rW7 rW8 rW9
  replace hB := below_then hB (below_then (below_new _ _) hb)
  replace BW := (BW.alloc _).below hb
  have BG := (Box10.new w2 (.int .i64 c) (.int .i64 v) (.int .i64 R.nx) (.slice ga0 R.pn gc0) (.slice ga1 R.d.n gc1) (.slice ga2 R.d.m gc2) (.slice ga3 R.g.n1 gc3) (.slice ga4 R.g.n2 gc4) (.slice ga5 R.hn gc5) (.slice ga6 R.on gc6) 48).below hb
  replace OW := (OW.below (below_new _ _)).below hb
  replace OG := (OG.below (below_new _ _)).below hb
  have sw3 : Hid (w2.heap.size < w3.heap.size) := by have hq := hb.size; simp at hq; show w2.heap.size < w3.heap.size; omega
  clear hb
  have TG := BG
  obtain ⟨qG0, qG1, qG2, qG3, qG4, qG5, qG6, qG7, qG8, qG9⟩ := TG
  go_wp2_with fail
  refine (markStoreResult_any c v R ga0 gc0 ga1 gc1 ga2 gc2 ga3 gc3 ga4 gc4 ga5 gc5 ga6 gc6 (w1.heap.size + 1) w2.heap.size _ hR OG).mono ?_
  rintro e w4 ⟨rfl, hw, hog⟩
  clear qG0 qG1 qG2 qG3 qG4 qG5 qG6 qG7 qG8 qG9
  replace hB := Writes.below hB hw (by have t0 := sw1.out; have t1 := sw2.out; have t2 := sw3.out; omega)
  replace BW := BW.writes hw (by have t0 := sw1.out; have t1 := sw2.out; have t2 := sw3.out; omega)
  replace BG := BG.writes hw (by have t0 := sw1.out; have t1 := sw2.out; have t2 := sw3.out; omega)
  replace OW := OW.writes hw (by have t0 := sw1.out; have t1 := sw2.out; have t2 := sw3.out; omega)
  have sw4 : Hid (w3.heap.size ≤ w4.heap.size) := by have hq := hw.size; show w3.heap.size ≤ w4.heap.size; omega
  clear hw
  clear OG
  have OG := hog
  clear hog
  have TG := BG
  obtain ⟨qG0, qG1, qG2, qG3, qG4, qG5, qG6, qG7, qG8, qG9⟩ := TG
  go_wp2_with fail
  refine (heldStoreResult_any c v R ga0 gc0 ga1 gc1 ga2 gc2 ga3 gc3 ga4 gc4 ga5 gc5 ga6 gc6 _ hR OG.at).mono ?_
  rintro e w5 ⟨rfl, hb⟩
  clear qG0 qG1 qG2 qG3 qG4 qG5 qG6 qG7 qG8 qG9
  replace hB := below_then hB hb
  replace BW := BW.below hb
  replace BG := BG.below hb
  replace OW := OW.below hb
  replace OG := OG.below hb
  have sw5 : Hid (w4.heap.size ≤ w5.heap.size) := by have hq := hb.size; show w4.heap.size ≤ w5.heap.size; omega
  clear hb
  go_wp2_with fail
  refine (HQ.out _).mono ?_
  rintro e w6 ⟨ha0, hc0, ha1, hc1, ha2, hc2, ha3, hc3, ha4, hc4, ha5, hc5, ha6, hc6, rfl, hb, OH⟩
  replace hB := below_then hB hb
  replace BW := BW.below hb
  replace BG := BG.below hb
  replace OW := OW.below hb
  replace OG := OG.below hb
  have sw6 : Hid (w5.heap.size ≤ w6.heap.size) := by have hq := hb.size; show w5.heap.size ≤ w6.heap.size; omega
  clear hb
  have TW := BW
  obtain ⟨qW0, qW1, qW2, qW3, qW4, qW5, qW6, qW7, qW8, qW9⟩ := TW
  have rW0 := fun o : Obj => cell_alloc qW0 o
  have rW1 := fun o : Obj => cell_alloc qW1 o
  have rW2 := fun o : Obj => cell_alloc qW2 o
  have rW3 := fun o : Obj => cell_alloc qW3 o
  have rW4 := fun o : Obj => cell_alloc qW4 o
  have rW5 := fun o : Obj => cell_alloc qW5 o
  have rW6 := fun o : Obj => cell_alloc qW6 o
  have rW7 := fun o : Obj => cell_alloc qW7 o
  have rW8 := fun o : Obj => cell_alloc qW8 o
  have rW9 := fun o : Obj => cell_alloc qW9 o
  go_wp2_with fail
  refine (eqStoreResult_same c v R ha0 hc0 ha1 hc1 ha2 hc2 ha3 hc3 ha4 hc4 ha5 hc5 ha6 hc6 wa0 wc0 wa1 wc1 wa2 wc2 wa3 wc3 wa4 wc4 wa5 wc5 wa6 wc6 _ hR.1 (OH.at.below (below_new _ _)) (OW.at.below (below_new _ _))).mono ?_
  rintro e w7 ⟨rfl, hb⟩
  clear qW0 qW1 qW2 qW3 qW4 qW5 qW6 qW7 qW8 qW9 rW0 rW1 rW2 rW3 rW4 rW5 rW6 rW7 rW8 rW9
  replace hB := below_then hB (below_then (below_new _ _) hb)
  replace BW := (BW.alloc _).below hb
  replace BG := (BG.alloc _).below hb
  have BH := (Box10.new w6 (.int .i64 c) (.int .i64 v) (.int .i64 R.nx) (.slice ha0 R.pn hc0) (.slice ha1 R.d.n hc1) (.slice ha2 R.d.m hc2) (.slice ha3 R.g.n1 hc3) (.slice ha4 R.g.n2 hc4) (.slice ha5 R.hn hc5) (.slice ha6 R.on hc6) 48).below hb
  replace OW := (OW.below (below_new _ _)).below hb
  replace OG := (OG.below (below_new _ _)).below hb
  replace OH := (OH.below (below_new _ _)).below hb
  have sw7 : Hid (w6.heap.size < w7.heap.size) := by have hq := hb.size; simp at hq; show w6.heap.size < w7.heap.size; omega
  clear hb
  have TG := BG
  obtain ⟨qG0, qG1, qG2, qG3, qG4, qG5, qG6, qG7, qG8, qG9⟩ := TG
  go_wp2_with fail
  refine (heldStoreResult_any c v R ga0 gc0 ga1 gc1 ga2 gc2 ga3 gc3 ga4 gc4 ga5 gc5 ga6 gc6 _ hR OG.at).mono ?_
  rintro e w8 ⟨rfl, hb⟩
  clear qG0 qG1 qG2 qG3 qG4 qG5 qG6 qG7 qG8 qG9
  replace hB := below_then hB hb
  replace BW := BW.below hb
  replace BG := BG.below hb
  replace BH := BH.below hb
  replace OW := OW.below hb
  replace OG := OG.below hb
  replace OH := OH.below hb
  have sw8 : Hid (w7.heap.size ≤ w8.heap.size) := by have hq := hb.size; show w7.heap.size ≤ w8.heap.size; omega
  clear hb
  go_wp2_with fail
  go_ret
  exact ⟨rfl, hB⟩
theorem newStoreLaw (x : Int) (w : World) : Calls Try.prog 4 #[.int .i64 x] w fun e w' => e = .returned (.bool true) ∧ Below w.heap.size w w' := by
  refine newStoreLaw_small x w (nsC x) 0 (nsT x) ?_ (fun w => specNs_any x w) (fun w => implNs_any x w)
  unfold nsT
  by_cases h : inB x 1 999 = true
  · rw [if_pos h]; exact stN_few x
  · rw [if_neg h]; exact zSt_few
end Go.Proofs.Ytjggplfhkejbbaa
