/- Answers that are copies without transactions: equal, marked, held. -/
import Derived.Test.YtenglcgkachomaaNkb
namespace Go.Proofs.Ytenglcgkachomaa
open Go.ChangeShapes Go.WideShapes Go.ChangeAt Go.RowKit Go.Deep Go.Joins
set_option linter.unusedVariables false
set_option maxRecDepth 20000

def Box8 (w : World) (B : Nat) (c0 c1 c2 c3 c4 c5 c6 c7 : Value) : Prop := w.cell? ⟨B, 0, none⟩ = some c0 ∧ w.cell? ⟨B, 1, none⟩ = some c1 ∧ w.cell? ⟨B, 2, none⟩ = some c2 ∧ w.cell? ⟨B, 3, none⟩ = some c3 ∧ w.cell? ⟨B, 4, none⟩ = some c4 ∧ w.cell? ⟨B, 5, none⟩ = some c5 ∧ w.cell? ⟨B, 6, none⟩ = some c6 ∧ w.cell? ⟨B, 7, none⟩ = some c7
theorem Box8.alloc {w : World} {B : Nat} {c0 c1 c2 c3 c4 c5 c6 c7 : Value} (h : Box8 w B c0 c1 c2 c3 c4 c5 c6 c7) (x : Obj) : Box8 (w.alloc x) B c0 c1 c2 c3 c4 c5 c6 c7 := ⟨cell_alloc h.1 x, cell_alloc h.2.1 x, cell_alloc h.2.2.1 x, cell_alloc h.2.2.2.1 x, cell_alloc h.2.2.2.2.1 x, cell_alloc h.2.2.2.2.2.1 x, cell_alloc h.2.2.2.2.2.2.1 x, cell_alloc h.2.2.2.2.2.2.2 x⟩
theorem Box8.below {w w' : World} {B : Nat} {c0 c1 c2 c3 c4 c5 c6 c7 : Value} (h : Box8 w B c0 c1 c2 c3 c4 c5 c6 c7) (x : Below w.heap.size w w') : Box8 w' B c0 c1 c2 c3 c4 c5 c6 c7 := ⟨cell_below h.1 x, cell_below h.2.1 x, cell_below h.2.2.1 x, cell_below h.2.2.2.1 x, cell_below h.2.2.2.2.1 x, cell_below h.2.2.2.2.2.1 x, cell_below h.2.2.2.2.2.2.1 x, cell_below h.2.2.2.2.2.2.2 x⟩
theorem Box8.writes {w w' : World} {lo hi : Nat} {B : Nat} {c0 c1 c2 c3 c4 c5 c6 c7 : Value} (h : Box8 w B c0 c1 c2 c3 c4 c5 c6 c7) (x : Writes lo hi w w') (d : B < lo ∨ hi ≤ B) : Box8 w' B c0 c1 c2 c3 c4 c5 c6 c7 := ⟨cell_writes h.1 x d, cell_writes h.2.1 x d, cell_writes h.2.2.1 x d, cell_writes h.2.2.2.1 x d, cell_writes h.2.2.2.2.1 x d, cell_writes h.2.2.2.2.2.1 x d, cell_writes h.2.2.2.2.2.2.1 x d, cell_writes h.2.2.2.2.2.2.2 x d⟩
theorem Box8.new (w : World) (c0 c1 c2 c3 c4 c5 c6 c7 : Value) (t : TypeId) : Box8 (w.alloc (.cells #[c0, c1, c2, c3, c4, c5, c6, c7] t)) w.heap.size c0 c1 c2 c3 c4 c5 c6 c7 := by simp [Box8]
theorem eqCR_same (c : Int) (t : Cs) (a0 : Option Addr) (c0 : Nat) (a1 : Option Addr) (c1 : Nat) (d0 : Option Addr) (e0 : Nat) (d1 : Option Addr) (e1 : Nat) (w : World) (hS : SmCs t) (ht : t.tn = 0) (h : InCs w a0 a1 none t) (h' : InCs w d0 d1 none t) :
    Calls Try.prog 27 #[.agg #[.int .i64 c, .int .i64 0, .slice none 0 0, .int .i64 t.nx, .int .i64 t.ck, .slice a0 t.wn c0, .slice a1 t.ln c1, .slice none 0 0], .agg #[.int .i64 c, .int .i64 0, .slice none 0 0, .int .i64 t.nx, .int .i64 t.ck, .slice d0 t.wn e0, .slice d1 t.ln e1, .slice none 0 0]] w fun e w' => e = .returned (.bool true) ∧ Below w.heap.size w w' := by
  have HQ : Hid (∀ w', Below w.heap.size w w' → Calls Try.prog 22 #[.agg #[.int .i64 t.nx, .int .i64 t.ck, .slice a0 t.wn c0, .slice a1 t.ln c1, .slice none 0 0], .agg #[.int .i64 t.nx, .int .i64 t.ck, .slice d0 t.wn e0, .slice d1 t.ln e1, .slice none 0 0]] w' fun e w2 => e = .returned (.bool true) ∧ Below w'.heap.size w' w2) := fun w' hb => by
    have := eqCopies_same t a0 c0 a1 c1 none 0 d0 e0 d1 e1 none 0 w' hS (h.below hb) (h'.below hb)
    rw [ht] at this
    exact this
  clear h h' hS
  have hne : (c != c) = false := by simp
  have hb0 : ∀ o1 o2, Below w.heap.size w ((w.alloc o1).alloc o2) := fun o1 o2 => (((Below.refl _ _).alloc (Nat.le_refl _) _).alloc (by simp) _)
  go_enter Try.func27, Try.ntmps27
  go_wp2_with fail
  refine (eqCellS_any 0 (fun _ => 0) (fun _ => 0) none none 0 0 _ (by omega) (.inl rfl) (.inl rfl)).mono ?_
  rintro e w1 ⟨rfl, hb⟩
  have HB1 : Hid (Below w.heap.size w w1) := below_then (hb0 _ _) hb
  have q3 : w1.cell? ⟨w.heap.size, 3, none⟩ = some (.int .i64 t.nx) := by rw [(bcell2 hb).1 _ _ (by simp <;> omega)]; simp [go_sem]
  have y3 : w1.cell? ⟨w.heap.size + 1, 3, none⟩ = some (.int .i64 t.nx) := by rw [(bcell2 hb).1 _ _ (by simp <;> omega)]; simp [go_sem]
  have q4 : w1.cell? ⟨w.heap.size, 4, none⟩ = some (.int .i64 t.ck) := by rw [(bcell2 hb).1 _ _ (by simp <;> omega)]; simp [go_sem]
  have y4 : w1.cell? ⟨w.heap.size + 1, 4, none⟩ = some (.int .i64 t.ck) := by rw [(bcell2 hb).1 _ _ (by simp <;> omega)]; simp [go_sem]
  have q5 : w1.cell? ⟨w.heap.size, 5, none⟩ = some (.slice a0 t.wn c0) := by rw [(bcell2 hb).1 _ _ (by simp <;> omega)]; simp [go_sem]
  have y5 : w1.cell? ⟨w.heap.size + 1, 5, none⟩ = some (.slice d0 t.wn e0) := by rw [(bcell2 hb).1 _ _ (by simp <;> omega)]; simp [go_sem]
  have q6 : w1.cell? ⟨w.heap.size, 6, none⟩ = some (.slice a1 t.ln c1) := by rw [(bcell2 hb).1 _ _ (by simp <;> omega)]; simp [go_sem]
  have y6 : w1.cell? ⟨w.heap.size + 1, 6, none⟩ = some (.slice d1 t.ln e1) := by rw [(bcell2 hb).1 _ _ (by simp <;> omega)]; simp [go_sem]
  have q7 : w1.cell? ⟨w.heap.size, 7, none⟩ = some (.slice none 0 0) := by rw [(bcell2 hb).1 _ _ (by simp <;> omega)]; simp [go_sem]
  have y7 : w1.cell? ⟨w.heap.size + 1, 7, none⟩ = some (.slice none 0 0) := by rw [(bcell2 hb).1 _ _ (by simp <;> omega)]; simp [go_sem]
  clear hb hb0
  go_wp2_with fail
  refine (HQ.out _ HB1.out).mono ?_
  rintro e w2 ⟨rfl, hb2⟩
  have HB2 : Hid (Below w.heap.size w w2) := below_then HB1.out hb2
  clear hb2
  go_wp2_with fail
  go_ret
  exact ⟨rfl, HB2.out⟩
/-- Its marks. -/
def mkCs (t : Cs) : Cs := { t with wK := mK 1, wV := mK 2, lF := ik (1 + t.wn * 2) }
theorem markCopiedS_zero (a : Option Addr) (cap : Nat) (m : Int) (w : World) : Calls Try.prog 82 #[.slice a 0 cap, .int .i64 m] w fun e w' => e = .returned (.int .i64 m) ∧ w' = w := by
  go_enter Try.func82, Try.ntmps82
  go_wp2
  go_loop [1, 5] (fun q i => q = .int .i64 m ∧ i = .int .i64 0) (fun _ _ => 0)
  case atStart => exact ⟨rfl, rfl⟩
  case round =>
    obtain ⟨rfl, rfl⟩ := hrel
    go_wp2
    go_ret
    exact ⟨rfl, rfl⟩
theorem heldCopiedS_zero (a : Option Addr) (cap : Nat) (m : Int) (w : World) : Calls Try.prog 84 #[.slice a 0 cap, .int .i64 m] w fun e w' => e = .returned (.int .i64 m) ∧ w' = w := by
  go_enter Try.func84, Try.ntmps84
  go_wp2
  go_loop [1, 5] (fun q i => q = .int .i64 m ∧ i = .int .i64 0) (fun _ _ => 0)
  case atStart => exact ⟨rfl, rfl⟩
  case round =>
    obtain ⟨rfl, rfl⟩ := hrel
    go_wp2
    go_ret
    exact ⟨rfl, rfl⟩
set_option maxHeartbeats 1000000 in
theorem markC0_any (t : Cs) (a0 : Option Addr) (c0 : Nat) (a1 : Option Addr) (c1 lo hi : Nat) (w : World) (hS : SmCs t) (h : OwnNk w lo hi a0 a1 t) :
    Calls Try.prog 63 #[.agg #[.int .i64 t.nx, .int .i64 t.ck, .slice a0 t.wn c0, .slice a1 t.ln c1, .slice none 0 0], .int .i64 1] w fun e w' => e = .returned (.int .i64 (1 + t.wn * 2 + t.ln)) ∧ Writes lo hi w w' ∧ OwnNk w' lo hi a0 a1 (mkCs t) := by
  obtain ⟨g0, g1, -⟩ := hS
  obtain ⟨h0, ht, l1, h1, l2, h2, k1, k2, k3, k4, k5, k6, k7⟩ := h
  have H6 : Hid (Own w l1 h1 a0 t.wn t.wK t.wV) := k6
  have H7 : Hid (OwnI w l2 h2 a1 t.ln t.lF) := k7
  clear k6 k7
  have hl : w.heap.size ≥ hi := h0
  go_enter Try.func63, Try.ntmps63
  go_wp2_with fail
  refine (markCellS_any t.wn t.wK t.wV a0 c0 l1 h1 1 _ (by omega) (by omega) (by omega) (H6.out.below (below_new _ _))).mono ?_
  rintro e w1 ⟨rfl, hw1, ho1⟩
  have HB0 := below_new w (.cells #[.int .i64 t.nx, .int .i64 t.ck, .slice a0 t.wn c0, .slice a1 t.ln c1, .slice none 0 0] 50)
  obtain ⟨-, -, -, b3, b4⟩ := (Box5.new w (.int .i64 t.nx) (.int .i64 t.ck) (.slice a0 t.wn c0) (.slice a1 t.ln c1) (.slice none 0 0) 50).writes hw1 (.inr (by omega))
  have H71 : Hid (OwnI w1 l2 h2 a1 t.ln t.lF) := (H7.out.below HB0).writes hw1 (by omega)
  have HW1 : Hid (Writes l1 h1 w w1) := (Writes.of_below HB0).trans hw1
  have HO1 : Hid (Own w1 l1 h1 a0 t.wn (mK 1) (mK 2)) := ho1
  have hz1 : w.heap.size < w1.heap.size := by have := hw1.size; simp at this; omega
  clear hw1 ho1 HB0
  go_wp2_with fail
  refine (markInt64S_any t.ln t.lF a1 c1 l2 h2 (1 + t.wn * 2) _ (by omega) (by omega) (by omega) H71.out).mono ?_
  rintro e w2 ⟨rfl, hw2, ho2⟩
  replace b4 := cell_writes b4 hw2 (.inr (by omega))
  have HW2 : Hid (Writes l2 h2 w1 w2) := hw2
  have HO2 : Hid (OwnI w2 l2 h2 a1 t.ln (ik (1 + t.wn * 2))) := ho2
  have HO3 : Hid (Own w2 l1 h1 a0 t.wn (mK 1) (mK 2)) := HO1.out.writes hw2 (by omega)
  clear hw2 ho2
  go_wp2_with fail
  refine (markCopiedS_zero none 0 _ _).mono ?_
  rintro e w3 ⟨rfl, hw3⟩
  rw [hw3]
  clear hw3 w3
  go_wp2_with fail
  go_ret
  have wd : ∀ {l h : Nat} {u u' : World}, lo ≤ l → h ≤ hi → Writes l h u u' → Writes lo hi u u' := fun e1 e2 x => ⟨x.os, x.tape, x.output, x.size, fun q hq hd => x.block q hq (by omega)⟩
  exact ⟨rfl, (wd k1 k3 HW1.out).trans (wd k2 k4 HW2.out), by have := HW1.out.size; have := HW2.out.size; omega, ht, l1, h1, l2, h2, k1, k2, k3, k4, k5, HO3.out, HO2.out⟩
theorem markCR_any (c : Int) (t : Cs) (a0 : Option Addr) (c0 : Nat) (a1 : Option Addr) (c1 lo hi : Nat) (w : World) (hS : SmCs t) (h : OwnNk w lo hi a0 a1 t) :
    Calls Try.prog 30 #[.agg #[.int .i64 c, .int .i64 0, .slice none 0 0, .int .i64 t.nx, .int .i64 t.ck, .slice a0 t.wn c0, .slice a1 t.ln c1, .slice none 0 0], .int .i64 1] w fun e w' => e = .returned (.int .i64 (1 + t.wn * 2 + t.ln)) ∧ Writes lo hi w w' ∧ OwnNk w' lo hi a0 a1 (mkCs t) := by
  have HO : Hid (OwnNk w lo hi a0 a1 t) := h
  clear h
  go_enter Try.func30, Try.ntmps30
  go_wp2_with fail
  refine (markCellS_zero none 0 0 0 1 _ (by omega) (by omega)).mono ?_
  rintro e w1 ⟨rfl, hw1⟩
  rw [hw1]
  clear hw1 w1
  go_wp2_with fail
  refine (markC0_any t a0 c0 a1 c1 lo hi _ hS (HO.out.below (below_new _ _))).mono ?_
  rintro e w2 ⟨rfl, hw2, ho2⟩
  have HW2 : Hid (Writes lo hi w w2) := (Writes.of_below (below_new _ _)).trans hw2
  have HO2 : Hid (OwnNk w2 lo hi a0 a1 (mkCs t)) := ho2
  clear hw2 ho2
  go_wp2_with fail
  go_ret
  exact ⟨rfl, HW2.out, HO2.out⟩
set_option maxHeartbeats 1000000 in
theorem heldC0_any (t : Cs) (x y : Int) (a0 : Option Addr) (c0 : Nat) (a1 : Option Addr) (c1 : Nat) (w : World) (hS : SmCs t) (h : InCs w a0 a1 none (mkCs t)) :
    Calls Try.prog 65 #[.agg #[.int .i64 x, .int .i64 y, .slice a0 t.wn c0, .slice a1 t.ln c1, .slice none 0 0], .int .i64 1] w fun e w' => e = .returned (.int .i64 (1 + t.wn * 2 + t.ln)) ∧ Below w.heap.size w w' := by
  obtain ⟨g0, g1, -⟩ := hS
  obtain ⟨k6, k7, -⟩ := h
  have H6 : Hid (CellsAt w a0 t.wn (mK 1) (mK 2)) := k6
  have H7 : Hid (IntsAt w a1 t.ln (ik (1 + t.wn * 2))) := k7
  have n1 : ¬ ((1 : Int) + (t.wn : Int) * 2 < 0) := by omega
  have n2 : ¬ ((1 : Int) + (t.wn : Int) * 2 + (t.ln : Int) < 0) := by omega
  clear k6 k7
  go_enter Try.func65, Try.ntmps65
  go_wp2_with fail
  refine (heldCellS_any t.wn a0 c0 1 _ (by omega) (by omega) (by omega) (H6.out.below (below_new _ _))).mono ?_
  rintro e w1 ⟨rfl, hw1⟩
  rw [hw1]
  clear hw1 w1
  go_wp2_with fail
  refine (heldInt64S_any t.ln a1 c1 (1 + t.wn * 2) _ (by omega) (by omega) (by omega) (H7.out.below (below_new _ _))).mono ?_
  rintro e w2 ⟨rfl, hw2⟩
  rw [hw2]
  clear hw2 w2
  go_wp2_with fail
  refine (heldCopiedS_zero none 0 _ _).mono ?_
  rintro e w3 ⟨rfl, hw3⟩
  rw [hw3]
  clear hw3 w3
  go_wp2_with fail
  go_ret
  exact ⟨rfl, below_new _ _⟩
theorem heldCR_any (c x y : Int) (t : Cs) (a0 : Option Addr) (c0 : Nat) (a1 : Option Addr) (c1 : Nat) (w : World) (hS : SmCs t) (h : InCs w a0 a1 none (mkCs t)) :
    Calls Try.prog 31 #[.agg #[.int .i64 c, .int .i64 0, .slice none 0 0, .int .i64 x, .int .i64 y, .slice a0 t.wn c0, .slice a1 t.ln c1, .slice none 0 0], .int .i64 1] w fun e w' => e = .returned (.int .i64 (1 + t.wn * 2 + t.ln)) ∧ Below w.heap.size w w' := by
  have HO : Hid (InCs w a0 a1 none (mkCs t)) := h
  have n2 : ¬ ((1 : Int) + (t.wn : Int) * 2 + (t.ln : Int) < 0) := by omega
  clear h
  go_enter Try.func31, Try.ntmps31
  go_wp2_with fail
  refine (heldCellS_zero none 0 1 _ (by omega) (by omega)).mono ?_
  rintro e w1 ⟨rfl, hw1⟩
  rw [hw1]
  clear hw1 w1
  go_wp2_with fail
  refine (heldC0_any t x y a0 c0 a1 c1 _ hS (HO.out.below (below_new _ _))).mono ?_
  rintro e w2 ⟨rfl, hb2⟩
  have HB2 : Hid (Below w.heap.size w w2) := below_then (below_new _ _) hb2
  clear hb2
  go_wp2_with fail
  go_ret
  exact ⟨rfl, HB2.out⟩
end Go.Proofs.Ytenglcgkachomaa
