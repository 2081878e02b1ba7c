/- The model's names and how many numbers each kind writes. -/
import Derived.Test.YtiflheclfgloaaaDoorYsg
import Derived.Test.YtiflheclfgloaaaDoorBox
namespace Go.Proofs.YtiflheclfgloaaaDoor
open Go.RowKit Go.Deep
set_option linter.unusedVariables false
set_option maxRecDepth 20000

theorem l15Names_any (w : World) : Calls Tryd.prog 24 #[] w fun e w' => e = .returned (.slice (some ⟨w.heap.size, 0, none⟩) 8 8) ∧ Below w.heap.size w w' ∧ w.heap.size < w'.heap.size ∧ ∀ k, k < 8 → w'.cell? ⟨w.heap.size, k, none⟩ = some (.string (fw k)) := by
  go_enter Tryd.func24, Tryd.ntmps24
  go_wp2_with fail
  go_ret
  refine ⟨rfl, below_new _ _, by simp, fun k hk => ?_⟩
  match k, hk with
  | 0, _ => simp [fw, fwL]
  | 1, _ => simp [fw, fwL]
  | 2, _ => simp [fw, fwL]
  | 3, _ => simp [fw, fwL]
  | 4, _ => simp [fw, fwL]
  | 5, _ => simp [fw, fwL]
  | 6, _ => simp [fw, fwL]
  | 7, _ => simp [fw, fwL]
def NumsC (w : World) (n : Nat) (e : Ending) (w' : World) : Prop := ∃ a cap, e = .returned (.slice a n cap) ∧ Below w.heap.size w w'
theorem numbers_zero (w : World) (k x y z : Int) (hk : k = 1) : Calls Tryd.prog 23 #[.agg #[.int .i64 k, .int .i64 x, .int .i64 y, .int .i64 z]] w (NumsC w 0) := by
  subst hk
  go_enter Tryd.func23, Tryd.ntmps23
  go_wp2_with fail
  go_ret
  exact ⟨_, _, rfl, below_new _ _⟩
theorem numbers_two (w : World) (k x y z : Int) (h1 : (k == 1) = false) (h2 : (k == 2 || k == 5) = true) : Calls Tryd.prog 23 #[.agg #[.int .i64 k, .int .i64 x, .int .i64 y, .int .i64 z]] w (NumsC w 2) := by
  have hb : ∀ o1 o2, Below w.heap.size w ((w.alloc o1).alloc o2) := fun o1 o2 => (below_new _ _).alloc (by simp) _
  cases h3 : (k == 2) with
  | true =>
    go_enter Tryd.func23, Tryd.ntmps23
    go_wp2_with fail
    go_ret
    exact ⟨_, _, rfl, hb _ _⟩
  | false =>
    have h5 : (k == 5) = true := by simpa [h3] using h2
    go_enter Tryd.func23, Tryd.ntmps23
    go_wp2_with fail
    go_ret
    exact ⟨_, _, rfl, hb _ _⟩
theorem numbers_three (w : World) (k x y z : Int) (hk : k = 4) : Calls Tryd.prog 23 #[.agg #[.int .i64 k, .int .i64 x, .int .i64 y, .int .i64 z]] w (NumsC w 3) := by
  have hb : ∀ o1 o2, Below w.heap.size w ((w.alloc o1).alloc o2) := fun o1 o2 => (below_new _ _).alloc (by simp) _
  subst hk
  go_enter Tryd.func23, Tryd.ntmps23
  go_wp2_with fail
  go_ret
  exact ⟨_, _, rfl, hb _ _⟩
theorem numbers_one (w : World) (k x y z : Int) (h1 : (k == 1) = false) (h2 : (k == 2) = false) (h3 : (k == 5) = false) (h4 : (k == 4) = false) : Calls Tryd.prog 23 #[.agg #[.int .i64 k, .int .i64 x, .int .i64 y, .int .i64 z]] w (NumsC w 1) := by
  have hb : ∀ o1 o2, Below w.heap.size w ((w.alloc o1).alloc o2) := fun o1 o2 => (below_new _ _).alloc (by simp) _
  go_enter Tryd.func23, Tryd.ntmps23
  go_wp2_with fail
  go_ret
  exact ⟨_, _, rfl, hb _ _⟩
theorem numbers_any (w : World) (k : Nat) (x y z : Int) (h1 : 1 ≤ k) (h7 : k ≤ 7) : Calls Tryd.prog 23 #[.agg #[.int .i64 (k : Int), .int .i64 x, .int .i64 y, .int .i64 z]] w (NumsC w (fc k)) := by
  match k, h1, h7 with
  | 1, _, _ => exact numbers_zero w _ x y z rfl
  | 2, _, _ => exact numbers_two w _ x y z rfl rfl
  | 3, _, _ => exact numbers_one w _ x y z rfl rfl rfl rfl
  | 4, _, _ => exact numbers_three w _ x y z rfl
  | 5, _, _ => exact numbers_two w _ x y z rfl rfl
  | 6, _, _ => exact numbers_one w _ x y z rfl rfl rfl rfl
  | 7, _, _ => exact numbers_one w _ x y z rfl rfl rfl rfl
end Go.Proofs.YtiflheclfgloaaaDoor
