/- Chapter 5: small tests of versions. -/
import Derived.Test.YtaelpjjabkkhcaaGreatDoorVc
namespace Go.Proofs.YtaelpjjabkkhcaaGreatDoor
open Go.RowKit Go.Deep
set_option linter.unusedVariables false
set_option maxRecDepth 20000

theorem isTxn_any (v : Int) (w : World) : Calls Tryz.prog 32 #[.int .i64 v] w fun e w' => e = .returned (.bool (inB v 1 999)) ∧ w' = w := by
  go_enter Tryz.func32, Tryz.ntmps32
  go_wp2_with (go_at_call 51; refine (within_any _ _ _ _).mono ?_; rintro e w' ⟨rfl, rfl⟩)
  go_ret
  exact ⟨rfl, rfl⟩
theorem isAt_any (v : Int) (w : World) : Calls Tryz.prog 33 #[.int .i64 v] w fun e w' => e = .returned (.bool (inB v 0 1000000)) ∧ w' = w := by
  go_enter Tryz.func33, Tryz.ntmps33
  go_wp2_with (go_at_call 51; refine (within_any _ _ _ _).mono ?_; rintro e w' ⟨rfl, rfl⟩)
  go_ret
  exact ⟨rfl, rfl⟩
theorem l5Txn_any (v : Int) (w : World) : Calls Tryz.prog 25 #[.int .i64 v] w fun e w' => e = .returned (.bool (inB v 1 999)) ∧ w' = w := by
  go_enter Tryz.func25, Tryz.ntmps25
  go_wp2_with (go_at_call 26; refine (l1In_any _ _ _ _).mono ?_; rintro e w' ⟨rfl, rfl⟩)
  go_ret
  exact ⟨rfl, rfl⟩
theorem l5At_any (v : Int) (w : World) : Calls Tryz.prog 68 #[.int .i64 v] w fun e w' => e = .returned (.bool (inB v 1 1000000)) ∧ w' = w := by
  go_enter Tryz.func68, Tryz.ntmps68
  go_wp2_with (go_at_call 26; refine (l1In_any _ _ _ _).mono ?_; rintro e w' ⟨rfl, rfl⟩)
  go_ret
  exact ⟨rfl, rfl⟩
theorem isCommitted_any (t a : Int) (g : Bool) (v : Int) (w : World) : Calls Tryz.prog 91 #[.agg #[.int .i64 t, .int .i64 a, .bool g, .int .i64 v]] w fun e w' => e = .returned (.bool (a != 0)) ∧ Below w.heap.size w w' := by
  go_enter Tryz.func91, Tryz.ntmps91
  go_wp2
  go_ret
  exact ⟨rfl, below_new _ _⟩
theorem goneWithValue_any (t a : Int) (g : Bool) (v : Int) (w : World) : Calls Tryz.prog 74 #[.agg #[.int .i64 t, .int .i64 a, .bool g, .int .i64 v]] w fun e w' => e = .returned (.bool (g && v != 0)) ∧ Below w.heap.size w w' := by
  cases g
  · go_enter Tryz.func74, Tryz.ntmps74
    go_wp2
    go_ret
    exact ⟨rfl, below_new _ _⟩
  · go_enter Tryz.func74, Tryz.ntmps74
    go_wp2
    all_goals
      go_ret
      exact ⟨ret_bool (by simp [*]), below_new _ _⟩
theorem openBy_any (t a : Int) (g : Bool) (v x : Int) (w : World) : Calls Tryz.prog 79 #[.agg #[.int .i64 t, .int .i64 a, .bool g, .int .i64 v], .int .i64 x] w fun e w' => e = .returned (.bool (t == x && a == 0)) ∧ Below w.heap.size w w' := by
  go_enter Tryz.func79, Tryz.ntmps79
  go_wp2
  all_goals
    go_ret
    exact ⟨ret_bool (by simp [*]), below_new _ _⟩
/-- May r stand right behind p? -/
def older (r p : Vr) : Bool := r.a != 0 && (p.a == 0 || decide (r.a < p.a))
theorem isOlder_any (r p : Vr) (w : World) : Calls Tryz.prog 75 #[.agg #[.int .i64 r.t, .int .i64 r.a, .bool r.g, .int .i64 r.v], .agg #[.int .i64 p.t, .int .i64 p.a, .bool p.g, .int .i64 p.v]] w fun e w' => e = .returned (.bool (older r p)) ∧ Below w.heap.size w w' := by
  obtain ⟨t, a, g, v⟩ := r
  obtain ⟨t', a', g', v'⟩ := p
  have hb0 : ∀ o1 o2, Below w.heap.size w ((w.alloc o1).alloc o2) := fun o1 o2 => ((Below.refl _ _).alloc (Nat.le_refl _) _).alloc (by simp) _
  unfold older
  by_cases h1 : a = 0
  · subst h1
    have e1 : ((0 : Int) != 0) = false := rfl
    go_enter Tryz.func75, Tryz.ntmps75
    go_wp2_with fail
    refine (isCommitted_any _ _ _ _ _).mono ?_
    rintro e w1 ⟨rfl, hb1⟩
    rw [e1]
    go_wp2_with fail
    go_ret
    exact ⟨rfl, below_then (hb0 _ _) hb1⟩
  · have e1 : (a != 0) = true := by simp [h1]
    by_cases h2 : a' = 0
    · subst h2
      have e2 : ((0 : Int) != 0) = false := rfl
      go_enter Tryz.func75, Tryz.ntmps75
      go_wp2_with fail
      refine (isCommitted_any _ _ _ _ _).mono ?_
      rintro e w1 ⟨rfl, hb1⟩
      rw [e1]
      obtain ⟨hc, hf⟩ := bcell hb1
      go_wp2_with fail
      refine (isCommitted_any _ _ _ _ _).mono ?_
      rintro e w2 ⟨rfl, hb2⟩
      rw [e2]
      go_wp2_with fail
      go_ret
      exact ⟨ret_bool (by simp [h1]), below_then (below_then (hb0 _ _) hb1) hb2⟩
    · have e2 : (a' != 0) = true := by simp [h2]
      have HV : Hid ((a != 0 && (a' == 0 || decide (a < a'))) = decide (a < a')) := by
        have e3 : (a' == 0) = false := by simp [h2]
        show (a != 0 && (a' == 0 || decide (a < a'))) = decide (a < a')
        rw [e1, e3]
        rfl
      go_enter Tryz.func75, Tryz.ntmps75
      go_wp2_with fail
      refine (isCommitted_any _ _ _ _ _).mono ?_
      rintro e w1 ⟨rfl, hb1⟩
      rw [e1]
      obtain ⟨hc, hf⟩ := bcell hb1
      go_wp2_with fail
      refine (isCommitted_any _ _ _ _ _).mono ?_
      rintro e w2 ⟨rfl, hb2⟩
      rw [e2]
      have hb3 := below_then hb1 hb2
      obtain ⟨hc2, hf2⟩ := bcell hb3
      go_wp2_with fail
      go_ret
      exact ⟨ret_bool HV.out.symm, below_then (hb0 _ _) hb3⟩
/-- What a view (x, o) meets in r: nothing (0), one that is gone (1), one that tells (2). -/
def kd (r : Vr) (x o : Int) : Int := if (r.a ≠ 0 ∧ r.a ≤ x) ∨ (r.t = o ∧ r.a = 0) then (if r.g then 1 else 2) else 0
end Go.Proofs.YtaelpjjabkkhcaaGreatDoor
