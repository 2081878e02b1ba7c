/- Chapter 5: small tests of versions. -/
import Derived.Test.YtnhlcadipkmhhaaGreatQVa
namespace Go.Proofs.YtnhlcadipkmhhaaGreat
open Go.RowKit Go.Deep
set_option linter.unusedVariables false
set_option maxRecDepth 20000

theorem isTxn_any (v : Int) (w : World) : Calls Tryz.prog 73 #[.int .i64 v] w fun e w' => e = .returned (.bool (inB v 1 999)) ∧ w' = w := by
  go_enter Tryz.func73, Tryz.ntmps73
  go_wp2_with (go_at_call 61; refine (within_any _ _ _ _).mono ?_; rintro e w' ⟨rfl, rfl⟩)
  go_ret
  exact ⟨rfl, rfl⟩
theorem isAt_any (v : Int) (w : World) : Calls Tryz.prog 74 #[.int .i64 v] w fun e w' => e = .returned (.bool (inB v 0 1000000)) ∧ w' = w := by
  go_enter Tryz.func74, Tryz.ntmps74
  go_wp2_with (go_at_call 61; refine (within_any _ _ _ _).mono ?_; rintro e w' ⟨rfl, rfl⟩)
  go_ret
  exact ⟨rfl, rfl⟩
theorem l5Txn_any (v : Int) (w : World) : Calls Tryz.prog 64 #[.int .i64 v] w fun e w' => e = .returned (.bool (inB v 1 999)) ∧ w' = w := by
  go_enter Tryz.func64, Tryz.ntmps64
  go_wp2_with (go_at_call 60; refine (l1In_any _ _ _ _).mono ?_; rintro e w' ⟨rfl, rfl⟩)
  go_ret
  exact ⟨rfl, rfl⟩
theorem l5At_any (v : Int) (w : World) : Calls Tryz.prog 142 #[.int .i64 v] w fun e w' => e = .returned (.bool (inB v 1 1000000)) ∧ w' = w := by
  go_enter Tryz.func142, Tryz.ntmps142
  go_wp2_with (go_at_call 60; refine (l1In_any _ _ _ _).mono ?_; rintro e w' ⟨rfl, rfl⟩)
  go_ret
  exact ⟨rfl, rfl⟩
theorem isCommitted_any (t a : Int) (g : Bool) (v : Int) (w : World) : Calls Tryz.prog 155 #[.agg #[.int .i64 t, .int .i64 a, .bool g, .int .i64 v]] w fun e w' => e = .returned (.bool (a != 0)) ∧ Below w.heap.size w w' := by
  go_enter Tryz.func155, Tryz.ntmps155
  go_wp2
  go_ret
  exact ⟨rfl, below_new _ _⟩
theorem goneWithValue_any (t a : Int) (g : Bool) (v : Int) (w : World) : Calls Tryz.prog 147 #[.agg #[.int .i64 t, .int .i64 a, .bool g, .int .i64 v]] w fun e w' => e = .returned (.bool (g && v != 0)) ∧ Below w.heap.size w w' := by
  cases g
  · go_enter Tryz.func147, Tryz.ntmps147
    go_wp2
    go_ret
    exact ⟨rfl, below_new _ _⟩
  · go_enter Tryz.func147, Tryz.ntmps147
    go_wp2
    all_goals
      go_ret
      exact ⟨ret_bool (by simp [*]), below_new _ _⟩
theorem openBy_any (t a : Int) (g : Bool) (v x : Int) (w : World) : Calls Tryz.prog 152 #[.agg #[.int .i64 t, .int .i64 a, .bool g, .int .i64 v], .int .i64 x] w fun e w' => e = .returned (.bool (t == x && a == 0)) ∧ Below w.heap.size w w' := by
  go_enter Tryz.func152, Tryz.ntmps152
  go_wp2
  all_goals
    go_ret
    exact ⟨ret_bool (by simp [*]), below_new _ _⟩
/-- May r stand right behind p? -/
def older (r p : Vr) : Bool := r.a != 0 && (p.a == 0 || decide (r.a < p.a))
theorem isOlder_any (r p : Vr) (w : World) : Calls Tryz.prog 148 #[.agg #[.int .i64 r.t, .int .i64 r.a, .bool r.g, .int .i64 r.v], .agg #[.int .i64 p.t, .int .i64 p.a, .bool p.g, .int .i64 p.v]] w fun e w' => e = .returned (.bool (older r p)) ∧ Below w.heap.size w w' := by
  obtain ⟨t, a, g, v⟩ := r
  obtain ⟨t', a', g', v'⟩ := p
  have hb0 : ∀ o1 o2, Below w.heap.size w ((w.alloc o1).alloc o2) := fun o1 o2 => ((Below.refl _ _).alloc (Nat.le_refl _) _).alloc (by simp) _
  unfold older
  by_cases h1 : a = 0
  · subst h1
    have e1 : ((0 : Int) != 0) = false := rfl
    go_enter Tryz.func148, Tryz.ntmps148
    go_wp2_with fail
    refine (isCommitted_any _ _ _ _ _).mono ?_
    rintro e w1 ⟨rfl, hb1⟩
    rw [e1]
    go_wp2_with fail
    go_ret
    exact ⟨rfl, below_then (hb0 _ _) hb1⟩
  · have e1 : (a != 0) = true := by simp [h1]
    by_cases h2 : a' = 0
    · subst h2
      have e2 : ((0 : Int) != 0) = false := rfl
      go_enter Tryz.func148, Tryz.ntmps148
      go_wp2_with fail
      refine (isCommitted_any _ _ _ _ _).mono ?_
      rintro e w1 ⟨rfl, hb1⟩
      rw [e1]
      obtain ⟨hc, hf⟩ := bcell hb1
      go_wp2_with fail
      refine (isCommitted_any _ _ _ _ _).mono ?_
      rintro e w2 ⟨rfl, hb2⟩
      rw [e2]
      go_wp2_with fail
      go_ret
      exact ⟨ret_bool (by simp [h1]), below_then (below_then (hb0 _ _) hb1) hb2⟩
    · have e2 : (a' != 0) = true := by simp [h2]
      have HV : Hid ((a != 0 && (a' == 0 || decide (a < a'))) = decide (a < a')) := by
        have e3 : (a' == 0) = false := by simp [h2]
        show (a != 0 && (a' == 0 || decide (a < a'))) = decide (a < a')
        rw [e1, e3]
        rfl
      go_enter Tryz.func148, Tryz.ntmps148
      go_wp2_with fail
      refine (isCommitted_any _ _ _ _ _).mono ?_
      rintro e w1 ⟨rfl, hb1⟩
      rw [e1]
      obtain ⟨hc, hf⟩ := bcell hb1
      go_wp2_with fail
      refine (isCommitted_any _ _ _ _ _).mono ?_
      rintro e w2 ⟨rfl, hb2⟩
      rw [e2]
      have hb3 := below_then hb1 hb2
      obtain ⟨hc2, hf2⟩ := bcell hb3
      go_wp2_with fail
      go_ret
      exact ⟨ret_bool HV.out.symm, below_then (hb0 _ _) hb3⟩
/-- What a view (x, o) meets in r: nothing (0), one that is gone (1), one that tells (2). -/
def kd (r : Vr) (x o : Int) : Int := if (r.a ≠ 0 ∧ r.a ≤ x) ∨ (r.t = o ∧ r.a = 0) then (if r.g then 1 else 2) else 0
theorem kindIn_any (r : Vr) (x o : Int) (w : World) : Calls Tryz.prog 127 #[.agg #[.int .i64 r.t, .int .i64 r.a, .bool r.g, .int .i64 r.v], .agg #[.int .i64 x, .int .i64 o]] w fun e w' => e = .returned (.int .i64 (kd r x o)) ∧ Below w.heap.size w w' := by
  obtain ⟨t, a, g, v⟩ := r
  have hb0 : ∀ o1 o2, Below w.heap.size w ((w.alloc o1).alloc o2) := fun o1 o2 => ((Below.refl _ _).alloc (Nat.le_refl _) _).alloc (by simp) _
  by_cases h1 : a = 0
  · subst h1
    have e1 : ((0 : Int) != 0) = false := rfl
    by_cases h2 : t = o
    · subst h2
      have e2 : (t == t && (0 : Int) == 0) = true := by simp
      cases g
      all_goals
        go_enter Tryz.func127, Tryz.ntmps127
        go_wp2_with fail
        refine (isCommitted_any _ _ _ _ _).mono ?_
        rintro e w1 ⟨rfl, hb1⟩
        rw [e1]
        obtain ⟨hc, hf⟩ := bcell hb1
        go_wp2_with fail
        refine (openBy_any _ _ _ _ _ _).mono ?_
        rintro e w2 ⟨rfl, hb2⟩
        rw [e2]
        have hb3 := below_then hb1 hb2
        obtain ⟨hc2, hf2⟩ := bcell hb3
        go_wp2_with fail
        go_ret
        exact ⟨ret_int (by simp [kd]), below_then (hb0 _ _) hb3⟩
    · have e2 : (t == o && (0 : Int) == 0) = false := by simp [h2]
      go_enter Tryz.func127, Tryz.ntmps127
      go_wp2_with fail
      refine (isCommitted_any _ _ _ _ _).mono ?_
      rintro e w1 ⟨rfl, hb1⟩
      rw [e1]
      obtain ⟨hc, hf⟩ := bcell hb1
      go_wp2_with fail
      refine (openBy_any _ _ _ _ _ _).mono ?_
      rintro e w2 ⟨rfl, hb2⟩
      rw [e2]
      go_wp2_with fail
      go_ret
      exact ⟨ret_int (by simp [kd, h2]), below_then (below_then (hb0 _ _) hb1) hb2⟩
  · have e1 : (a != 0) = true := by simp [h1]
    by_cases h3 : a ≤ x
    · cases g
      all_goals
        go_enter Tryz.func127, Tryz.ntmps127
        go_wp2_with fail
        refine (isCommitted_any _ _ _ _ _).mono ?_
        rintro e w1 ⟨rfl, hb1⟩
        rw [e1]
        obtain ⟨hc, hf⟩ := bcell hb1
        go_wp2_with fail
        go_ret
        exact ⟨ret_int (by simp [kd, h1, h3]), below_then (hb0 _ _) hb1⟩
    · have e3 : decide (a ≤ x) = false := by simp; omega
      have HK : Hid (kd ⟨t, a, g, v⟩ x o = 0) := by
        show _ = _
        unfold kd
        exact if_neg (by intro h; simp only [ne_eq] at h; omega)
      have e2 : (t == o && a == 0) = false := by simp [h1]
      go_enter Tryz.func127, Tryz.ntmps127
      go_wp2_with fail
      refine (isCommitted_any _ _ _ _ _).mono ?_
      rintro e w1 ⟨rfl, hb1⟩
      rw [e1]
      obtain ⟨hc, hf⟩ := bcell hb1
      go_wp2_with fail
      refine (openBy_any _ _ _ _ _ _).mono ?_
      rintro e w2 ⟨rfl, hb2⟩
      rw [e2]
      go_wp2_with fail
      go_ret
      exact ⟨ret_int HK.out.symm, below_then (below_then (hb0 _ _) hb1) hb2⟩
end Go.Proofs.YtnhlcadipkmhhaaGreat
