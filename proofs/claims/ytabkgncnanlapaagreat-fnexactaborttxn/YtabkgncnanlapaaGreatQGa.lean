/- The fault of an engine, by the program: undos and the form of transactions. -/
import Derived.Test.YtabkgncnanlapaaGreatQFa
import Derived.Deep.RegionLaw
namespace Go.Proofs.YtabkgncnanlapaaGreat
open Go.RowKit Go.Deep
set_option linter.unusedVariables false
set_option maxRecDepth 20000

theorem bool_or2 (b : Bool) : b = true ∨ b = false := by cases b <;> simp
set_option maxHeartbeats 2000000 in
theorem undoFault_any (u : Ud) (w : World) : Calls Tryz.prog 112 #[.agg #[.int .i64 u.k, .bool u.h, .bool u.g, .int .i64 u.v]] w fun e w' => e = .returned (.int .i64 (uF u)) ∧ Below w.heap.size w w' := by
  have HX : Hid (uF u = if inB u.k 0 31 = false ∨ inB u.v 0 9999 = false then 3 else if uB u = true then 1 else 0) := rfl
  obtain hk1 | hk1 := bool_or2 (inB u.k 0 31)
  · obtain hv1 | hv1 := bool_or2 (inB u.v 0 9999)
    · obtain ⟨uk, uh, ug, uv⟩ := u
      dsimp only at *
      obtain hz | hz := bool_or2 (uv != 0) <;> cases uh <;> cases ug
      all_goals
        have HE : Hid (uF ⟨uk, _, _, uv⟩ = _) := HX.out.trans ((if_neg (by simp [hk1, hv1])).trans (by simp only [uB, hz]; rfl))
        clear HX
        go_enter Tryz.func112, Tryz.ntmps112
        go_wp2_with (first | (go_at_call 72; refine (isKey_any _ _).mono ?_; rintro e w' ⟨rfl, rfl⟩) | (go_at_call 73; refine (isValue_any _ _).mono ?_; rintro e w' ⟨rfl, rfl⟩))
        go_ret
        exact ⟨ret_int HE.out.symm, below_new _ _⟩
    · have HE : Hid (uF u = 3) := by rw [HX.out, if_pos (.inr hv1)]; rfl
      clear HX
      go_enter Tryz.func112, Tryz.ntmps112
      go_wp2_with (first | (go_at_call 72; refine (isKey_any _ _).mono ?_; rintro e w' ⟨rfl, rfl⟩) | (go_at_call 73; refine (isValue_any _ _).mono ?_; rintro e w' ⟨rfl, rfl⟩))
      go_ret
      exact ⟨ret_int HE.out.symm, below_new _ _⟩
  · have HE : Hid (uF u = 3) := by rw [HX.out, if_pos (.inl hk1)]; rfl
    clear HX
    go_enter Tryz.func112, Tryz.ntmps112
    go_wp2_with (first | (go_at_call 72; refine (isKey_any _ _).mono ?_; rintro e w' ⟨rfl, rfl⟩) | (go_at_call 73; refine (isValue_any _ _).mono ?_; rintro e w' ⟨rfl, rfl⟩))
    go_ret
    exact ⟨ret_int HE.out.symm, below_new _ _⟩
set_option maxHeartbeats 2000000 in
theorem txnInBounds_any (nx ck : Int) (a a' ai : Option Addr) (p q cap cap' ci : Nat) (t : Tx) (w : World) (hN : 1 ≤ nx ∧ nx ≤ 999) :
    Calls Tryz.prog 110 #[.agg #[.int .i64 nx, .int .i64 ck, .slice a p cap, .slice a' q cap'], .agg #[.int .i64 t.id, .int .i64 t.am, .int .i64 t.st, .int .i64 t.dn, .slice ai t.n ci]] w fun e w' => e = .returned (.bool (tIn nx ck t)) ∧ Below w.heap.size w w' := by
  have hwn : IntKind.i64.wrap (nx - 1) = nx - 1 := by rw [IntKind.wrap_i64]; omega
  have hb0 : ∀ o1 o2, Below w.heap.size w ((w.alloc o1).alloc o2) := fun o1 o2 => (((Below.refl _ _).alloc (Nat.le_refl _) _).alloc (by simp) _)
  have HI : Hid (∀ x1 x2 x3 x4 : Bool, inB t.id 1 (nx - 1) = x1 → inB t.am 0 ck = x2 → inB t.st 1 3 = x3 → inB t.dn 0 ck = x4 → tIn nx ck t = (x1 && x2 && x3 && x4)) := fun _ _ _ _ h1 h2 h3 h4 => by rw [tIn, h1, h2, h3, h4]
  obtain h1 | h1 := bool_or2 (inB t.id 1 (nx - 1)) <;> obtain h2 | h2 := bool_or2 (inB t.am 0 ck) <;> obtain h3 | h3 := bool_or2 (inB t.st 1 3) <;> obtain h4 | h4 := bool_or2 (inB t.dn 0 ck)
  all_goals
    have HE : Hid (tIn nx ck t = _) := HI.out _ _ _ _ h1 h2 h3 h4
    clear HI
    go_enter Tryz.func110, Tryz.ntmps110
    go_wp2_with (first | (go_at_call 38; refine (within_any _ _ _ _).mono ?_; rintro e w' ⟨rfl, rfl⟩))
    go_ret
    exact ⟨ret_bool (by rw [HE.out]; rfl), hb0 _ _⟩
set_option maxHeartbeats 2000000 in
theorem txnHasForm_any (ai : Option Addr) (ci : Nat) (t : Tx) (w : World) :
    Calls Tryz.prog 111 #[.agg #[.int .i64 t.id, .int .i64 t.am, .int .i64 t.st, .int .i64 t.dn, .slice ai t.n ci]] w fun e w' => e = .returned (.bool (!(tB2 t || tB3 t))) ∧ Below w.heap.size w w' := by
  have HI : Hid (∀ x1 x2 x3 x4 x5 : Bool, (t.dn != 0) = x1 → (t.st != 2) = x2 → decide (t.dn ≤ t.am) = x3 → decide (0 < t.n) = x4 → (t.st != 1) = x5 → (!(tB2 t || tB3 t)) = !((x1 && (x2 || x3)) || (x4 && x5))) := fun _ _ _ _ _ h1 h2 h3 h4 h5 => by rw [tB2, tB3, h1, h2, h3, h4, h5]
  obtain ⟨tid, tam, tst, tdn, n, U⟩ := t
  dsimp only at *
  have h3 : ∃ b, decide (0 < n) = !b ∧ ((n : Int) == 0) = b := by
    rcases Nat.eq_zero_or_pos n with rfl | hp
    · exact ⟨true, by simp, by simp⟩
    · exact ⟨false, by simp; omega, by simp; omega⟩
  obtain ⟨bn, hn1, hn2⟩ := h3
  have hs : (tst == 1) = !(tst != 1) := by simp [bne]
  obtain hd1 | hd1 := bool_or2 (tdn != 0) <;> obtain hs2 | hs2 := bool_or2 (tst != 2) <;> obtain hl2 | hl2 := bool_or2 (decide (tdn ≤ tam)) <;> obtain hs1 | hs1 := bool_or2 (tst != 1) <;> cases bn
  all_goals
    rw [hs1] at hs
    have HE : Hid ((!(tB2 ⟨tid, tam, tst, tdn, n, U⟩ || tB3 ⟨tid, tam, tst, tdn, n, U⟩)) = _) := HI.out _ _ _ _ _ hd1 hs2 hl2 hn1 hs1
    clear HI hn1
    go_enter Tryz.func111, Tryz.ntmps111
    go_wp2_with fail
    go_ret
    exact ⟨ret_bool (by rw [HE.out]; rfl), below_new _ _⟩
end Go.Proofs.YtabkgncnanlapaaGreat
