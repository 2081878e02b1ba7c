/- The fault of an engine, by the model: undos, transactions. -/
import Derived.Test.YtjdodbiphijjgaaGreatQVg
import Derived.Deep.RegionLaw
namespace Go.Proofs.YtjdodbiphijjgaaGreat
open Go.RowKit Go.Deep
set_option linter.unusedVariables false
set_option maxRecDepth 20000

theorem bool_or (b : Bool) : b = true ∨ b = false := by cases b <;> simp
set_option maxHeartbeats 4000000 in
theorem l6Undos_any (n : Nat) (U : Nat → Ud) (b o : Nat) (ai : Option Addr) (ci : Nat) (w : World) (hn : n ≤ 1048576) (hc : w.cell? ⟨b, o + 4, none⟩ = some (.slice ai n ci)) (h : UndsAt w ai n U) :
    Calls Tryz.prog 187 #[.pointer (some ⟨b, o, none⟩)] w fun e w' => e = .returned (.int .i64 (usF n U)) ∧ Below w.heap.size w w' := by
  by_cases h60 : 60 < n
  · have HE : Hid (usF n U = 2) := if_pos h60
    have h6 : (60 : Int) < (n : Int) := by omega
    clear h
    go_enter Tryz.func187, Tryz.ntmps187
    go_wp2_with fail
    go_ret
    exact ⟨ret_int HE.out.symm, Below.refl _ _⟩
  have HA : Hid (UndsAt w ai n U) := h
  have HC0 : Hid (w.cell? ⟨b, o + 4, none⟩ = some (.slice ai n ci)) := hc
  have HU : Hid (usF n U = ffz (fun j => uF (U j)) n 0) := if_neg h60
  have h6 : ¬ ((60 : Int) < (n : Int)) := by omega
  clear h
  go_enter Tryz.func187, Tryz.ntmps187
  go_wp2_with fail
  clear hc
  go_loopw [3, 4] (fun i _ wr => ∃ k : Nat, k ≤ n ∧ i = .int .i64 k ∧ Hid (usF n U = ffz (fun j => uF (U j)) (n - k) k) ∧ Hid (Below w.heap.size w wr)) (fun i _ _ => n - (intOf i).toNat)
  case atStart => exact ⟨0, Nat.zero_le _, rfl, HU, Below.refl _ _⟩
  case round =>
    obtain ⟨k, hk, rfl, HC, HB⟩ := hrel
    have hc1 := cell_below HC0.out HB.out
    by_cases hlt : k < n
    · have hlt' : (k : Int) < (n : Int) := by omega
      have hk0 : (0 : Int) ≤ (k : Int) := by omega
      rcases HA.out.below HB.out with h | ⟨bb, off, rfl, hl, hcc⟩
      · omega
      obtain ⟨x0, x1, x2, x3⟩ := hcc k hlt
      have HE0 : Hid (usF n U = _) := HC.out.trans (ffz_at _ hlt)
      have HBN : Hid (∀ o : Obj, Below w.heap.size w (wr.alloc o)) := fun o => below_then HB.out (below_new _ _)
      clear hcc HC
      have HX : Hid (uF (U k) = if inB (U k).k 0 31 = false ∨ inB (U k).v 0 9999 = false then 3 else if uB (U k) = true then 1 else 0) := rfl
      obtain hk1 | hk1 := bool_or (inB (U k).k 0 31)
      · obtain hv1 | hv1 := bool_or (inB (U k).v 0 9999)
        · have HX2 : Hid (uF (U k) = if uB (U k) = true then 1 else 0) := by rw [HX.out, if_neg (by simp [hk1, hv1])]; rfl
          clear HX
          obtain hb1 | hb1 := bool_or (uB (U k))
          · have HE : Hid (usF n U = 1) := by
              have e : uF (U k) = 1 := by rw [HX2.out, if_pos hb1]
              exact (HE0.out.trans (if_neg (by show uF (U k) ≠ 0; rw [e]; decide))).trans e
            clear HE0 HX2
            unfold uB at hb1
            generalize U k = u at *
            obtain ⟨uk, uh, ug, uv⟩ := u
            dsimp only at *
            obtain hz | hz := bool_or (uv != 0) <;> cases uh <;> cases ug <;> try (simp [hz] at hb1)
            all_goals
              go_wp2_with (first | (go_at_call 61; refine (l1Key_any _ _).mono ?_; rintro e w' ⟨rfl, rfl⟩) | (go_at_call 62; refine (l1Value_any _ _).mono ?_; rintro e w' ⟨rfl, rfl⟩))
              go_ret
              exact ⟨ret_int HE.out.symm, HBN.out _⟩
          · have HE : Hid (usF n U = ffz (fun j => uF (U j)) (n - (k + 1)) (k + 1)) := by
              have e : uF (U k) = 0 := by rw [HX2.out, if_neg (by simp [hb1])]
              exact HE0.out.trans (if_pos e)
            clear HE0 HX2
            unfold uB at hb1
            generalize U k = u at *
            obtain ⟨uk, uh, ug, uv⟩ := u
            dsimp only at *
            obtain hz | hz := bool_or (uv != 0) <;> cases uh <;> cases ug <;> try (simp [hz] at hb1)
            all_goals
              go_wp2_with (first | (go_at_call 61; refine (l1Key_any _ _).mono ?_; rintro e w' ⟨rfl, rfl⟩) | (go_at_call 62; refine (l1Value_any _ _).mono ?_; rintro e w' ⟨rfl, rfl⟩))
              go_roundw
              case rel => exact ⟨k + 1, hlt, by go_num, HE, HBN.out _⟩
              case measure => simp [intOf]; omega
        · have HE : Hid (usF n U = 3) := by
            have e : uF (U k) = 3 := by rw [HX.out, if_pos (.inr hv1)]
            exact (HE0.out.trans (if_neg (by show uF (U k) ≠ 0; rw [e]; decide))).trans e
          clear HE0 HX
          generalize U k = u at *
          go_wp2_with (first | (go_at_call 61; refine (l1Key_any _ _).mono ?_; rintro e w' ⟨rfl, rfl⟩) | (go_at_call 62; refine (l1Value_any _ _).mono ?_; rintro e w' ⟨rfl, rfl⟩))
          go_ret
          exact ⟨ret_int HE.out.symm, HBN.out _⟩
      · have HE : Hid (usF n U = 3) := by
          have e : uF (U k) = 3 := by rw [HX.out, if_pos (.inl hk1)]
          exact (HE0.out.trans (if_neg (by show uF (U k) ≠ 0; rw [e]; decide))).trans e
        clear HE0 HX
        generalize U k = u at *
        go_wp2_with (first | (go_at_call 61; refine (l1Key_any _ _).mono ?_; rintro e w' ⟨rfl, rfl⟩) | (go_at_call 62; refine (l1Value_any _ _).mono ?_; rintro e w' ⟨rfl, rfl⟩))
        go_ret
        exact ⟨ret_int HE.out.symm, HBN.out _⟩
    · have HE : Hid (usF n U = 0) := by
        have h := HC.out
        rw [show n - k = 0 by omega] at h
        exact h
      clear HC
      have hnl : ¬ ((k : Int) < (n : Int)) := by omega
      go_wp2_with fail
      go_ret
      exact ⟨ret_int HE.out.symm, HB.out⟩
end Go.Proofs.YtjdodbiphijjgaaGreat
