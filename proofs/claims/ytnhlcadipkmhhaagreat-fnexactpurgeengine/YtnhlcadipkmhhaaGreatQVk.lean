/- Views: what is asked of a chain and a view; both MayWrites. -/
import Derived.Test.YtnhlcadipkmhhaaGreatQVh
namespace Go.Proofs.YtnhlcadipkmhhaaGreat
open Go.RowKit Go.Deep
set_option linter.unusedVariables false
set_option maxRecDepth 20000

def vwB (x o : Int) : Bool := inB x 0 1000000 && inB o 0 999
def avC (n : Nat) (R : Nat → Vr) (x o : Int) : Int := if chF n R = 0 then (if vwB x o = true then 0 else 3) else chF n R
theorem chainViewFault_any (n : Nat) (R : Nat → Vr) (a : Option Addr) (cap : Nat) (x o : Int) (w : World) (hn : n ≤ 9223372036854775807) (h : VersAt w a n R) :
    Calls Tryz.prog 126 #[.slice a n cap, .agg #[.int .i64 x, .int .i64 o]] w fun e w' => e = .returned (.int .i64 (avC n R x o)) ∧ Below w.heap.size w w' := by
  have HA : Hid (VersAt w a n R) := h
  have HV : Hid (avC n R x o = if chF n R = 0 then (if vwB x o = true then 0 else 3) else chF n R) := rfl
  clear h
  generalize avC n R x o = C at *
  go_enter Tryz.func126, Tryz.ntmps126
  go_wp2_with fail
  refine (implChF_any n R a cap _ hn (HA.out.below (below_new _ _))).mono ?_
  rintro e w1 ⟨rfl, hb1⟩
  obtain ⟨q0, q1⟩ := (Box2.new w (.int .i64 x) (.int .i64 o) 59).below hb1
  have HB1 : Hid (Below w.heap.size w w1) := below_then (below_new _ _) hb1
  clear hb1
  by_cases hc : chF n R = 0
  · rw [hc]
    by_cases h1 : inB x 0 1000000 = true
    · by_cases h2 : inB o 0 999 = true
      · have hC : C = 0 := by rw [HV.out, if_pos hc, if_pos (by simp [vwB, h1, h2])]
        subst hC
        go_wp2_with fail
        refine (isAt_any _ _).mono ?_
        rintro e w2 ⟨rfl, rfl⟩
        rw [h1]
        go_wp2_with fail
        refine (within_any _ _ _ _).mono ?_
        rintro e w2 ⟨rfl, rfl⟩
        rw [h2]
        go_wp2_with fail
        go_ret
        exact ⟨rfl, HB1.out⟩
      · have h3 : inB o 0 999 = false := by simpa using h2
        have hC : C = 3 := by rw [HV.out, if_pos hc, if_neg (by simp [vwB, h3])]
        subst hC
        go_wp2_with fail
        refine (isAt_any _ _).mono ?_
        rintro e w2 ⟨rfl, rfl⟩
        rw [h1]
        go_wp2_with fail
        refine (within_any _ _ _ _).mono ?_
        rintro e w2 ⟨rfl, rfl⟩
        rw [h3]
        go_wp2_with fail
        go_ret
        exact ⟨rfl, HB1.out⟩
    · have h3 : inB x 0 1000000 = false := by simpa using h1
      have hC : C = 3 := by rw [HV.out, if_pos hc, if_neg (by simp [vwB, h3])]
      subst hC
      go_wp2_with fail
      refine (isAt_any _ _).mono ?_
      rintro e w2 ⟨rfl, rfl⟩
      rw [h3]
      go_wp2_with fail
      go_ret
      exact ⟨rfl, HB1.out⟩
  · have hC : C = chF n R := by rw [HV.out, if_neg hc]
    rw [← hC]
    rw [← hC] at hc
    clear HV hC
    have hc1 : (C != 0) = true := by simp [hc]
    go_wp2_with fail
    go_ret
    exact ⟨rfl, HB1.out⟩
end Go.Proofs.YtnhlcadipkmhhaaGreat
