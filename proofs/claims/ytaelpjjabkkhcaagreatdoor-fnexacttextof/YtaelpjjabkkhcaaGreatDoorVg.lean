/- Chapter 5: the first version of a chain; both WriterOfs. -/
import Derived.Test.YtaelpjjabkkhcaaGreatDoorVf
namespace Go.Proofs.YtaelpjjabkkhcaaGreatDoor
open Go.RowKit Go.Deep
set_option linter.unusedVariables false
set_option maxRecDepth 20000

theorem VersAt.first {w : World} {a : Option Addr} {n : Nat} {R : Nat → Vr} (h : VersAt w a n R) (hp : 0 < n) : ∃ b off, a = some ⟨b, off, none⟩ ∧ b < w.heap.size ∧ C4 w b off (R 0) := by
  rcases h with h | ⟨b, off, ha, hl, hc⟩
  · omega
  · have := hc 0 hp
    rw [Nat.zero_mul, Nat.add_zero] at this
    exact ⟨b, off, ha, hl, this⟩
theorem chf_good {R : Nat → Vr} : ∀ {m i : Nat}, chf R m i = 0 → ∀ j, i ≤ j → j < i + m → vR (R j) = true ∧ vF R j = false
  | 0, i, _, j, h1, h2 => by omega
  | m + 1, i, h, j, h1, h2 => by
    rw [chf] at h
    split at h
    · omega
    · rename_i hr
      split at h
      · omega
      · rename_i hf
        by_cases e : j = i
        · subst e
          exact ⟨by simpa using hr, by simpa using hf⟩
        · exact chf_good h j (by omega) (by omega)
theorem chF_good {n : Nat} {R : Nat → Vr} (h : chF n R = 0) : n ≤ 12 ∧ ∀ j, j < n → vR (R j) = true ∧ vF R j = false := by
  unfold chF at h
  split at h
  · omega
  · exact ⟨by omega, fun j hj => chf_good h j (by omega) (by omega)⟩
/-- Who wrote what is not committed; 0: nobody. -/
def wrt (n : Nat) (R : Nat → Vr) : Int := if 0 < n ∧ (R 0).a = 0 then (R 0).t else 0
def fop (n : Nat) (R : Nat → Vr) : Bool := decide (0 < n) && (R 0).a == 0
theorem firstIsOpen_any (n : Nat) (R : Nat → Vr) (a : Option Addr) (cap : Nat) (w : World) (h : VersAt w a n R) :
    Calls Tryz.prog 76 #[.slice a n cap] w fun e w' => e = .returned (.bool (fop n R)) ∧ Below w.heap.size w w' := by
  rcases Nat.eq_zero_or_pos n with rfl | hp
  · go_enter Tryz.func76, Tryz.ntmps76
    go_wp2_with fail
    go_ret
    exact ⟨rfl, Below.refl _ _⟩
  · obtain ⟨b, off, rfl, hl, x0, x1, x2, x3⟩ := h.first hp
    have hp' : (0 : Int) < (n : Int) := by omega
    have HV : Hid (fop n R = ((R 0).a == 0)) := by
      show fop n R = ((R 0).a == 0)
      simp [fop, hp]
    clear h
    generalize hr : R 0 = r at *
    clear hr
    by_cases hz : r.a = 0
    · have hz1 : (r.a != 0) = false := by simp [hz]
      have HV2 : Hid (fop n R = true) := HV.out.trans (by simp [hz])
      clear HV hz
      go_enter Tryz.func76, Tryz.ntmps76
      go_wp2_with fail
      refine (isCommitted_any _ _ _ _ _).mono ?_
      rintro e w1 ⟨rfl, hb1⟩
      rw [hz1]
      go_wp2_with fail
      go_ret
      exact ⟨ret_bool HV2.out.symm, hb1⟩
    · have hz1 : (r.a != 0) = true := by simp [hz]
      have HV2 : Hid (fop n R = false) := HV.out.trans (by simp [hz])
      clear HV hz
      go_enter Tryz.func76, Tryz.ntmps76
      go_wp2_with fail
      refine (isCommitted_any _ _ _ _ _).mono ?_
      rintro e w1 ⟨rfl, hb1⟩
      rw [hz1]
      go_wp2_with fail
      go_ret
      exact ⟨ret_bool HV2.out.symm, hb1⟩
def fob (n : Nat) (R : Nat → Vr) (x : Int) : Bool := decide (0 < n) && ((R 0).t == x && (R 0).a == 0)
theorem firstIsOpenBy_any (n : Nat) (R : Nat → Vr) (a : Option Addr) (cap : Nat) (x : Int) (w : World) (h : VersAt w a n R) :
    Calls Tryz.prog 58 #[.slice a n cap, .int .i64 x] w fun e w' => e = .returned (.bool (fob n R x)) ∧ Below w.heap.size w w' := by
  rcases Nat.eq_zero_or_pos n with rfl | hp
  · go_enter Tryz.func58, Tryz.ntmps58
    go_wp2_with fail
    go_ret
    exact ⟨rfl, Below.refl _ _⟩
  · obtain ⟨b, off, rfl, hl, x0, x1, x2, x3⟩ := h.first hp
    have hp' : (0 : Int) < (n : Int) := by omega
    have HV : Hid (fob n R x = ((R 0).t == x && (R 0).a == 0)) := by
      show fob n R x = ((R 0).t == x && (R 0).a == 0)
      simp [fob, hp]
    clear h
    generalize hr : R 0 = r at *
    clear hr
    go_enter Tryz.func58, Tryz.ntmps58
    go_wp2_with fail
    refine (openBy_any _ _ _ _ _ _).mono ?_
    rintro e w1 ⟨rfl, hb1⟩
    rw [← HV.out]
    go_wp2_with fail
    go_ret
    exact ⟨rfl, hb1⟩
theorem l5Writer_any (n : Nat) (R : Nat → Vr) (a : Option Addr) (cap : Nat) (w : World) (h : VersAt w a n R) :
    Calls Tryz.prog 48 #[.slice a n cap] w fun e w' => e = .returned (.int .i64 (wrt n R)) ∧ w' = w := by
  rcases Nat.eq_zero_or_pos n with rfl | hp
  · go_enter Tryz.func48, Tryz.ntmps48
    go_wp2_with fail
    go_ret
    exact ⟨rfl, rfl⟩
  · obtain ⟨b, off, rfl, hl, x0, x1, x2, x3⟩ := h.first hp
    have hp' : (0 : Int) < (n : Int) := by omega
    by_cases hz : (R 0).a = 0
    · have HV : Hid (wrt n R = (R 0).t) := if_pos ⟨hp, hz⟩
      rw [hz] at x1
      clear h
      generalize hr : (R 0).t = t at *
      generalize hr2 : (R 0).g = g at *
      generalize hr3 : (R 0).v = v at *
      clear hr hz hr2 hr3
      go_enter Tryz.func48, Tryz.ntmps48
      go_wp2_with fail
      go_ret
      exact ⟨ret_int HV.out.symm, rfl⟩
    · have HV : Hid (wrt n R = 0) := if_neg (fun h => hz h.2)
      have hz1 : ((R 0).a == 0) = false := by simp [hz]
      clear h
      generalize hr : R 0 = r at *
      clear hr
      go_enter Tryz.func48, Tryz.ntmps48
      go_wp2_with fail
      go_ret
      exact ⟨ret_int HV.out.symm, rfl⟩
end Go.Proofs.YtaelpjjabkkhcaaGreatDoor
