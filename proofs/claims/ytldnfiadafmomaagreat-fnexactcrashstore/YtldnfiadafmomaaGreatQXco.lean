/- Small disks; a list of numbers as an argument. -/
import Derived.Test.YtldnfiadafmomaaGreatQBase
import Derived.Test.YtldnfiadafmomaaGreatQSy
namespace Go.Proofs.YtldnfiadafmomaaGreat
open Go.ChangeShapes Go.WideShapes Go.ChangeAt Go.RowKit Go.Deep Go.Joins
set_option linter.unusedVariables false
set_option maxRecDepth 20000

theorem small_E0 : Small E0 := ⟨by simp [E0], by simp [E0], fun i hi => by simp [E0] at hi, fun i hi => by simp [E0] at hi, by simp [E0, sumL], by simp [E0, sumL]⟩
theorem sumL_const (x : Nat) : ∀ n, sumL (fun _ => x) n = n * x
  | 0 => by simp [sumL]
  | n + 1 => by simp only [sumL, sumL_const x n]; rw [Nat.succ_mul]
theorem small_sy {D : Dk} (h : GoodD D) (F : Nat → Int) (k : Nat) : Small (syD D F k) := by
  have h1 := h.n8
  refine ⟨by simp [syD]; omega, by simp [syD], fun i _ => by simp [syD], fun i _ => by simp [syD], ?_, ?_⟩
  · simp only [syD, sumL_const]; omega
  · simp [syD, sumL]
theorem openInts {H : Type} {enc : TypeId × Value → H} {W : World} {fuel : Nat} {cs : List Value} {x : DataW H × List MemPlace}
    (h : DataW.trod enc Tryz.prog W 0 (fun _ => true) true fuel 31 cs = some x) :
    ∃ (a : Option Addr) (n cap : Nat) (z : Nat → Int), cs = [.slice a n cap] ∧ n ≤ 9223372036854775807 ∧ IntsAt W a n z := by
  obtain ⟨a, n, cap, z, e0, -, e1, e2⟩ := openIntS h
  exact ⟨a, n, cap, z, e0, e1, e2⟩
end Go.Proofs.YtldnfiadafmomaaGreat
