/- FnExactPlaceDisk: the walk of the law. -/
import Derived.Test.YtmopoblladnjbaaSpl
import Derived.Test.YtmopoblladnjbaaDn
namespace Go.Proofs.Ytmopoblladnjbaa
open Go.RowKit Go.Deep
set_option linter.unusedVariables false
set_option maxRecDepth 20000

theorem ownB_new {w w0 : World} {n : Nat} {z : Nat → Int} {o : Obj} (h : w.rowIs (w0.alloc o).heap.size 5 n (fun i => .int .u8 (z i))) : OwnB w (w0.heap.size + 1) w.heap.size (some ⟨w0.heap.size + 1, 0, none⟩) n z := by
  rw [World.size_alloc] at h
  have r := Row1.of_row h
  exact ⟨Nat.le_refl _, .inr ⟨_, 0, rfl, Nat.le_refl _, h.lt, r.1, r.2⟩⟩
theorem small_E0 : Small E0 := ⟨by simp [E0], by simp [E0], fun i hi => by simp [E0] at hi, fun i hi => by simp [E0] at hi, by simp [E0, sumL], by simp [E0, sumL]⟩
theorem sumL_const (x : Nat) : ∀ n, sumL (fun _ => x) n = n * x
  | 0 => by simp [sumL]
  | n + 1 => by simp only [sumL, sumL_const x n]; rw [Nat.succ_mul]
theorem small_pl {D : Dk} (h : GoodD D) (idn : Int) (z : Nat → Int) : Small (plD D idn z) := by
  have h1 := h.n8
  have h2 := h.m
  refine ⟨by simp [plD]; omega, by simp [plD]; omega, fun i _ => by simp [plD], fun i _ => by simp [plD], ?_, ?_⟩
  · simp only [plD, sumL_const]; omega
  · simp only [plD, sumL_const]; omega
theorem plC_zero {D : Dk} {idn : Int} {k : Nat} (h : plC D idn k = 0) : df D = 0 := by
  unfold plC at h
  by_cases e : df D = 0
  · exact e
  · rw [if_neg e] at h; exact absurd h e
end Go.Proofs.Ytmopoblladnjbaa
