/- impl.CommitChain. -/
import Derived.Test.YtblhnhmcdbfhiaaVo
import Derived.Deep.DeepCutAuto
namespace Go.Proofs.Ytblhnhmcdbfhiaa
open Go.RowKit Go.Deep
set_option linter.unusedVariables false
set_option maxRecDepth 20000

theorem co_older {n : Nat} {R : Nat → Vr} {y : Int} (hc : chF n R = 0) (hy : inB y 1 1000000 = true) (h1 : 1 < n) : older (R 1) ⟨(R 0).t, y, (R 0).g, (R 0).v⟩ = !coG n R y := by
  have hv := ((chF_good hc).2 1 h1).2
  have ha : (R 1).a ≠ 0 := by
    intro e
    simp [vF, older, e] at hv
  rw [inB_iff] at hy
  by_cases h : y ≤ (R 1).a
  · have h2 : ¬ (R 1).a < y := by omega
    have hy0 : ¬ y = 0 := by omega
    simp [older, coG, ha, h1, h, h2, hy0]
  · have h2 : (R 1).a < y := by omega
    simp [older, coG, ha, h1, h, h2]
/-- What is joined: the first version, committed, and the rest. -/
theorem co_join (R : Nat → Vr) (y : Int) (n : Nat) (hp : 0 < n) : (vL (fun _ => (⟨(R 0).t, y, (R 0).g, (R 0).v⟩ : Vr)) 1 ++ vL (fun i => R (i + 1)) (n - 1)).length = n ∧ ∀ i, i < n → (vL (fun _ => (⟨(R 0).t, y, (R 0).g, (R 0).v⟩ : Vr)) 1 ++ vL (fun i => R (i + 1)) (n - 1)).getD i zV = coS R y i := by
  refine ⟨by rw [List.length_append, vL_len, vL_len]; omega, fun i hi => ?_⟩
  rw [List.getD_eq_getElem?_getD]
  by_cases e : i = 0
  · subst e
    rw [List.getElem?_append_left (by rw [vL_len]; omega), vL_get (by omega)]
    rfl
  · rw [List.getElem?_append_right (by rw [vL_len]; omega), vL_len, vL_get (by omega)]
    show R (i - 1 + 1) = coS R y i
    rw [show i - 1 + 1 = i by omega]
    exact (if_neg e).symm
theorem row4_one {w : World} {b : Nat} {r : Vr} (h : C4 w b 0 r) (hf : ∀ i, w.frozen? ⟨b, i, none⟩ = false) : Row4 w b 0 1 (fun _ => r) := ⟨fun i hi => by
  obtain rfl : i = 0 := by omega
  exact h, hf⟩
theorem co_joined (R : Nat → Vr) (y : Int) (n : Nat) (hp : 0 < n) (hn : n ≤ 12) (W : World) (ra : Option Addr) (rc : Nat) (hv : VersAt W ra (n - 1) (fun i => R (i + 1))) :
    Calls Try.prog 63 #[.slice (some ⟨W.heap.size + 1, 0, none⟩) 2 2] ((W.alloc (.cells #[.int .i64 (R 0).t, .int .i64 y, .bool (R 0).g, .int .i64 (R 0).v] 89)).alloc (.cells #[.slice (some ⟨W.heap.size, 0, none⟩) 1 1, .slice ra (n - 1) rc] 26))
      (fun e w' => ∃ ra' rc', e = .returned (.slice ra' n rc') ∧ Below W.heap.size W w' ∧ Own4 w' (W.heap.size + 2) w'.heap.size ra' n (coS R y)) := by
  have hbn : ∀ o1 o2, Below W.heap.size W ((W.alloc o1).alloc o2) := fun o1 o2 => (below_new W o1).alloc (by simp) _
  have hj := joined_any 2 (fun i => if i = 0 then some ⟨W.heap.size, 0, none⟩ else ra) (fun i => if i = 0 then 1 else n - 1) (fun i => if i = 0 then 1 else rc) (fun i j => if i = 0 then ⟨(R 0).t, y, (R 0).g, (R 0).v⟩ else R (j + 1)) (W.heap.size + 1) 0 2
    ((W.alloc (.cells #[.int .i64 (R 0).t, .int .i64 y, .bool (R 0).g, .int .i64 (R 0).v] 89)).alloc (.cells #[.slice (some ⟨W.heap.size, 0, none⟩) 1 1, .slice ra (n - 1) rc] 26))
    (fun i hi => by show (if i = 0 then 1 else n - 1) ≤ 100; split <;> omega) (by simp) (fun i hi => by
      have h2 : i = 0 ∨ i = 1 := by omega
      rcases h2 with rfl | rfl
      · exact ⟨by simp [go_sem], .inr ⟨W.heap.size, 0, rfl, by simp; omega, fun i hi => by
          obtain rfl : i = 0 := by simp at hi; omega
          simp [C4, go_sem]⟩⟩
      · exact ⟨by simp [go_sem], hv.below (hbn _ _)⟩) (by omega)
  have e : jv (fun i => if i = 0 then 1 else n - 1) (fun i j => if i = 0 then ⟨(R 0).t, y, (R 0).g, (R 0).v⟩ else R (j + 1)) 2 = vL (fun _ => (⟨(R 0).t, y, (R 0).g, (R 0).v⟩ : Vr)) 1 ++ vL (fun i => R (i + 1)) (n - 1) := by simp [jv]
  rw [e, (co_join R y n hp).1] at hj
  refine hj.mono ?_
  rintro e w' ⟨ra', rc', rfl, hb, ho⟩
  have es : ((W.alloc (.cells #[.int .i64 (R 0).t, .int .i64 y, .bool (R 0).g, .int .i64 (R 0).v] 89)).alloc (.cells #[.slice (some ⟨W.heap.size, 0, none⟩) 1 1, .slice ra (n - 1) rc] 26)).heap.size = W.heap.size + 2 := by simp
  rw [es] at ho
  exact ⟨ra', rc', rfl, below_then (hbn _ _) hb, ho.congr (co_join R y n hp).2⟩
end Go.Proofs.Ytblhnhmcdbfhiaa
