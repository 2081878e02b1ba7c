/- NewPage: the walks. -/
import Derived.Test.YtjggplfhkejbbaaQCel
namespace Go.Proofs.Ytjggplfhkejbbaa
open Go.RowKit Go.Deep

def newCode (a : Int) : Int := if 0 ≤ a ∧ a ≤ 7 then 0 else 3
def newId (a : Int) : Int := if 0 ≤ a ∧ a ≤ 7 then a else 0
theorem implNew_any (a0 : Int) (w : World) : Calls Try.prog 41 #[.int .i64 a0] w fun e w' =>
    e = .returned (.agg #[.int .i64 (newCode a0), .int .i64 (newId a0), .int .i64 0, .slice none 0 0]) ∧ Below w.heap.size w w' := by
  by_cases h : 0 ≤ a0 ∧ a0 ≤ 7
  · rw [newCode, newId, if_pos h, if_pos h]
    obtain ⟨h1, h2⟩ := h
    go_enter Try.func41, Try.ntmps41
    go_wp2
    exact bodyPost_ret (v := .agg #[.int .i64 0, .int .i64 a0, .int .i64 0, .slice none 0 0]) (by simp [results, Try.results41, go_sem]) rfl ⟨rfl, below_new _ _⟩
  · rw [newCode, newId, if_neg h, if_neg h]
    by_cases h1 : a0 < 0
    · clear h
      go_enter Try.func41, Try.ntmps41
      go_wp2
      exact bodyPost_ret (v := .agg #[.int .i64 3, .int .i64 0, .int .i64 0, .slice none 0 0]) (by simp [results, Try.results41, go_sem]) rfl ⟨rfl, below_new _ _⟩
    · have h2 : 7 < a0 := by omega
      have h3 : 0 ≤ a0 := by omega
      have h4 : decide (a0 ≤ 7) = false := by simp; omega
      clear h h1
      go_enter Try.func41, Try.ntmps41
      go_wp2
      exact bodyPost_ret (v := .agg #[.int .i64 3, .int .i64 0, .int .i64 0, .slice none 0 0]) (by simp [results, Try.results41, go_sem]) rfl ⟨rfl, below_new _ _⟩
end Go.Proofs.Ytjggplfhkejbbaa
