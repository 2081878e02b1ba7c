/- Both UnpackRecs. -/
import Derived.Test.YtjggplfhkejbbaaQUv
import Derived.Test.YtjggplfhkejbbaaQRg
namespace Go.Proofs.Ytjggplfhkejbbaa
open Go.RowKit Go.Deep
set_option linter.unusedVariables false
set_option maxRecDepth 20000

def urC (n : Nat) : Int := if n ≤ 4000 then 0 else 2
def urN (z : Nat → Int) (n : Nat) : Nat := if n ≤ 4000 then cnt z n else 0
/-- The records that stand in bytes, as fields. -/
def zRs (z : Nat → Int) (i : Nat) : Rc := zR (sh z (13 * i))
/-- An answer that is records. -/
def R8 (c u : Int) (m : Nat) (R : Nat → Rc) (w : World) (e : Ending) (w' : World) : Prop :=
  ∃ a cap, e = .returned (.agg #[.int .i64 c, .int .i64 u, .slice a m cap]) ∧ Below w.heap.size w w' ∧ Own8 w' w.heap.size w'.heap.size a m R
theorem R8.of {c u : Int} {m : Nat} {z : Nat → Int} {w w' : World} {e : Ending} (h : RcR c u m z w e w') : R8 c u m (zRs z) w e w' := by
  obtain ⟨a, cap, rfl, hb, ho⟩ := h
  exact ⟨a, cap, rfl, hb, (own8_of_row ho).wide (by omega) (Nat.le_refl _) (Nat.le_refl _)⟩
theorem rcn_le (z : Nat → Int) (n : Nat) : ∀ f k, 13 * k ≤ n → 13 * rcn z n f k ≤ n
  | 0, k, h => h
  | f + 1, k, h => by
    unfold rcn
    split
    · rename_i hh; exact rcn_le z n f (k + 1) hh.1
    · exact h
theorem cnt_le (z : Nat → Int) (n : Nat) : 13 * cnt z n ≤ n := rcn_le z n n 0 (by omega)
theorem implUr_big (n : Nat) (z : Nat → Int) (a : Option Addr) (cap : Nat) (w : World) (hn : ¬ n ≤ 4000) : Calls Try.prog 96 #[.slice a n cap] w (RcR 2 0 0 z w) := by
  have hn4 : 4000 < (n : Int) := by omega
  go_enter Try.func96, Try.ntmps96
  go_wp2_with fail
  refine bodyPost_ret (v := .agg #[.int .i64 2, .int .i64 0, .slice none 0 0]) (by simp [results, Try.results96, go_sem]) rfl ⟨none, 0, rfl, below_new _ _, World.ownsRow_nil _ _ _ _⟩
theorem implUr_all (n : Nat) (z : Nat → Int) (a : Option Addr) (b off cap : Nat) (w : World) (hcap : n ≤ cap) (hz : Byt n z) (ha : n = 0 ∨ a = some ⟨b, off, none⟩ ∧ b < w.heap.size ∧ BA w b off n z) :
    Calls Try.prog 96 #[.slice a n cap] w (RcR (urC n) (13 * (urN z n : Int)) (urN z n) z w) := by
  unfold urC urN
  by_cases h : n ≤ 4000
  · rw [if_pos h, if_pos h]; exact implUr_any n z a b off cap w hcap h hz ha
  · rw [if_neg h, if_neg h]; exact implUr_big n z a cap w h
end Go.Proofs.Ytjggplfhkejbbaa
