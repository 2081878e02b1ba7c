/- Rows of records: marked, held; answers that are records. -/
import Derived.Test.YtjggplfhkejbbaaQRe
namespace Go.Proofs.Ytjggplfhkejbbaa
open Go.RowKit Go.Deep
set_option linter.unusedVariables false
set_option maxRecDepth 20000

/-! ### held -/
/-! ### answers that are records -/
/-! ### the records that bytes tell -/
def zR (z : Nat → Int) : Rc := ⟨num z 0 1, num z 1 2, num z 3 1, hdB z, num z 5 2, hsB z, num z 7 2, num z 9 2⟩
theorem rvs_len (z : Nat → Int) : ∀ k, (rvs z k).length = 8 * k
  | 0 => rfl
  | k + 1 => by simp only [rvs, List.length_append, rvs_len z k]; simp [rvl]; omega
theorem rvs_get (z : Nat → Int) : ∀ k i j, i < k → j < 8 → (rvs z k)[8 * i + j]? = (rvl (sh z (13 * i)))[j]?
  | 0, i, j, h, _ => by omega
  | k + 1, i, j, h, hj => by
    simp only [rvs]
    by_cases e : i = k
    · subst e
      rw [List.getElem?_append_right (by rw [rvs_len]; omega), rvs_len]
      congr 1; omega
    · rw [List.getElem?_append_left (by rw [rvs_len]; omega)]
      exact rvs_get z k i j (by omega) hj
theorem own8_of_row {w : World} {base n : Nat} {a : Option Addr} {cap : Nat} {z : Nat → Int} (h : w.ownsRow base 148 8 (.slice a n cap) n (rvs z n)) : Own8 w base w.heap.size a n (fun i => zR (sh z (13 * i))) := by
  rcases h.2 with ⟨e, h0⟩ | ⟨g, cap', cur, e, hbg, hg, _⟩
  · exact ⟨Nat.le_refl _, .inl h0⟩
  · simp only [Value.slice.injEq, true_and] at e
    obtain ⟨rfl, rfl⟩ := e
    have hlt : g < w.heap.size := by
      obtain ⟨hlt, _⟩ := Array.getElem?_eq_some_iff.1 hg
      exact hlt
    refine ⟨Nat.le_refl _, .inr ⟨g, 0, rfl, hbg, hlt, fun i hi => ?_, fun i => h.frozenAt _⟩⟩
    have c : ∀ j v, j < 8 → (rvl (sh z (13 * i)))[j]? = some v → w.cell? ⟨g, 0 + i * 8 + j, none⟩ = some v := fun j v hj hv => by
      rw [h.cellAt (0 + i * 8 + j) (by omega), show 0 + i * 8 + j = 8 * i + j by omega, rvs_get z n i j hi hj, hv]
    exact ⟨c 0 _ (by omega) rfl, c 1 _ (by omega) rfl, c 2 _ (by omega) rfl, c 3 _ (by omega) rfl, c 4 _ (by omega) rfl, c 5 _ (by omega) rfl, c 6 _ (by omega) rfl, c 7 _ (by omega) rfl⟩
end Go.Proofs.Ytjggplfhkejbbaa
