/- FnTails: how many records stand in bytes, and in the first of them. -/
import Derived.Test.YtapggckfacmklaaQLy
namespace Go.Proofs.Ytapggckfacmklaa
open Go.RowKit Go.Deep
set_option linter.unusedVariables false
set_option maxRecDepth 20000

theorem rcn_spec (z : Nat → Int) (n : Nat) : ∀ f k, n ≤ f + k → (∀ j, j < k → 13 * (j + 1) ≤ n ∧ okR (sh z (13 * j)) = true) → (∀ j, j < rcn z n f k → 13 * (j + 1) ≤ n ∧ okR (sh z (13 * j)) = true) ∧ ¬ (13 * (rcn z n f k + 1) ≤ n ∧ okR (sh z (13 * rcn z n f k)) = true)
  | 0, k, hf, h => by
    simp only [rcn]
    exact ⟨h, fun e => by omega⟩
  | f + 1, k, hf, h => by
    unfold rcn
    split
    · rename_i hh
      refine rcn_spec z n f (k + 1) (by omega) fun j hj => ?_
      by_cases e : j = k
      · subst e; exact hh
      · exact h j (by omega)
    · rename_i hh
      exact ⟨h, hh⟩
theorem cnt_spec (z : Nat → Int) (n : Nat) : (∀ j, j < cnt z n → 13 * (j + 1) ≤ n ∧ okR (sh z (13 * j)) = true) ∧ ¬ (13 * (cnt z n + 1) ≤ n ∧ okR (sh z (13 * cnt z n)) = true) :=
  rcn_spec z n n 0 (by omega) fun j hj => by omega
theorem num_eq {z y : Nat → Int} {i : Nat} : ∀ {m : Nat}, (∀ j, j < m → z (i + j) = y (i + j)) → num z i m = num y i m
  | 0, _ => rfl
  | m + 1, h => by simp only [num]; rw [num_eq (m := m) fun j hj => h j (by omega), h m (by omega)]
theorem okR_congr {z y : Nat → Int} (h : ∀ i, i < 13 → z i = y i) : okR z = okR y := by
  have n0 : num z 0 1 = num y 0 1 := num_eq fun j hj => h _ (by omega)
  have n1 : num z 1 2 = num y 1 2 := num_eq fun j hj => h _ (by omega)
  have n3 : num z 3 1 = num y 3 1 := num_eq fun j hj => h _ (by omega)
  have n5 : num z 5 2 = num y 5 2 := num_eq fun j hj => h _ (by omega)
  have n7 : num z 7 2 = num y 7 2 := num_eq fun j hj => h _ (by omega)
  have n9 : num z 9 2 = num y 9 2 := num_eq fun j hj => h _ (by omega)
  have h4 := h 4 (by omega)
  have e1 : hdB z = hdB y := by simp only [hdB, h4]
  have e2 : hsB z = hsB y := by simp only [hsB, h4]
  have e3 : zL z 13 = zL y 13 := by
    unfold zL
    exact List.map_congr_left fun i hi => h i (List.mem_range.1 hi)
  unfold okR rzF rzB
  rw [n0, n1, n3, n5, n7, n9, e1, e2, e3]
theorem zR_congr {z y : Nat → Int} (h : ∀ i, i < 13 → z i = y i) : zR z = zR y := by
  have n0 : num z 0 1 = num y 0 1 := num_eq fun j hj => h _ (by omega)
  have n1 : num z 1 2 = num y 1 2 := num_eq fun j hj => h _ (by omega)
  have n3 : num z 3 1 = num y 3 1 := num_eq fun j hj => h _ (by omega)
  have n5 : num z 5 2 = num y 5 2 := num_eq fun j hj => h _ (by omega)
  have n7 : num z 7 2 = num y 7 2 := num_eq fun j hj => h _ (by omega)
  have n9 : num z 9 2 = num y 9 2 := num_eq fun j hj => h _ (by omega)
  have h4 := h 4 (by omega)
  have e1 : hdB z = hdB y := by simp only [hdB, h4]
  have e2 : hsB z = hsB y := by simp only [hsB, h4]
  unfold zR
  rw [n0, n1, n3, n5, n7, n9, e1, e2]
/-- Of more bytes there are not fewer records. -/
theorem cnt_mono {z y : Nat → Int} {n m : Nat} (hm : n ≤ m) (h : ∀ i, i < n → z i = y i) : cnt z n ≤ cnt y m := by
  by_cases q : cnt z n ≤ cnt y m
  · exact q
  · exfalso
    have a := (cnt_spec z n).1 (cnt y m) (by omega)
    refine (cnt_spec y m).2 ⟨by omega, ?_⟩
    rw [← a.2]
    exact okR_congr fun i hi => (h _ (by omega)).symm
theorem cnt_same {z y : Nat → Int} {n : Nat} (h : ∀ i, i < n → z i = y i) : cnt z n = cnt y n :=
  Nat.le_antisymm (cnt_mono (Nat.le_refl _) h) (cnt_mono (Nat.le_refl _) fun i hi => (h i hi).symm)
/-- What is counted is counted again in just those bytes. -/
theorem cnt_again (z : Nat → Int) (n : Nat) : cnt z (13 * cnt z n) = cnt z n := by
  have hle := cnt_le z n
  have h1 := cnt_le z (13 * cnt z n)
  rcases Nat.lt_or_ge (cnt z (13 * cnt z n)) (cnt z n) with q | q
  · exfalso
    have a := (cnt_spec z n).1 _ q
    exact (cnt_spec z (13 * cnt z n)).2 ⟨by omega, a.2⟩
  · omega
theorem zRs_congr {z y : Nat → Int} {n i : Nat} (h : ∀ i, i < n → z i = y i) (hi : 13 * (i + 1) ≤ n) : zRs z i = zRs y i := by
  unfold zRs
  exact zR_congr fun j hj => h _ (by omega)
theorem aZ_at (L : Lo) (i : Nat) (hi : i < L.n1 + L.n2) : aZ L i = if i < L.n1 then L.z1 i else L.z2 (i - L.n1) := by
  unfold aZ zOf aL
  by_cases h : i < L.n1
  · rw [if_pos h, List.getD_eq_getElem?_getD, List.getElem?_append_left (by rw [zL_len]; exact h)]
    simp [zL, h]
  · rw [if_neg h, List.getD_eq_getElem?_getD, List.getElem?_append_right (by rw [zL_len]; omega), zL_len]
    have : i - L.n1 < L.n2 := by omega
    simp [zL, this]
theorem aZ_cut {L : Lo} {k i : Nat} (hk : k ≤ L.n2) (hi : i < L.n1 + k) : aZ (cutL L k) i = aZ L i := by
  rw [aZ_at (cutL L k) i hi, aZ_at L i (by omega)]
  rfl
theorem aZ_none {n : Nat} {z y : Nat → Int} {i : Nat} (hi : i < n) : aZ ⟨n, z, 0, y⟩ i = z i := by
  rw [aZ_at ⟨n, z, 0, y⟩ i (by show i < n + 0; omega)]
  exact if_pos hi
/-- What FnTails asks, as numbers. -/
theorem tail_facts {L : Lo} {k : Nat} (hg : lgC L = 0) (hk : k ≤ L.n2) :
    lgC ⟨13 * clM L k, aZ (cutL L k), 0, fun _ => 0⟩ = 0 ∧ cnt (aZ ⟨13 * clM L k, aZ (cutL L k), 0, fun _ => 0⟩) (13 * clM L k + 0) = clM L k ∧ cnt L.z1 L.n1 ≤ clM L k ∧ clM L k ≤ cnt (aZ L) (L.n1 + L.n2) ∧
    (∀ i, i < clM L k → zRs (aZ ⟨13 * clM L k, aZ (cutL L k), 0, fun _ => 0⟩) i = zRs (aZ L) i) ∧ (k < L.n2 ∨ clM L k = cnt (aZ L) (L.n1 + L.n2)) := by
  obtain ⟨g1, g2⟩ := lgC_zero hg
  have hle := clM_le L k
  have hc : cnt (aZ ⟨13 * clM L k, aZ (cutL L k), 0, fun _ => 0⟩) (13 * clM L k + 0) = clM L k := by
    rw [Nat.add_zero, cnt_same (y := aZ (cutL L k)) fun i hi => aZ_none hi]
    exact cnt_again (aZ (cutL L k)) (L.n1 + k)
  refine ⟨?_, hc, ?_, ?_, fun i hi => ?_, ?_⟩
  · unfold lgC
    rw [if_neg (by show ¬ 4000 < 13 * clM L k + 0; omega)]
    show (if 13 * cnt (aZ ⟨13 * clM L k, aZ (cutL L k), 0, fun _ => 0⟩) (13 * clM L k + 0) = 13 * clM L k + 0 then (0 : Int) else 5) = 0
    rw [hc, if_pos (by omega)]
  · refine cnt_mono (by omega) fun i hi => ?_
    rw [aZ_at (cutL L k) i (by show i < L.n1 + k; omega)]
    exact (if_pos hi).symm
  · exact cnt_mono (by omega) fun i hi => aZ_cut hk hi
  · refine zRs_congr (n := 13 * clM L k) (fun j hj => ?_) (by omega)
    rw [aZ_none hj]
    exact aZ_cut hk (by omega)
  · by_cases e : k < L.n2
    · exact .inl e
    · right
      have : k = L.n2 := by omega
      subst this
      exact cnt_same fun i hi => aZ_cut (Nat.le_refl _) hi
end Go.Proofs.Ytapggckfacmklaa
