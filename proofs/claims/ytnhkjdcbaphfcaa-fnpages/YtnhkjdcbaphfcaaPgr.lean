/- A page is read back from its bytes: as numbers. -/
import Derived.Test.YtnhkjdcbaphfcaaUpr
import Derived.Test.YtnhkjdcbaphfcaaCgd
namespace Go.Proofs.Ytnhkjdcbaphfcaa
open Go.RowKit Go.Deep
set_option linter.unusedVariables false
set_option linter.unusedSimpArgs false
set_option maxRecDepth 20000

theorem getD_left (A B : List Int) (j : Nat) (h : j < A.length) : (A ++ B).getD j 0 = A.getD j 0 := by
  rw [List.getD_eq_getElem?_getD, List.getD_eq_getElem?_getD, List.getElem?_append_left h]
theorem getD_right (A B : List Int) (j : Nat) (h : A.length ≤ j) : (A ++ B).getD j 0 = B.getD (j - A.length) 0 := by
  rw [List.getD_eq_getElem?_getD, List.getD_eq_getElem?_getD, List.getElem?_append_right h]
theorem cb_get (K V : Nat → Int) : ∀ (n i : Nat), i < n → (cb K V n).getD (3 * i) 0 = byt (K i) 0 ∧ (cb K V n).getD (3 * i + 1) 0 = byt (V i) 1 ∧ (cb K V n).getD (3 * i + 2) 0 = byt (V i) 0
  | 0, i, h => by omega
  | n + 1, i, h => by
    have hl := cb_len K V n
    simp only [cb, List.append_assoc]
    by_cases e : i = n
    · subst e
      rw [getD_right (cb K V i) _ (3 * i) (by omega), getD_right (cb K V i) _ (3 * i + 1) (by omega), getD_right (cb K V i) _ (3 * i + 2) (by omega), hl]
      rw [show 3 * i - 3 * i = 0 by omega, show 3 * i + 1 - 3 * i = 1 by omega, show 3 * i + 2 - 3 * i = 2 by omega]
      simp [nb]
    · have ih := cb_get K V n i (by omega)
      rw [getD_left (cb K V n) _ (3 * i) (by omega), getD_left (cb K V n) _ (3 * i + 1) (by omega), getD_left (cb K V n) _ (3 * i + 2) (by omega)]
      exact ih
theorem cb_congr {K V K' V' : Nat → Int} : ∀ {n : Nat}, (∀ i, i < n → K i = K' i ∧ V i = V' i) → cb K V n = cb K' V' n
  | 0, _ => rfl
  | n + 1, h => by simp only [cb]; rw [cb_congr (n := n) fun i hi => h i (by omega), (h n (by omega)).1, (h n (by omega)).2]
theorem pgb_congr {id ls : Int} {n : Nat} {K V K' V' : Nat → Int} (h : ∀ i, i < n → K i = K' i ∧ V i = V' i) : pgb id ls n K V = pgb id ls n K' V' := by
  have e := cb_congr h
  simp only [pgb, fld, bdy, e]
theorem cff_congr {n : Nat} {K V K' V' : Nat → Int} (h : ∀ i, i < n → K i = K' i ∧ V i = V' i) : ∀ m i, i + m = n → cff K V m i = cff K' V' m i
  | 0, i, _ => rfl
  | m + 1, i, e => by
    simp only [cff]
    rw [cff_congr h m (i + 1) (by omega), (h i (by omega)).1, (h i (by omega)).2]
    by_cases q : 0 < i
    · rw [(h (i - 1) (by omega)).1]
    · simp [q]
theorem pf_congr {id ls : Int} {n : Nat} {K V K' V' : Nat → Int} (h : ∀ i, i < n → K i = K' i ∧ V i = V' i) : pf id ls n K V = pf id ls n K' V' := by
  simp only [pf]
  rw [cff_congr h n 0 (by omega)]
theorem fld_46 {id ls : Int} {n : Nat} {K V : Nat → Int} (h : n ≤ 12) : (fld id ls n K V).length = 46 := by
  simp only [fld, bdy, List.length_append, List.length_replicate, hd_len, cb_len]; omega
theorem zOf_fld {id ls : Int} {n : Nat} {K V : Nat → Int} (h : n ≤ 12) (i : Nat) (hi : i < 46) : zOf (pgb id ls n K V) i = (fld id ls n K V).getD i 0 := by
  unfold zOf pgb
  exact getD_left _ _ _ (by rw [fld_46 h]; exact hi)
theorem zOf_hd {id ls : Int} {n : Nat} {K V : Nat → Int} (h : n ≤ 12) (i : Nat) (hi : i < 6) : zOf (pgb id ls n K V) i = (hd id ls n).getD i 0 := by
  rw [zOf_fld h i (by omega)]
  unfold fld bdy
  rw [getD_left _ _ _ (by rw [List.length_append, hd_len]; omega), getD_left _ _ _ (by rw [hd_len]; exact hi)]
theorem zOf_cb {id ls : Int} {n : Nat} {K V : Nat → Int} (h : n ≤ 12) (i : Nat) (hi : i < 3 * n) : zOf (pgb id ls n K V) (6 + i) = (cb K V n).getD i 0 := by
  rw [zOf_fld h (6 + i) (by omega)]
  unfold fld bdy
  rw [getD_left _ _ _ (by rw [List.length_append, hd_len, cb_len]; omega), getD_right _ _ _ (by rw [hd_len]; omega), hd_len]
  congr 1
  omega
theorem zOf_sum {id ls : Int} {n : Nat} {K V : Nat → Int} (h : n ≤ 12) : zOf (pgb id ls n K V) 46 = byt (sm (fld id ls n K V)) 1 ∧ zOf (pgb id ls n K V) 47 = byt (sm (fld id ls n K V)) 0 := by
  unfold zOf pgb
  rw [getD_right _ _ _ (by rw [fld_46 h]; omega), getD_right _ _ _ (by rw [fld_46 h]; omega), fld_46 h]
  simp [nb]
theorem zL_zOf (zs : List Int) : zL (zOf zs) zs.length = zs := by
  apply List.ext_getElem
  · simp [zL]
  · intro i h1 h2
    simp [zL, zOf, h2]
/-- What is packed is read back. -/
theorem read_back {id ls : Int} {n : Nat} {K V : Nat → Int} (h0 : pf id ls n K V = 0) :
    upc (zOf (pgb id ls n K V)) 48 = 0 ∧ num (zOf (pgb id ls n K V)) 0 1 = id ∧ num (zOf (pgb id ls n K V)) 1 4 = ls ∧ rpN (zOf (pgb id ls n K V)) = n ∧ ∀ i, i < n → rpK (zOf (pgb id ls n K V)) i = K i ∧ rpV (zOf (pgb id ls n K V)) i = V i := by
  have g := good_of h0
  have hn := g.gn
  have g1 := inB_iff.1 g.gid
  have g2 := inB_iff.1 g.glsn
  have e1 : num (zOf (pgb id ls n K V)) 0 1 = id := by
    simp only [num, Nat.zero_add]
    rw [zOf_hd hn 0 (by omega)]
    simp [hd, nb, byt]
    omega
  have e2 : num (zOf (pgb id ls n K V)) 1 4 = ls := by
    simp only [num]
    rw [zOf_hd hn (1 + 0) (by omega), zOf_hd hn (1 + 1) (by omega), zOf_hd hn (1 + 2) (by omega), zOf_hd hn (1 + 3) (by omega)]
    simp [hd, nb, byt]
    omega
  have e5 : zOf (pgb id ls n K V) 5 = (n : Int) := by
    rw [zOf_hd hn 5 (by omega)]
    simp [hd, nb, byt]
    omega
  have e3 : rpN (zOf (pgb id ls n K V)) = n := by
    unfold rpN
    rw [e5, if_pos (by omega)]
    omega
  have e4 : ∀ i, i < n → rpK (zOf (pgb id ls n K V)) i = K i ∧ rpV (zOf (pgb id ls n K V)) i = V i := fun i hi => by
    have c := cb_get K V n i hi
    have k := g.gkey i hi
    have v := g.gval i hi
    constructor
    · simp only [rpK, num, Nat.add_zero]
      rw [zOf_cb hn (3 * i) (by omega), c.1]
      simp [byt]
      omega
    · simp only [rpV, num, Nat.add_zero]
      rw [show 7 + 3 * i = 6 + (3 * i + 1) by omega, show 6 + (3 * i + 1) + 1 = 6 + (3 * i + 2) by omega, zOf_cb hn (3 * i + 1) (by omega), zOf_cb hn (3 * i + 2) (by omega), c.2.1, c.2.2]
      simp [byt]
      omega
  refine ⟨?_, e1, e2, e3, e4⟩
  have hs : num (zOf (pgb id ls n K V)) 46 2 = sumB (zOf (pgb id ls n K V)) 46 := by
    have q := zOf_sum (id := id) (ls := ls) (K := K) (V := V) hn
    have b := sumB_bd (fun i => (fld id ls n K V).getD i 0) 46
    have hm : sm (fld id ls n K V) = sumB (fun i => (fld id ls n K V).getD i 0) 46 := by unfold sm; rw [fld_46 hn]
    simp only [num, Nat.add_zero]
    rw [q.1, q.2, sumB_congr (y := fun i => (fld id ls n K V).getD i 0) fun i hi => zOf_fld hn i hi, ← hm]
    rw [← hm] at b
    simp [byt]
    omega
  have ha : againF (zOf (pgb id ls n K V)) = 0 := by
    unfold againF
    rw [e1, e2, e3, pf_congr e4]
    exact h0
  have hb : again (zOf (pgb id ls n K V)) = zL (zOf (pgb id ls n K V)) 48 := by
    unfold again
    rw [e1, e2, e3, pgb_congr e4]
    have := zL_zOf (pgb id ls n K V)
    rw [pgb_48 hn] at this
    exact this.symm
  unfold upc
  rw [if_neg (by simp), if_neg (by simp [hs]), if_pos ⟨ha, hb⟩]
theorem upc_zero {z : Nat → Int} {n : Nat} (h : upc z n = 0) : n = 48 ∧ againF z = 0 ∧ again z = zL z 48 := by
  unfold upc at h
  by_cases h1 : n ≠ 48
  · rw [if_pos h1] at h; omega
  · rw [if_neg h1] at h
    by_cases h2 : num z 46 2 ≠ sumB z 46
    · rw [if_pos h2] at h; omega
    · rw [if_neg h2] at h
      by_cases h3 : againF z = 0 ∧ again z = zL z 48
      · exact ⟨by omega, h3⟩
      · rw [if_neg h3] at h; omega
end Go.Proofs.Ytnhkjdcbaphfcaa
