/- Early picks: the lists, and the program. -/
import Derived.Test.YtcfenhnggccmmaaAea
import Derived.Test.YtcfenhnggccmmaaAeb
import Derived.Test.YtcfenhnggccmmaaWae
namespace Go.Proofs.Ytcfenhnggccmmaa
open Go.ChangeShapes Go.WideShapes Go.ChangeAt Go.RowKit Go.Deep Go.Joins
set_option linter.unusedVariables false
set_option maxRecDepth 20000

/-- Of the first k picks the own ones, and those of others. -/
def wL (P : Nat → Int) (v : Int) : Nat → List Int
  | 0 => []
  | k + 1 => if P k = v then wL P v k ++ [P k] else wL P v k
def oL (P : Nat → Int) (v : Int) : Nat → List Int
  | 0 => []
  | k + 1 => if P k = v then oL P v k else oL P v k ++ [P k]
theorem wL_len (P : Nat → Int) (v : Int) : ∀ k, (wL P v k).length ≤ k
  | 0 => Nat.le_refl _
  | k + 1 => by
    have := wL_len P v k
    simp only [wL]
    split
    · simp; omega
    · omega
theorem oL_len (P : Nat → Int) (v : Int) : ∀ k, (oL P v k).length ≤ k
  | 0 => Nat.le_refl _
  | k + 1 => by
    have := oL_len P v k
    simp only [oL]
    split
    · omega
    · simp; omega
/-- Where the first own one stands, if there is one. -/
theorem ix9_gen (f : Nat → Bool) : ∀ m i, (ix9 f m i = -1 ∧ ∀ j, i ≤ j → j < i + m → f j = false) ∨ ∃ j, i ≤ j ∧ j < i + m ∧ ix9 f m i = j ∧ f j = true ∧ ∀ q, i ≤ q → q < j → f q = false
  | 0, i => .inl ⟨rfl, fun j h1 h2 => by omega⟩
  | m + 1, i => by
    by_cases h : f i = true
    · rw [ix9, if_pos h]
      exact .inr ⟨i, Nat.le_refl _, by omega, rfl, h, fun q h1 h2 => by omega⟩
    · rw [ix9, if_neg h]
      have hf : f i = false := by simpa using h
      rcases ix9_gen f m (i + 1) with ⟨h1, h2⟩ | ⟨j, h1, h2, h3, h4, h5⟩
      · refine .inl ⟨h1, fun j k1 k2 => ?_⟩
        by_cases e : j = i
        · rw [e]; exact hf
        · exact h2 j (by omega) (by omega)
      · refine .inr ⟨j, by omega, by omega, h3, h4, fun q k1 k2 => ?_⟩
        by_cases e : q = i
        · rw [e]; exact hf
        · exact h5 q (by omega) k2
def fstN (P : Nat → Int) (v : Int) (m : Nat) : Nat := (ix9 (fun j => P j == v) m 0).toNat
theorem wL_none {P : Nat → Int} {v : Int} : ∀ {k}, (∀ j, j < k → P j ≠ v) → wL P v k = []
  | 0, _ => rfl
  | k + 1, h => by rw [wL, if_neg (h k (by omega)), wL_none fun j hj => h j (by omega)]
theorem oL_none {P : Nat → Int} {v : Int} : ∀ {k}, (∀ j, j < k → P j ≠ v) → (oL P v k).length = k
  | 0, _ => rfl
  | k + 1, h => by rw [oL, if_neg (h k (by omega)), List.length_append, oL_none fun j hj => h j (by omega)]; rfl
theorem oL_mono {P : Nat → Int} {v : Int} (f : Nat) : ∀ k, f ≤ k → ∃ t, oL P v k = oL P v f ++ t
  | 0, h => by obtain rfl : f = 0 := by omega
               exact ⟨[], by simp⟩
  | k + 1, h => by
    by_cases e : f = k + 1
    · subst e; exact ⟨[], by simp⟩
    · obtain ⟨t, ht⟩ := oL_mono f k (by omega)
      by_cases hp : P k = v
      · exact ⟨t, by rw [oL, if_pos hp, ht]⟩
      · exact ⟨t ++ [P k], by rw [oL, if_neg hp, ht, List.append_assoc]⟩
theorem fst_le (P : Nat → Int) (v : Int) (m : Nat) : fstN P v m ≤ (oL P v m).length := by
  unfold fstN
  rcases ix9_gen (fun j => P j == v) m 0 with ⟨h1, h2⟩ | ⟨j, h1, h2, h3, h4, h5⟩
  · rw [h1]; exact Nat.zero_le _
  · rw [h3]
    obtain ⟨t, ht⟩ := oL_mono (P := P) (v := v) j m (by omega)
    rw [ht, List.length_append, oL_none fun q hq => by have := h5 q (Nat.zero_le _) hq; simpa using this]
    simp
def pcE (P : Nat → Int) (v : Int) (m : Nat) : Nat → List Int
  | 0 => (oL P v m).take (fstN P v m)
  | 1 => wL P v m
  | _ => (oL P v m).drop (fstN P v m)
/-- The early picks. -/
def eaL (P : Nat → Int) (v : Int) (m : Nat) : List Int := catL (pcE P v m) 3
theorem ints_take {w : World} {a : Option Addr} {zs : List Int} {f : Nat} (h : IntsAt w a zs.length (zI zs)) (hf : f ≤ zs.length) : IntsAt w a (zs.take f).length (zI (zs.take f)) := by
  rcases h with h | ⟨b, off, ha, hl, hc⟩
  · exact .inl (by rw [List.length_take]; omega)
  · refine .inr ⟨b, off, ha, hl, fun i hi => ?_⟩
    rw [List.length_take] at hi
    rw [hc i (by omega)]
    simp only [zI, List.getD_eq_getElem?_getD, List.getElem?_take]
    rw [if_pos (by omega)]
theorem ints_drop {w : World} {b off : Nat} {zs : List Int} {f : Nat} (h : IntsAt w (some ⟨b, off, none⟩) zs.length (zI zs)) (hf : f ≤ zs.length) : IntsAt w (some ⟨b, off + f, none⟩) (zs.drop f).length (zI (zs.drop f)) := by
  rcases h with h | ⟨b', off', ha, hl, hc⟩
  · exact .inl (by rw [List.length_drop]; omega)
  · cases ha
    refine .inr ⟨b, off + f, rfl, hl, fun i hi => ?_⟩
    rw [List.length_drop] at hi
    rw [show off + f + i = off + (f + i) by omega, hc (f + i) (by omega)]
    simp only [zI, List.getD_eq_getElem?_getD, List.getElem?_drop]
end Go.Proofs.Ytcfenhnggccmmaa
