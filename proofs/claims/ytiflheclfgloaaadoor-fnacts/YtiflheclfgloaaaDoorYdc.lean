/- Acts and their lines, there and back: as functions. -/
import Derived.Test.YtiflheclfgloaaaDoorYtf
import Derived.Test.YtiflheclfgloaaaDoorYdb
namespace Go.Proofs.YtiflheclfgloaaaDoor
open Go.RowKit Go.Deep
set_option linter.unusedVariables false
set_option maxRecDepth 20000

def c3 (k : Nat) (j : Nat) (x : Int) : Int := if j < fc k then x else 0
theorem nA_bd {L : List ByteArray} (h : okA L = true) (j : Nat) : 0 ≤ nA L (j + 1) ∧ nA L (j + 1) ≤ 999999999 := by
  simp only [nA]
  split
  · simp only [okA, Bool.and_eq_true] at h
    have hb := nums_at h.2 (j := j + 1) (by omega) (by omega)
    have hv : numV (sg L (j + 1)) = dv (sg L (j + 1)) (sg L (j + 1)).size := by simp only [numV, hb, if_true]
    simp only [numB, Bool.and_eq_true, decide_eq_true_eq] at hb
    have := dv_small hb.2 hb.1
    rw [hv]
    omega
  · omega
theorem fok_all {x y z : Int} (hx : 0 ≤ x ∧ x ≤ 999999999) (hy : 0 ≤ y ∧ y ≤ 999999999) (hz : 0 ≤ z ∧ z ≤ 999999999) : ∀ m, fok x y z m = true
  | 0 => rfl
  | m + 1 => by
    have hb : 0 ≤ nm x y z m ∧ nm x y z m ≤ 999999999 := by
      unfold nm
      split
      · exact hx
      · split
        · exact hy
        · exact hz
    simp only [fok, fok_all hx hy hz m, Bool.true_and, inB, Bool.and_eq_true, decide_eq_true_eq]
    exact hb
/-- An act that was read fits, and its line tells it again. -/
theorem act_round {L : List ByteArray} (h : okA L = true) : ffit (kindP L) (nA L 1) (nA L 2) (nA L 3) = true ∧ actOf (wds (ftext (kindP L) (nA L 1) (nA L 2) (nA L 3))) = #[.int .i64 0, .int .i64 (kindP L), .int .i64 (nA L 1), .int .i64 (nA L 2), .int .i64 (nA L 3)] := by
  have hk : kindP L ≠ 0 := by simp only [okA, Bool.and_eq_true, decide_eq_true_eq] at h; exact h.1
  obtain ⟨hl, -, h1⟩ := kindP_len hk
  have h7 := kindP_le L
  have hf : ffit (kindP L) (nA L 1) (nA L 2) (nA L 3) = true := by
    simp only [ffit, inB, Bool.and_eq_true, decide_eq_true_eq]
    exact ⟨⟨by omega, by omega⟩, fok_all (nA_bd h 0) (nA_bd h 1) (nA_bd h 2) _⟩
  refine ⟨hf, ?_⟩
  rw [read_back hf]
  have e : ∀ j, (if j < fc (kindP L) then nA L (j + 1) else 0) = nA L (j + 1) := fun j => by
    by_cases hj : j < fc (kindP L)
    · rw [if_pos hj]
    · rw [if_neg hj]
      simp only [nA]
      rw [if_neg (by omega)]
  rw [e 0, e 1, e 2]
theorem fok_congr {x y z x' y' z' : Int} : ∀ m, (∀ j, j < m → nm x y z j = nm x' y' z' j) → fok x y z m = fok x' y' z' m
  | 0, _ => rfl
  | m + 1, h => by simp only [fok]; rw [fok_congr m fun j hj => h j (by omega), h m (by omega)]
/-- A line tells just the numbers that its kind writes. -/
theorem text_cut {m : Nat} {x y z : Int} (hf : ffit m x y z = true) : fcode m (c3 m 0 x) (c3 m 1 y) (c3 m 2 z) = 0 ∧ ftext m (c3 m 0 x) (c3 m 1 y) (c3 m 2 z) = ftext m x y z := by
  have hf2 := hf
  simp only [ffit, inB, Bool.and_eq_true, decide_eq_true_eq] at hf2
  obtain ⟨⟨h1, h7⟩, hok⟩ := hf2
  have hkn : (m : Int).toNat = m := by omega
  rw [hkn] at hok
  have h3 := fc_le m (by omega)
  have e : ∀ j, j < fc m → nm x y z j = nm (c3 m 0 x) (c3 m 1 y) (c3 m 2 z) j := fun j hj => by
    match j, hj with
    | 0, hj => simp [nm, c3, hj]
    | 1, hj => simp [nm, c3, hj]
    | 2, hj => simp [nm, c3, hj]
    | n + 3, hj => omega
  have hf3 : ffit m (c3 m 0 x) (c3 m 1 y) (c3 m 2 z) = true := by
    simp only [ffit, inB, Bool.and_eq_true, decide_eq_true_eq]
    refine ⟨⟨h1, h7⟩, ?_⟩
    rw [hkn, ← fok_congr _ e]
    exact hok
  refine ⟨(ff_yes hf3).1, ?_⟩
  rw [(ff_yes hf3).2, (ff_yes hf).2, hkn]
  have e2 : fws m x y z (fc m) = fws m (c3 m 0 x) (c3 m 1 y) (c3 m 2 z) (fc m) := by
    simp only [fws, List.cons.injEq, true_and]
    refine List.map_congr_left fun j hj => ?_
    rw [e j (List.mem_range.1 hj)]
  rw [e2]
theorem text_pos {m : Nat} {x y z : Int} (hf : ffit m x y z = true) : 0 < (ftext m x y z).size := by
  have hf2 := hf
  simp only [ffit, inB, Bool.and_eq_true, decide_eq_true_eq] at hf2
  rw [(ff_yes hf).2]
  have e : (txt (fws (m : Int).toNat x y z (fc (m : Int).toNat))) = ⟨((fw (m : Int).toNat).data.toList ++ Lib.joinTail blk.data.toList (((List.range (fc (m : Int).toNat)).map fun j => dg (nm x y z j).toNat).map fun q : ByteArray => q.data.toList)).toArray⟩ := by
    simp only [txt, fws, List.map_cons, Lib.join_cons]
  rw [e, size_mk, List.length_append]
  have h := (fw_noB (m : Int).toNat (by omega) (by omega)).1
  have h2 : (fw (m : Int).toNat).data.toList.length = (fw (m : Int).toNat).size := by simp
  omega
theorem read_c3 {m : Nat} {x y z : Int} (hf : ffit m x y z = true) : actOf (wds (ftext m x y z)) = #[.int .i64 0, .int .i64 m, .int .i64 (c3 m 0 x), .int .i64 (c3 m 1 y), .int .i64 (c3 m 2 z)] := read_back hf
end Go.Proofs.YtiflheclfgloaaaDoor
