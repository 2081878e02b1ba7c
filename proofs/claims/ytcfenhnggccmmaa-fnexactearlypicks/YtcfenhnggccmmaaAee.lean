/- Early picks by the model: the list under way. -/
import Derived.Test.YtcfenhnggccmmaaAed
namespace Go.Proofs.Ytcfenhnggccmmaa
open Go.ChangeShapes Go.WideShapes Go.ChangeAt Go.RowKit Go.Deep Go.Joins
set_option linter.unusedVariables false
set_option linter.unusedSimpArgs false
set_option maxRecDepth 20000

theorem wL_rep (P : Nat → Int) (v : Int) : ∀ k, wL P v k = List.replicate (wL P v k).length v
  | 0 => rfl
  | k + 1 => by
    by_cases h : P k = v
    · rw [wL, if_pos h, List.length_append, show [P k].length = 1 from rfl, List.replicate_succ', ← wL_rep P v k, h]
    · rw [wL, if_neg h]; exact wL_rep P v k
theorem wL_zero {P : Nat → Int} {v : Int} : ∀ {k}, (wL P v k).length = 0 → ∀ j, j < k → P j ≠ v
  | 0, _, j, hj => by omega
  | k + 1, h, j, hj => by
    by_cases e : P k = v
    · rw [wL, if_pos e, List.length_append] at h; simp at h
    · rw [wL, if_neg e] at h
      by_cases ej : j = k
      · rw [ej]; exact e
      · exact wL_zero h j (by omega)
theorem wL_some {P : Nat → Int} {v : Int} {k j : Nat} (hj : j < k) (h : P j = v) : (wL P v k).length ≠ 0 := fun e => wL_zero e j hj h
/-- The list behind k picks. -/
def eK (P : Nat → Int) (v : Int) (m k : Nat) : List Int := if (wL P v k).length = 0 then oL P v k else (oL P v k).take (fstN P v m) ++ (wL P v m ++ (oL P v k).drop (fstN P v m))
def cK (P : Nat → Int) (v : Int) (m k : Nat) : Nat := if (wL P v k).length = 0 then (wL P v m).length else 0
theorem fst_of {P : Nat → Int} {v : Int} {m k : Nat} (hk : k < m) (h0 : (wL P v k).length = 0) (h : P k = v) : fstN P v m = k := by
  unfold fstN
  rcases ix9_gen (fun j => P j == v) m 0 with ⟨h1, h2⟩ | ⟨j, h1, h2, h3, h4, h5⟩
  · have := h2 k (Nat.zero_le _) (by omega); simp [h] at this
  · rw [h3]
    have hj : P j = v := by simpa using h4
    by_cases e : j < k
    · exact absurd hj (wL_zero h0 j e)
    · by_cases e2 : k < j
      · have := h5 k (Nat.zero_le _) e2; simp [h] at this
      · omega
theorem fst_in {P : Nat → Int} {v : Int} {m k : Nat} (hk : k ≤ m) (h0 : (wL P v k).length ≠ 0) : fstN P v m ≤ (oL P v k).length := by
  unfold fstN
  rcases ix9_gen (fun j => P j == v) m 0 with ⟨h1, h2⟩ | ⟨j, h1, h2, h3, h4, h5⟩
  · rw [h1]; exact Nat.zero_le _
  · rw [h3]
    have hj : j ≤ k := by
      by_cases e : j ≤ k
      · exact e
      · exact absurd (congrArg List.length (wL_none (P := P) (v := v) (k := k) fun q hq => by have := h5 q (Nat.zero_le _) (by omega); simpa using this)) h0
    obtain ⟨t, ht⟩ := oL_mono (P := P) (v := v) j k hj
    rw [ht, List.length_append, oL_none fun q hq => by have := h5 q (Nat.zero_le _) hq; simpa using this]
    simp
theorem eK_other {P : Nat → Int} {v : Int} {m k : Nat} (hk : k < m) (h : P k ≠ v) : eK P v m (k + 1) = eK P v m k ++ [P k] ∧ cK P v m (k + 1) = cK P v m k := by
  have e1 : wL P v (k + 1) = wL P v k := by rw [wL, if_neg h]
  have e2 : oL P v (k + 1) = oL P v k ++ [P k] := by rw [oL, if_neg h]
  unfold eK cK
  rw [e1, e2]
  by_cases h0 : (wL P v k).length = 0
  · rw [if_pos h0, if_pos h0]; exact ⟨rfl, rfl⟩
  · have hf := fst_in (P := P) (v := v) (m := m) (k := k) (by omega) h0
    rw [if_neg h0, if_neg h0]
    refine ⟨?_, rfl⟩
    rw [List.take_append_of_le_length hf, List.drop_append_of_le_length hf, List.append_assoc, List.append_assoc]
theorem eK_first {P : Nat → Int} {v : Int} {m k : Nat} (hk : k < m) (h0 : (wL P v k).length = 0) (h : P k = v) : eK P v m (k + 1) = oL P v k ++ wL P v m ∧ cK P v m (k + 1) = 0 ∧ eK P v m k = oL P v k ∧ cK P v m k = (wL P v m).length := by
  have e2 : oL P v (k + 1) = oL P v k := by rw [oL, if_pos h]
  have h1 : (wL P v (k + 1)).length ≠ 0 := wL_some (Nat.lt_succ_self k) h
  have hl : (oL P v k).length = k := oL_none (wL_zero h0)
  unfold eK cK
  rw [if_neg h1, if_neg h1, if_pos h0, if_pos h0, e2, fst_of hk h0 h, List.take_of_length_le (by omega), List.drop_of_length_le (by omega), List.append_nil]
  exact ⟨rfl, rfl, rfl, rfl⟩
theorem eK_again {P : Nat → Int} {v : Int} {m k : Nat} (h0 : (wL P v k).length ≠ 0) (h : P k = v) : eK P v m (k + 1) = eK P v m k ∧ cK P v m (k + 1) = 0 ∧ cK P v m k = 0 := by
  have e2 : oL P v (k + 1) = oL P v k := by rw [oL, if_pos h]
  have h1 : (wL P v (k + 1)).length ≠ 0 := wL_some (Nat.lt_succ_self k) h
  unfold eK cK
  rw [if_neg h1, if_neg h1, if_neg h0, if_neg h0, e2]
  exact ⟨rfl, rfl, rfl⟩
theorem eK_all (P : Nat → Int) (v : Int) (m : Nat) : eK P v m m = eaL P v m := by
  show _ = (([] ++ (oL P v m).take (fstN P v m)) ++ wL P v m) ++ (oL P v m).drop (fstN P v m)
  unfold eK
  rw [List.nil_append]
  by_cases h0 : (wL P v m).length = 0
  · rw [if_pos h0, List.length_eq_zero_iff.1 h0, List.append_nil, List.take_append_drop]
  · rw [if_neg h0, List.append_assoc]
theorem eK_len (P : Nat → Int) (v : Int) (m k : Nat) (hk : k ≤ m) : (eK P v m k).length ≤ 3 * m := by
  have h1 := oL_len P v k
  have h2 := wL_len P v m
  unfold eK
  split
  · omega
  · simp only [List.length_append, List.length_take, List.length_drop]; omega
/-- The list under way: the answer's box, the list's box B. -/
structure EpI (w wr : World) (B : Nat) (v : Value) (zs : List Int) : Prop where
  below : Below w.heap.size w wr
  hB : w.heap.size + 1 ≤ B
  hsz : B + 1 ≤ wr.heap.size
  r : Box2 wr w.heap.size (.int .i64 0) (.slice none 0 0)
  rf : ∀ o, wr.frozen? ⟨w.heap.size, o, none⟩ = false
  b : Box2 wr B (.int .i64 0) v
  bf : ∀ o, wr.frozen? ⟨B, o, none⟩ = false
  own : wr.ownsRow (B + 1) 2 1 v zs.length (il zs)
theorem EpI.mono {w wr w2 : World} {B : Nat} {v : Value} {zs : List Int} (h : EpI w wr B v zs) (hb : Below wr.heap.size wr w2) : EpI w w2 B v zs := by
  have h1 := h.hB
  have h2 := h.hsz
  exact ⟨below_then h.below hb, h1, Nat.le_trans h2 hb.size, h.r.below hb, fun o => ((bcell29 hb).2 _ _ (by omega)).trans (h.rf o), h.b.below hb, fun o => ((bcell29 hb).2 _ _ (by omega)).trans (h.bf o), own_belowI h.own hb⟩
theorem EpI.app {w wr w' : World} {B : Nat} {v v2 : Value} {zs ys : List Int} (h : EpI w wr B v zs) (hg : wr.grownBy w' v.ownBlock) (ho : w'.ownsRow (B + 1) 2 1 v2 ys.length (il ys)) :
    EpI w (w'.setCell ⟨B, 1, none⟩ v2) B v2 ys ∧ w'.cell? ⟨B, 1, none⟩ = some v ∧ (∀ o, w'.frozen? ⟨B, o, none⟩ = false) := by
  have h1 := h.hB
  have h2 := h.hsz
  have hw : Writes (B + 1) wr.heap.size wr w' := ⟨hg.os, hg.tape, hg.output, hg.size, fun k hk hd => hg.block k hk fun e => by have := (h.own.lt k e.symm).1; omega⟩
  have hf : ∀ b o, b < B + 1 → w'.frozen? ⟨b, o, none⟩ = wr.frozen? ⟨b, o, none⟩ := fun b o hb => World.frozen?_of_block (w := wr) (a := ⟨b, o, none⟩) (hw.block b (by omega) (by omega))
  have hs : Writes B (B + 1) w' (w'.setCell ⟨B, 1, none⟩ v2) := Writes.setCell (Writes.refl _ _ _) (p := ⟨B, 1, none⟩) (Nat.le_refl _) (Nat.lt_succ_self _) _
  obtain ⟨c0, c1⟩ := h.b.writes hw (by omega)
  refine ⟨⟨Writes.below (Writes.below h.below hw (by omega)) hs (by omega), h1, by have := hw.size; have := hs.size; omega, (h.r.writes hw (by omega)).writes hs (by omega), fun o => by rw [World.frozen?_setCell, hf _ _ (by omega)]; exact h.rf o, ⟨(setO (by omega)).trans c0, setS c1⟩, fun o => by rw [World.frozen?_setCell, hf _ _ (by omega)]; exact h.bf o, ?_⟩, c1, fun o => (hf _ _ (by omega)).trans (h.bf o)⟩
  obtain ⟨k1, k2 | ⟨g, gc, cur, rfl, m1, m2, m3⟩⟩ := ho
  · exact ⟨k1, .inl k2⟩
  · exact ⟨k1, .inr ⟨g, gc, cur, rfl, m1, (hs.block g (Array.getElem?_eq_some_iff.1 m2).1 (by omega)).trans m2, m3⟩⟩
end Go.Proofs.Ytcfenhnggccmmaa
