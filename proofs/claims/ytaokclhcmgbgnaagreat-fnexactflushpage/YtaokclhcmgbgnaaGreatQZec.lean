/- Stores whose lists are short: what the laws over answers ask. -/
import Derived.Test.YtaokclhcmgbgnaaGreatQZdb
import Derived.Test.YtaokclhcmgbgnaaGreatQAo
import Derived.Test.YtaokclhcmgbgnaaGreatQBase
import Derived.Test.YtaokclhcmgbgnaaGreatQDf
namespace Go.Proofs.YtaokclhcmgbgnaaGreat
open Go.ChangeShapes Go.WideShapes Go.ChangeAt Go.RowKit Go.Deep Go.Joins
set_option linter.unusedVariables false
set_option maxRecDepth 20000

/-- The log behind one more record. -/
def apR (L : Lo) (rs : List Int) : Lo := ⟨L.n1, L.z1, L.n2 + 13, zOf (zL L.z2 L.n2 ++ rs)⟩
/-- The box of an answer that is not written yet. -/
def ZR (w : World) (B : Nat) : Prop := (w.cell? ⟨B, 0, none⟩ = some (.int .i64 0) ∧ w.cell? ⟨B, 1, none⟩ = some (.int .i64 0) ∧ w.cell? ⟨B, 2, none⟩ = some (.int .i64 0) ∧ w.cell? ⟨B, 3, none⟩ = some (.slice none 0 0) ∧ w.cell? ⟨B, 4, none⟩ = some (.slice none 0 0) ∧ w.cell? ⟨B, 5, none⟩ = some (.slice none 0 0) ∧ w.cell? ⟨B, 6, none⟩ = some (.slice none 0 0) ∧ w.cell? ⟨B, 7, none⟩ = some (.slice none 0 0) ∧ w.cell? ⟨B, 8, none⟩ = some (.slice none 0 0) ∧ w.cell? ⟨B, 9, none⟩ = some (.slice none 0 0)) ∧ ∀ i, w.frozen? ⟨B, i, none⟩ = false
theorem ZR.below {w w' : World} {B : Nat} (h : ZR w B) (hb : Below w.heap.size w w') : ZR w' B := by
  obtain ⟨⟨r0, r1, r2, r3, r4, r5, r6, r7, r8, r9⟩, rf⟩ := h
  exact ⟨⟨cell_below r0 hb, cell_below r1 hb, cell_below r2 hb, cell_below r3 hb, cell_below r4 hb, cell_below r5 hb, cell_below r6 hb, cell_below r7 hb, cell_below r8 hb, cell_below r9 hb⟩, fun i => (hb.frozen (p := ⟨B, i, none⟩) (show B < w.heap.size from Go.block_lt_of_cell r0)).trans (rf i)⟩
theorem ZR.block {w w' : World} {B : Nat} (h : ZR w B) (e : w'.heap[B]? = w.heap[B]?) : ZR w' B := by
  obtain ⟨⟨r0, r1, r2, r3, r4, r5, r6, r7, r8, r9⟩, rf⟩ := h
  have q : ∀ i, w'.cell? ⟨B, i, none⟩ = w.cell? ⟨B, i, none⟩ := fun i => World.cell?_of_block (w := w) (a := ⟨B, i, none⟩) e
  exact ⟨⟨(q 0).trans r0, (q 1).trans r1, (q 2).trans r2, (q 3).trans r3, (q 4).trans r4, (q 5).trans r5, (q 6).trans r6, (q 7).trans r7, (q 8).trans r8, (q 9).trans r9⟩, fun i => (World.frozen?_of_block (w := w) (a := ⟨B, i, none⟩) e).trans (rf i)⟩
theorem ZR.new (w : World) (ty : TypeId) : ZR (w.alloc (.cells #[.int .i64 0, .int .i64 0, .int .i64 0, .slice none 0 0, .slice none 0 0, .slice none 0 0, .slice none 0 0, .slice none 0 0, .slice none 0 0, .slice none 0 0] ty)) w.heap.size := by
  simp [ZR, go_sem]
theorem ZR.lt {w : World} {B : Nat} (h : ZR w B) : B < w.heap.size := Go.block_lt_of_cell h.1.1
theorem smf9_few (f : Nat → Nat) (c : Nat) : ∀ n, (∀ i, i < n → f i ≤ c) → smf9 f n ≤ n * c
  | 0, _ => by simp [smf9]
  | n + 1, h => by
    have h1 := smf9_few f c n fun i hi => h i (by omega)
    have h2 := h n (by omega)
    have h3 : smf9 f (n + 1) = smf9 f n + f n := by simp [smf9]
    rw [h3, Nat.succ_mul]
    omega
theorem sumL_few (L : Nat → Nat) (c : Nat) : ∀ n, (∀ i, i < n → L i ≤ c) → sumL L n ≤ n * c
  | 0, _ => by simp [sumL]
  | n + 1, h => by
    have h1 := sumL_few L c n fun i hi => h i (by omega)
    have h2 := h n (by omega)
    have h3 : sumL L (n + 1) = sumL L n + L n := by simp [sumL]
    rw [h3, Nat.succ_mul]
    omega
/-- Four pages of at most 12 cells, a good disk, a log of at most 4000 bytes, few held and open. -/
theorem few_of {t : Sto} (h1 : t.pn = 4) (h2 : ∀ i, i < 4 → (t.pT i).cn ≤ 12) (h3 : GoodD t.d) (h4 : t.g.n1 + t.g.n2 ≤ 4000) (h5 : t.hn ≤ 32) (h6 : t.on ≤ 999) : FewS t := by
  have e1 : smPg t.pT t.pn ≤ t.pn * 12 := smf9_few _ 12 t.pn fun i hi => h2 i (by omega)
  have e2 := sPg_eq t.pT t.pn
  have e3 : sumL t.d.L t.d.n ≤ t.d.n * 48 := sumL_few _ 48 _ fun i hi => by rw [h3.L i hi]; exact Nat.le_refl _
  have e4 : sumL t.d.M t.d.m ≤ t.d.m * 16 := sumL_few _ 16 _ fun i hi => by rw [h3.M i hi]; exact Nat.le_refl _
  have e5 := s2_eq t.d.M t.d.m
  have e6 := h3.n8
  have e7 := h3.m
  refine ⟨⟨⟨by omega, fun i hi => ⟨by have := h2 i (by omega); omega, trivial⟩, by omega⟩, ⟨by omega, by omega, fun i hi => by rw [h3.L i hi]; omega, fun i hi => by rw [h3.M i hi]; omega, by omega, by omega⟩, ⟨by omega, by omega⟩, by omega, by omega⟩, ?_⟩
  have e8 : tot t.d = sumL t.d.L t.d.n + s2 t.d.M t.d.m := rfl
  omega
theorem GoodSt.cells {t : Sto} (h : GoodSt t) : ∀ i, i < 4 → (t.pT i).cn ≤ 12 := fun i hi => (good_of (h.pg i hi).1).gn
end Go.Proofs.YtaokclhcmgbgnaaGreat
