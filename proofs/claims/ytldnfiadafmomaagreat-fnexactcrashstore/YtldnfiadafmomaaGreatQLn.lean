/- Both FlushLogs. -/
import Derived.Test.YtldnfiadafmomaaGreatQLm
namespace Go.Proofs.YtldnfiadafmomaaGreat
open Go.RowKit Go.Deep
set_option linter.unusedVariables false
set_option maxRecDepth 20000

/-- An answer that is a log. -/
def LRes (c s : Int) (L : Lo) (w : World) (e : Ending) (w' : World) : Prop :=
  ∃ a1 a2 c1 c2, e = .returned (.agg #[.int .i64 c, .int .i64 s, .slice a1 L.n1 c1, .slice a2 L.n2 c2]) ∧ Below w.heap.size w w' ∧ OwnG w' w.heap.size w'.heap.size a1 a2 L
theorem lgC_zero {L : Lo} (h : lgC L = 0) : L.n1 + L.n2 ≤ 4000 ∧ 13 * cnt (aZ L) (L.n1 + L.n2) = L.n1 + L.n2 := by
  unfold lgC at h
  by_cases h1 : 4000 < L.n1 + L.n2
  · rw [if_pos h1] at h; omega
  · rw [if_neg h1] at h
    by_cases h2 : 13 * cnt (aZ L) (L.n1 + L.n2) = L.n1 + L.n2
    · exact ⟨by omega, h2⟩
    · rw [if_neg h2] at h; omega
theorem cells7 {w1 w2 : World} {B : Nat} {x0 x1 y0 y1 y2 y3 : Value} (hb : Below w1.heap.size w1 w2) (h0 : w1.cell? ⟨B, 0, none⟩ = some x0) (h1 : w1.cell? ⟨B, 1, none⟩ = some x1)
    (k0 : w1.cell? ⟨B + 1, 0, none⟩ = some y0) (k1 : w1.cell? ⟨B + 1, 1, none⟩ = some y1) (k2 : w1.cell? ⟨B + 1, 2, none⟩ = some y2) (k3 : w1.cell? ⟨B + 1, 3, none⟩ = some y3) (hf : ∀ i, w1.frozen? ⟨B + 1, i, none⟩ = false) :
    w2.cell? ⟨B, 0, none⟩ = some x0 ∧ w2.cell? ⟨B, 1, none⟩ = some x1 ∧ w2.cell? ⟨B + 1, 0, none⟩ = some y0 ∧ w2.cell? ⟨B + 1, 1, none⟩ = some y1 ∧ w2.cell? ⟨B + 1, 2, none⟩ = some y2 ∧ w2.cell? ⟨B + 1, 3, none⟩ = some y3 ∧ ∀ i, w2.frozen? ⟨B + 1, i, none⟩ = false :=
  ⟨cell_below h0 hb, cell_below h1 hb, cell_below k0 hb, cell_below k1 hb, cell_below k2 hb, cell_below k3 hb, fun i => (hb.frozen (p := ⟨B + 1, i, none⟩) (by have := Go.block_lt_of_cell k0; exact this)).trans (hf i)⟩
theorem joined_twoG (L : Lo) (a1 a2 : Option Addr) (c1 c2 g : Nat) (w : World) (hs : L.n1 + L.n2 ≤ 90000) (h0 : w.cell? ⟨g, 0, none⟩ = some (.slice a1 L.n1 c1)) (h1 : w.cell? ⟨g, 1, none⟩ = some (.slice a2 L.n2 c2)) (h : LogAt w a1 a2 L) :
    Calls Tryz.prog 67 #[.slice (some ⟨g, 0, none⟩) 2 2] w fun e w' => ∃ ra rc, e = .returned (.slice ra (L.n1 + L.n2) rc) ∧ L.n1 + L.n2 ≤ rc ∧ Below w.heap.size w w' ∧ BytesAt w' ra (L.n1 + L.n2) (aZ L) := by
  refine (joined_any 2 (two' a1 a2) (two' L.n1 L.n2) (two' c1 c2) (two' L.z1 L.z2) g 0 2 _ (by simp [sumL, two']; omega) (Go.block_lt_of_cell h0) (fun i hi => ?_) (by omega)).mono ?_
  · rcases (by omega : i = 0 ∨ i = 1) with rfl | rfl
    · exact ⟨h0, h.1⟩
    · exact ⟨h1, h.2⟩
  · rintro e w' ⟨v, rfl, hb1, ho⟩
    rw [jn_two] at ho
    obtain ⟨ra, rc, rfl, hrc, hown⟩ := (allAt_of ho).own
    exact ⟨ra, rc, rfl, hrc, hb1, hown.at⟩
theorem two_at (X : World) (x y : Value) (t : TypeId) : (X.alloc (.cells #[x, y] t)).cell? ⟨X.heap.size, 0, none⟩ = some x ∧ (X.alloc (.cells #[x, y] t)).cell? ⟨X.heap.size, 1, none⟩ = some y := ⟨by simp, by simp⟩
end Go.Proofs.YtldnfiadafmomaaGreat
