/- PackPage: an answer that is bytes; the walk of impl.PackPage. -/
import Derived.Test.YtldnfiadafmomaaPp
import Derived.Test.YtldnfiadafmomaaWi
namespace Go.Proofs.Ytldnfiadafmomaa
open Go.RowKit Go.Deep
set_option linter.unusedVariables false
set_option maxRecDepth 20000

/-- Bytes in a block from lo on, below hi, that may be written. -/
def OwnB (w : World) (lo hi : Nat) (a : Option Addr) (n : Nat) (z : Nat → Int) : Prop :=
  hi ≤ w.heap.size ∧ (n = 0 ∨ ∃ g off, a = some ⟨g, off, none⟩ ∧ lo ≤ g ∧ g < hi ∧ (∀ i, i < n → w.cell? ⟨g, off + i, none⟩ = some (.int .u8 (z i))) ∧ (∀ i, i < n → w.frozen? ⟨g, off + i, none⟩ = false))
theorem OwnB.at {w : World} {lo hi : Nat} {a : Option Addr} {n : Nat} {z : Nat → Int} (h : OwnB w lo hi a n z) : BytesAt w a n z := by
  obtain ⟨h0, h1 | ⟨g, off, ha, _, hl, hc, _⟩⟩ := h
  · exact .inl h1
  · exact .inr ⟨g, off, ha, by omega, hc⟩
theorem OwnB.writes {w w' : World} {lo hi lo' hi' : Nat} {a : Option Addr} {n : Nat} {z : Nat → Int} (h : OwnB w lo hi a n z) (hw : Writes lo' hi' w w') (hd : hi ≤ lo' ∨ hi' ≤ lo) : OwnB w' lo hi a n z := by
  obtain ⟨h0, h1 | ⟨g, off, ha, h2, hl, hc, hf⟩⟩ := h
  · exact ⟨Nat.le_trans h0 hw.size, .inl h1⟩
  · have hb := hw.block g (by omega) (by omega)
    exact ⟨Nat.le_trans h0 hw.size, .inr ⟨g, off, ha, h2, hl, fun i hi => (World.cell?_of_block (w := w) (a := ⟨g, _, none⟩) hb).trans (hc i hi), fun i hi => (World.frozen?_of_block (w := w) (a := ⟨g, _, none⟩) hb).trans (hf i hi)⟩⟩
theorem OwnB.below {w w' : World} {lo hi : Nat} {a : Option Addr} {n : Nat} {z : Nat → Int} (h : OwnB w lo hi a n z) (hb : Below w.heap.size w w') : OwnB w' lo hi a n z :=
  h.writes (Writes.of_below (lo := hi) (hi := hi) hb) (.inl (Nat.le_refl _))
theorem OwnB.wide {w : World} {lo hi lo' hi' : Nat} {a : Option Addr} {n : Nat} {z : Nat → Int} (h : OwnB w lo hi a n z) (h1 : lo' ≤ lo) (h2 : hi ≤ hi') (h3 : hi' ≤ w.heap.size) : OwnB w lo' hi' a n z := by
  obtain ⟨h0, h4 | ⟨g, off, ha, h5, hl, r⟩⟩ := h
  · exact ⟨h3, .inl h4⟩
  · exact ⟨h3, .inr ⟨g, off, ha, by omega, by omega, r⟩⟩
def zOf (zs : List Int) (i : Nat) : Int := zs.getD i 0
theorem ownB_of_row {w : World} {base : Nat} {v : Value} {zs : List Int} (h : w.ownsRow base 5 1 v zs.length (bl zs)) : ∃ a cap, v = .slice a zs.length cap ∧ OwnB w base w.heap.size a zs.length (zOf zs) := by
  rcases h.2 with ⟨rfl, h0⟩ | ⟨g, cap, cur, rfl, hbg, hg, hnc, hcm, hcs, htake⟩
  · exact ⟨none, 0, by rw [h0], Nat.le_refl _, .inl h0⟩
  · have hlt : g < w.heap.size := by
      obtain ⟨hlt, _⟩ := Array.getElem?_eq_some_iff.1 hg
      exact hlt
    refine ⟨some ⟨g, 0, none⟩, cap, rfl, Nat.le_refl _, .inr ⟨g, 0, rfl, hbg, hlt, fun i hi => ?_, fun i hi => h.frozenAt _⟩⟩
    have := h.cellAt i (by omega)
    rw [Nat.zero_add, this]
    simp [bl, hi, zOf]
/-- An answer that is bytes (or a code). -/
def BRes (c : Int) (zs : List Int) (w : World) (e : Ending) (w' : World) : Prop :=
  ∃ a cap, e = .returned (.agg #[.int .i64 c, .slice a (if c = 0 then zs else []).length cap]) ∧ Below w.heap.size w w' ∧ OwnB w' w.heap.size w'.heap.size a (if c = 0 then zs else []).length (zOf (if c = 0 then zs else []))
theorem bres_bad {c : Int} {zs : List Int} {w w' : World} (hb : Below w.heap.size w w') (hc : c ≠ 0) : BRes c zs w (.returned (.agg #[.int .i64 c, .slice none 0 0])) w' := by
  rw [BRes]
  simp only [if_neg hc]
  exact ⟨none, 0, rfl, hb, Nat.le_refl _, .inl rfl⟩
theorem bres_ok {x : Int} {zs : List Int} {w wq w' : World} {a : Option Addr} {cap lo : Nat} (E : Hid (x = 0)) (hB : Below w.heap.size w wq) (hlo : w.heap.size + 2 ≤ lo)
    (ho : OwnB wq lo wq.heap.size a zs.length (zOf zs)) (hw : Writes (w.heap.size + 1) (w.heap.size + 2) wq w') (hs : w'.heap.size = wq.heap.size) :
    BRes x zs w (.returned (.agg #[.int .i64 0, .slice a zs.length cap])) w' := by
  rw [BRes, E.out]
  simp only [if_true]
  have hb : Below w.heap.size w w' := Writes.below hB hw (by omega)
  refine ⟨a, cap, rfl, hb, ?_⟩
  rw [hs]
  exact OwnB.wide (OwnB.writes ho hw (.inr (by omega))) (by omega) (Nat.le_refl _) (by omega)

def BRes2 (c : Int) (zs : List Int) (w : World) (e : Ending) (w' : World) : Prop :=
  ∃ a cap, e = .returned (.agg #[.int .i64 c, .slice a (if c = 0 then zs else []).length cap]) ∧ Below w.heap.size w w' ∧ OwnB w' w.heap.size w'.heap.size a (if c = 0 then zs else []).length (zOf (if c = 0 then zs else [])) ∧ (if c = 0 then zs else []).length ≤ cap
theorem bres2_bad {c : Int} {zs : List Int} {w w' : World} (hb : Below w.heap.size w w') (hc : c ≠ 0) : BRes2 c zs w (.returned (.agg #[.int .i64 c, .slice none 0 0])) w' := by
  rw [BRes2]
  simp only [if_neg hc]
  exact ⟨none, 0, rfl, hb, ⟨Nat.le_refl _, .inl rfl⟩, Nat.le_refl _⟩
theorem bres2_ok {x : Int} {zs : List Int} {w wq w' : World} {a : Option Addr} {cap lo : Nat} (E : Hid (x = 0)) (hB : Below w.heap.size w wq) (hlo : w.heap.size + 2 ≤ lo)
    (ho : OwnB wq lo wq.heap.size a zs.length (zOf zs)) (hw : Writes (w.heap.size + 1) (w.heap.size + 2) wq w') (hs : w'.heap.size = wq.heap.size) (hcp : zs.length ≤ cap) :
    BRes2 x zs w (.returned (.agg #[.int .i64 0, .slice a zs.length cap])) w' := by
  rw [BRes2, E.out]
  simp only [if_true]
  have hb : Below w.heap.size w w' := Writes.below hB hw (by omega)
  refine ⟨a, cap, rfl, hb, ?_, hcp⟩
  rw [hs]
  exact OwnB.wide (OwnB.writes ho hw (.inr (by omega))) (by omega) (Nat.le_refl _) (by omega)
theorem own_cap {w : World} {base : Nat} {a : Option Addr} {n cap : Nat} {xs : List Value} (h : w.ownsRow base 5 1 (.slice a n cap) n xs) : n ≤ cap := by
  rcases h.2 with ⟨e, h0⟩ | ⟨_, _, _, e, _, _, h9, _⟩
  · omega
  · simp only [Value.slice.injEq] at e
    omega
end Go.Proofs.Ytldnfiadafmomaa
