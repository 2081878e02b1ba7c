/- What the walk of spec.l3Recs (tools/draft_l3recs.txt, under way) asks. -/
import Derived.Test.YtaokclhcmgbgnaaGreatQJa
import Derived.Test.YtaokclhcmgbgnaaGreatQSl2
import Derived.Test.YtaokclhcmgbgnaaGreatQSp
import Derived.Test.YtaokclhcmgbgnaaGreatQSri
import Derived.Test.YtaokclhcmgbgnaaGreatQPr2
import Derived.Deep.DeepCutAuto
namespace Go.Proofs.YtaokclhcmgbgnaaGreat
open Go.RowKit Go.Deep
set_option linter.unusedVariables false
set_option maxRecDepth 20000

theorem specL3_any (k t key : Int) (hd : Bool) (old : Int) (hs : Bool) (nw bk : Int) (w : World) (g : GoodR k t key hd old hs nw bk) :
    Calls Tryz.prog 119 #[.agg #[.int .i64 k, .int .i64 t, .int .i64 key, .bool hd, .int .i64 old, .bool hs, .int .i64 nw, .int .i64 bk]] w fun e w' => ∃ v, e = .returned v ∧ Below w.heap.size w w' ∧ w'.ownsRow w.heap.size 5 1 v (rb k t key hd old hs nw bk).length (bl (rb k t key hd old hs nw bk)) ∧ v ≠ .slice none 0 0 := by
  cases hd <;> cases hs
  · exact specL3_0 k t key old nw bk w g
  · exact specL3_2 k t key old nw bk w g
  · exact specL3_1 k t key old nw bk w g
  · exact specL3_3 k t key old nw bk w g
theorem takeH {b off n cap : Nat} {x y : Int} (z : Nat → Int) (w : World) (h : BA w b off n z) (hz : Byt n z) (hx : 0 ≤ x) (hy : 0 ≤ y) (hm : y ≤ 4) (him : x + y ≤ n) (hn : n ≤ 1000) :
    Calls Tryz.prog 117 #[.slice (some ⟨b, off, none⟩) n cap, .int .i64 x, .int .i64 y] w fun e w' => e = .returned (.int .i64 (num z x.toNat y.toNat)) ∧ w' = w := by
  obtain ⟨i, rfl⟩ : ∃ i : Nat, x = i := ⟨x.toNat, by omega⟩
  obtain ⟨m, rfl⟩ : ∃ m : Nat, y = m := ⟨y.toNat, by omega⟩
  have := l1Take_some n i m z b off cap w (by omega) (by omega) hn hz h
  simpa using this
/-- Where l3Recs stands. -/
structure Rx (z : Nat → Int) (w wr : World) (v : Value) (k : Nat) : Prop where
  below : Below w.heap.size w wr
  own : wr.ownsRow w.heap.size 105 8 v k (rvs z k)
theorem Rx.mono {z : Nat → Int} {w wr wq : World} {v : Value} {k : Nat} (h : Rx z w wr v k) (hb : Below wr.heap.size wr wq) : Rx z w wq v k := ⟨below_then h.below hb, rowR_below h.own hb⟩
def BX (w : World) (B : Nat) (z : Nat → Int) : Prop := Box8 w B (num z 0 1) (num z 1 2) (num z 3 1) (hdB z) (num z 5 2) (hsB z) (num z 7 2) (num z 9 2)
theorem bxs {w : World} {b off n : Nat} {z : Nat → Int} (h : BA w b off n z) (hn : 13 ≤ n) : w.cell? ⟨b, off, none⟩ = some (.int .u8 (z 0)) ∧ w.cell? ⟨b, off + 3, none⟩ = some (.int .u8 (z 3)) ∧ w.cell? ⟨b, off + 4, none⟩ = some (.int .u8 (z 4)) :=
  ⟨by have := h 0 (by omega); rwa [Nat.add_zero] at this, h 3 (by omega), h 4 (by omega)⟩
theorem ba_d {w : World} {b off n : Nat} {z : Nat → Int} (h : BA w b off n z) : BA w.drew b off n z := h
theorem bxk {w : World} {b off n : Nat} {z : Nat → Int} (h : BA w b off n z) (hn : 13 ≤ n) : BA w b off n z ∧ w.cell? ⟨b, off, none⟩ = some (.int .u8 (z 0)) ∧ w.cell? ⟨b, off + 3, none⟩ = some (.int .u8 (z 3)) ∧ w.cell? ⟨b, off + 4, none⟩ = some (.int .u8 (z 4)) := ⟨h, bxs h hn⟩
theorem bx1 {w : World} {b off n : Nat} {z : Nat → Int} (h : BA w b off n z ∧ w.cell? ⟨b, off, none⟩ = some (.int .u8 (z 0)) ∧ w.cell? ⟨b, off + 3, none⟩ = some (.int .u8 (z 3)) ∧ w.cell? ⟨b, off + 4, none⟩ = some (.int .u8 (z 4))) : BA w b off n z := h.1
end Go.Proofs.YtaokclhcmgbgnaaGreat
