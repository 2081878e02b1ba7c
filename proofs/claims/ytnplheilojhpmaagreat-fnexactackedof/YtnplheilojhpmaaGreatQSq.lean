/- Bytes as strings. -/
import Derived.Test.YtnplheilojhpmaaGreatQZeg
import Derived.Test.YtnplheilojhpmaaGreatQSl1
import Derived.Test.YtnplheilojhpmaaGreatQSl3
import Derived.Test.YtnplheilojhpmaaGreatQPut
import Derived.Test.YtnplheilojhpmaaGreatQSri
import Derived.Test.YtnplheilojhpmaaGreatQUt
import Derived.Deep.DeepCutAuto
import Derived.Laws.BytesArg
namespace Go.Proofs.YtnplheilojhpmaaGreat
open Go.RowKit Go.Deep
set_option linter.unusedVariables false
set_option maxRecDepth 20000

theorem specL3_any (k t key : Int) (hd : Bool) (old : Int) (hs : Bool) (nw bk : Int) (w : World) (g : GoodR k t key hd old hs nw bk) :
    Calls Tryz.prog 52 #[.agg #[.int .i64 k, .int .i64 t, .int .i64 key, .bool hd, .int .i64 old, .bool hs, .int .i64 nw, .int .i64 bk]] w fun e w' => ∃ v, e = .returned v ∧ Below w.heap.size w w' ∧ w'.ownsRow w.heap.size 5 1 v (rb k t key hd old hs nw bk).length (bl (rb k t key hd old hs nw bk)) ∧ v ≠ .slice none 0 0 := by
  cases hd <;> cases hs
  · exact specL3_0 k t key old nw bk w g
  · exact specL3_2 k t key old nw bk w g
  · exact specL3_1 k t key old nw bk w g
  · exact specL3_3 k t key old nw bk w g
theorem takeH {b off n cap : Nat} {x y : Int} (z : Nat → Int) (w : World) (h : BA w b off n z) (hz : Byt n z) (hx : 0 ≤ x) (hy : 0 ≤ y) (hm : y ≤ 4) (him : x + y ≤ n) (hn : n ≤ 1000) :
    Calls Tryz.prog 50 #[.slice (some ⟨b, off, none⟩) n cap, .int .i64 x, .int .i64 y] w fun e w' => e = .returned (.int .i64 (num z x.toNat y.toNat)) ∧ w' = w := by
  obtain ⟨i, rfl⟩ : ∃ i : Nat, x = i := ⟨x.toNat, by omega⟩
  obtain ⟨m, rfl⟩ : ∃ m : Nat, y = m := ⟨y.toNat, by omega⟩
  have := l1Take_some n i m z b off cap w (by omega) (by omega) hn hz h
  simpa using this
/-- Where l3Recs stands. -/
structure Rx (z : Nat → Int) (w wr : World) (v : Value) (k : Nat) : Prop where
  below : Below w.heap.size w wr
  own : wr.ownsRow w.heap.size 71 8 v k (rvs z k)
theorem Rx.mono {z : Nat → Int} {w wr wq : World} {v : Value} {k : Nat} (h : Rx z w wr v k) (hb : Below wr.heap.size wr wq) : Rx z w wq v k := ⟨below_then h.below hb, rowR_below h.own hb⟩
def BX (w : World) (B : Nat) (z : Nat → Int) : Prop := Box8 w B (num z 0 1) (num z 1 2) (num z 3 1) (hdB z) (num z 5 2) (hsB z) (num z 7 2) (num z 9 2)
theorem bxs {w : World} {b off n : Nat} {z : Nat → Int} (h : BA w b off n z) (hn : 13 ≤ n) : w.cell? ⟨b, off, none⟩ = some (.int .u8 (z 0)) ∧ w.cell? ⟨b, off + 3, none⟩ = some (.int .u8 (z 3)) ∧ w.cell? ⟨b, off + 4, none⟩ = some (.int .u8 (z 4)) :=
  ⟨by have := h 0 (by omega); rwa [Nat.add_zero] at this, h 3 (by omega), h 4 (by omega)⟩
theorem ba_d {w : World} {b off n : Nat} {z : Nat → Int} (h : BA w b off n z) : BA w.drew b off n z := h
theorem bxk {w : World} {b off n : Nat} {z : Nat → Int} (h : BA w b off n z) (hn : 13 ≤ n) : BA w b off n z ∧ w.cell? ⟨b, off, none⟩ = some (.int .u8 (z 0)) ∧ w.cell? ⟨b, off + 3, none⟩ = some (.int .u8 (z 3)) ∧ w.cell? ⟨b, off + 4, none⟩ = some (.int .u8 (z 4)) := ⟨h, bxs h hn⟩
theorem bx1 {w : World} {b off n : Nat} {z : Nat → Int} (h : BA w b off n z ∧ w.cell? ⟨b, off, none⟩ = some (.int .u8 (z 0)) ∧ w.cell? ⟨b, off + 3, none⟩ = some (.int .u8 (z 3)) ∧ w.cell? ⟨b, off + 4, none⟩ = some (.int .u8 (z 4))) : BA w b off n z := h.1
theorem u8_inj {x y : Int} (hx : 0 ≤ x ∧ x ≤ 255) (hy : 0 ≤ y ∧ y ≤ 255) (h : UInt8.ofNat x.toNat = UInt8.ofNat y.toNat) : x = y := by
  have h2 := congrArg UInt8.toNat h
  simp at h2
  omega
theorem map_inj8 : ∀ {xs ys : List Int}, (∀ x ∈ xs, 0 ≤ x ∧ x ≤ 255) → (∀ y ∈ ys, 0 ≤ y ∧ y ≤ 255) → (xs.map fun n => UInt8.ofNat n.toNat) = (ys.map fun n => UInt8.ofNat n.toNat) → xs = ys
  | [], [], _, _, _ => rfl
  | [], y :: ys, _, _, h => by simp at h
  | x :: xs, [], _, _, h => by simp at h
  | x :: xs, y :: ys, hx, hy, h => by
    simp only [List.map_cons, List.cons.injEq] at h
    rw [u8_inj (hx x (by simp)) (hy y (by simp)) h.1, map_inj8 (fun q hq => hx q (by simp [hq])) (fun q hq => hy q (by simp [hq])) h.2]
theorem strEq {xs ys : List Int} (hx : ∀ x ∈ xs, 0 ≤ x ∧ x ≤ 255) (hy : ∀ y ∈ ys, 0 ≤ y ∧ y ≤ 255) : ((strOfNums xs).toList == (strOfNums ys).toList) = decide (xs = ys) := by
  rw [ByteArray.toList_eq, ByteArray.toList_eq, strOfNums_data, strOfNums_data]
  by_cases h : xs = ys
  · subst h; simp
  · simp only [h, decide_false]
    cases e : ((xs.map fun n => UInt8.ofNat n.toNat) == (ys.map fun n => UInt8.ofNat n.toNat))
    · rfl
    · exact absurd (map_inj8 hx hy (by simpa using e)) h
theorem convBA {b off n cap : Nat} {z : Nat → Int} (w : World) (h : BA w b off n z) :
    (convert 27 9 (.slice (some ⟨b, off, none⟩) n cap)).run Tryz.prog w = .ok (.string (strOfNums (zL z n))) w :=
  run_convert_bytes_arg (P := Tryz.prog) w 27 5 Tryz.underlying27 Tryz.underlying5 b off n cap (zL z n) (zL_len z n) (fun i hi => by rw [zL_get z n i hi]; exact h i hi) 9 Tryz.underlying9
theorem convRow {G C n B : Nat} {zs : List Int} (w : World) (hn : zs.length = n) (h : w.ownsRow B 5 1 (.slice (some ⟨G, 0, none⟩) n C) n (bl zs)) :
    (convert 27 9 (.slice (some ⟨G, 0, none⟩) n C)).run Tryz.prog w = .ok (.string (strOfNums zs)) w :=
  run_convert_bytes_arg (P := Tryz.prog) w 27 5 Tryz.underlying27 Tryz.underlying5 G 0 n C zs hn (fun i hi => by
    have := h.cells rfl i (.int .u8 (zs.getD i 0)) (by simp [bl, List.getD, hn, hi])
    rw [WideShapes.add_plain] at this
    exact this) 9 Tryz.underlying9
end Go.Proofs.YtnplheilojhpmaaGreat
