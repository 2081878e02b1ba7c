/- Bytes as strings. -/
import Derived.Test.YtjggplfhkejbbaaQUp
import Derived.Laws.BytesArg
namespace Go.Proofs.Ytjggplfhkejbbaa
open Go.RowKit Go.Deep
set_option linter.unusedVariables false
set_option maxRecDepth 20000

theorem u8_inj {x y : Int} (hx : 0 ≤ x ∧ x ≤ 255) (hy : 0 ≤ y ∧ y ≤ 255) (h : UInt8.ofNat x.toNat = UInt8.ofNat y.toNat) : x = y := by
  have h2 := congrArg UInt8.toNat h
  simp at h2
  omega
theorem map_inj8 : ∀ {xs ys : List Int}, (∀ x ∈ xs, 0 ≤ x ∧ x ≤ 255) → (∀ y ∈ ys, 0 ≤ y ∧ y ≤ 255) → (xs.map fun n => UInt8.ofNat n.toNat) = (ys.map fun n => UInt8.ofNat n.toNat) → xs = ys
  | [], [], _, _, _ => rfl
  | [], y :: ys, _, _, h => by simp at h
  | x :: xs, [], _, _, h => by simp at h
  | x :: xs, y :: ys, hx, hy, h => by
    simp only [List.map_cons, List.cons.injEq] at h
    rw [u8_inj (hx x (by simp)) (hy y (by simp)) h.1, map_inj8 (fun q hq => hx q (by simp [hq])) (fun q hq => hy q (by simp [hq])) h.2]
theorem strEq {xs ys : List Int} (hx : ∀ x ∈ xs, 0 ≤ x ∧ x ≤ 255) (hy : ∀ y ∈ ys, 0 ≤ y ∧ y ≤ 255) : ((strOfNums xs).toList == (strOfNums ys).toList) = decide (xs = ys) := by
  rw [ByteArray.toList_eq, ByteArray.toList_eq, strOfNums_data, strOfNums_data]
  by_cases h : xs = ys
  · subst h; simp
  · simp only [h, decide_false]
    cases e : ((xs.map fun n => UInt8.ofNat n.toNat) == (ys.map fun n => UInt8.ofNat n.toNat))
    · rfl
    · exact absurd (map_inj8 hx hy (by simpa using e)) h
theorem convBA {b off n cap : Nat} {z : Nat → Int} (w : World) (h : BA w b off n z) :
    (convert 27 9 (.slice (some ⟨b, off, none⟩) n cap)).run Try.prog w = .ok (.string (strOfNums (zL z n))) w :=
  run_convert_bytes_arg (P := Try.prog) w 27 5 Try.underlying27 Try.underlying5 b off n cap (zL z n) (zL_len z n) (fun i hi => by rw [zL_get z n i hi]; exact h i hi) 9 Try.underlying9
theorem convRow {G C n B : Nat} {zs : List Int} (w : World) (hn : zs.length = n) (h : w.ownsRow B 5 1 (.slice (some ⟨G, 0, none⟩) n C) n (bl zs)) :
    (convert 27 9 (.slice (some ⟨G, 0, none⟩) n C)).run Try.prog w = .ok (.string (strOfNums zs)) w :=
  run_convert_bytes_arg (P := Try.prog) w 27 5 Try.underlying27 Try.underlying5 G 0 n C zs hn (fun i hi => by
    have := h.cells rfl i (.int .u8 (zs.getD i 0)) (by simp [bl, List.getD, hn, hi])
    rw [WideShapes.add_plain] at this
    exact this) 9 Try.underlying9
end Go.Proofs.Ytjggplfhkejbbaa
