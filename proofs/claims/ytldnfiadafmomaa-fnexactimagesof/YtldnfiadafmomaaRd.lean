/- Numbers read from bytes: the walks of impl.readNumber and spec.l1Take. -/
import Derived.Test.YtldnfiadafmomaaSum
import Derived.Laws.BitsLemmas
import Derived.Laws.BytesArg
namespace Go.Proofs.Ytldnfiadafmomaa
open Go.RowKit Go.Deep
set_option linter.unusedVariables false

/-- The number of m bytes from the i-th on, the highest first. -/
def num (z : Nat → Int) (i : Nat) : Nat → Int
  | 0 => 0
  | m + 1 => num z i m * 256 + z (i + m)
theorem num_bd (z : Nat → Int) (i : Nat) : ∀ m, (∀ j, j < m → 0 ≤ z (i + j) ∧ z (i + j) ≤ 255) → 0 ≤ num z i m ∧ num z i m < 256 ^ m
  | 0, _ => by simp [num]
  | m + 1, h => by
    have ih := num_bd z i m fun j hj => h j (by omega)
    have hm := h m (by omega)
    simp only [num, Int.pow_succ]
    omega
theorem or8 (x y : Int) (h0 : 0 ≤ x) (h1 : x ≤ 16777215) (h2 : 0 ≤ y) (h3 : y ≤ 255) : bits .or .u64 (x * 256) y = x * 256 + y :=
  bits_join .u64 40 (by decide) (fun n a c => by rw [IntKind.wrap_u64]; omega) 8 (x * 256) y (by omega) (by omega) (by omega) h2 (by omega) (by omega)
/-! ### bytes as a string -/
theorem str_inj {xs ys : List Int} (hx : ∀ z ∈ xs, 0 ≤ z ∧ z ≤ 255) (hy : ∀ z ∈ ys, 0 ≤ z ∧ z ≤ 255) (h : (strOfNums xs).toList = (strOfNums ys).toList) : xs = ys := by
  have e1 : ∀ (l : List Int), (strOfNums l).data.toList = l.map fun n => UInt8.ofNat n.toNat := fun l => by simp [strOfNums]
  have e2 : ∀ (s : ByteArray), s.toList = s.data.toList := fun s => by exact ByteArray.toList_eq _
  rw [e2, e2, e1, e1] at h
  have back : ∀ (l : List Int), (∀ z ∈ l, 0 ≤ z ∧ z ≤ 255) → (l.map fun n => UInt8.ofNat n.toNat).map (fun b => (b.toNat : Int)) = l := fun l hl => by
    rw [List.map_map]
    conv => rhs; rw [← List.map_id l]
    apply List.map_congr_left
    intro z hz
    have := hl z hz
    simp
    omega
  rw [← back xs hx, h, back ys hy]
end Go.Proofs.Ytldnfiadafmomaa
