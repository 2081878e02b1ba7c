/- A record read from bytes: impl.readRec. -/
import Derived.Test.YtldnfiadafmomaaUp2
import Derived.Test.YtldnfiadafmomaaPr3
namespace Go.Proofs.Ytldnfiadafmomaa
open Go.RowKit Go.Deep
set_option linter.unusedVariables false
set_option maxRecDepth 20000

theorem and1_all : ∀ x : Fin 256, bits .and .u64 (x.val : Int) 1 = (x.val : Int) % 2 := by decide +kernel
theorem and2_all : ∀ x : Fin 256, bits .and .u64 (x.val : Int) 2 = (x.val : Int) / 2 % 2 * 2 := by decide +kernel
theorem and1 {x : Int} (h0 : 0 ≤ x) (h1 : x ≤ 255) : bits .and .u64 x 1 = x % 2 := by
  have h := and1_all ⟨x.toNat, by omega⟩
  have e : ((x.toNat : Nat) : Int) = x := by omega
  simpa [e] using h
theorem andTwo {x : Int} (h0 : 0 ≤ x) (h1 : x ≤ 255) : bits .and .u64 x 2 = x / 2 % 2 * 2 := by
  have h := and2_all ⟨x.toNat, by omega⟩
  have e : ((x.toNat : Nat) : Int) = x := by omega
  simpa [e] using h
def hdB (z : Nat → Int) : Bool := z 4 % 2 == 1
def hsB (z : Nat → Int) : Bool := z 4 / 2 % 2 == 1
theorem hdB_eq {z : Nat → Int} (h0 : 0 ≤ z 4) (h1 : z 4 ≤ 255) : (bits .and .u64 (z 4) 1 != 0) = hdB z := by
  rw [and1 h0 h1, hdB]
  have : z 4 % 2 = 0 ∨ z 4 % 2 = 1 := by omega
  rcases this with h | h <;> rw [h] <;> rfl
theorem hsB_eq {z : Nat → Int} (h0 : 0 ≤ z 4) (h1 : z 4 ≤ 255) : (bits .and .u64 (z 4) 2 != 0) = hsB z := by
  rw [andTwo h0 h1, hsB]
  have : z 4 / 2 % 2 = 0 ∨ z 4 / 2 % 2 = 1 := by omega
  rcases this with h | h <;> rw [h] <;> rfl
theorem ba_ad {w : World} {b off n : Nat} {z : Nat → Int} (h : BA w b off n z) (o : Obj) : BA (w.alloc o).drew b off n z := h.alloc o
end Go.Proofs.Ytldnfiadafmomaa
