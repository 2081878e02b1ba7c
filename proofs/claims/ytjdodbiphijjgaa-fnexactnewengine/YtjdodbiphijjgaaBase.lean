/- Small things that the walks of this seat share: what a slice of bytes holds, by its index; the sum of bytes; worlds. -/
import Derived.Test.YtjdodbiphijjgaaRows
import Derived.WalkKit
import Derived.WalkSpells
import Derived.ProofKit
import Derived.OpenShut
import Derived.ShutString
import Derived.ChangeOld
import Derived.Below
import Derived.Outline
import Derived.Deep.OwnRows
import Derived.Deep.LoopGhost
import Derived.Deep.QuietTactic
import Derived.BigQuiet
import Derived.WalkSmall
import Derived.Deep.Slices
import Derived.Deep.SlicePairs
namespace Go.Proofs.Ytjdodbiphijjgaa
open Go.RowKit Go.Deep

theorem own : ownKnob Try.prog.godebug = none := by kernel_rfl
theorem laidOut : laidOutB Try.prog = true := by kernel_rfl
theorem info5 : (Try.prog.info? 5).map (fun i => (i.zero, i.size, i.bytes)) = some (some (.int .u8 0), 1, 1) := by kernel_rfl

theorem ret_int {k : IntKind} {a b : Int} (h : a = b) : Ending.returned (.int k a) = .returned (.int k b) := by rw [h]
theorem ret_bool {a b : Bool} (h : a = b) : Ending.returned (.bool a) = .returned (.bool b) := by rw [h]

theorem bcell {W w1 : World} (hb : Below W.heap.size W w1) : (∀ b o, b < W.heap.size → w1.cell? ⟨b, o, none⟩ = W.cell? ⟨b, o, none⟩) ∧ (∀ b o, b < W.heap.size → w1.frozen? ⟨b, o, none⟩ = W.frozen? ⟨b, o, none⟩) :=
  ⟨fun b o h => hb.cell (p := ⟨b, o, none⟩) h, fun b o h => hb.frozen (p := ⟨b, o, none⟩) h⟩

theorem below_then {w w1 w2 : World} (h : Below w.heap.size w w1) (k : Below w1.heap.size w1 w2) : Below w.heap.size w w2 := h.trans (k.mono h.size)
theorem made_none (z : Array Value) : madeCells z 0 = #[] := Array.eq_empty_of_size_eq_zero (size_madeCells _ _)

/-- The slice at 'a' has the n bytes z. -/
def BytesAt (w : World) (a : Option Addr) (n : Nat) (z : Nat → Int) : Prop :=
  n = 0 ∨ ∃ b off, a = some ⟨b, off, none⟩ ∧ b < w.heap.size ∧ ∀ i, i < n → w.cell? ⟨b, off + i, none⟩ = some (.int .u8 (z i))
def Byt (n : Nat) (z : Nat → Int) : Prop := ∀ i, i < n → 0 ≤ z i ∧ z i ≤ 255

theorem BytesAt.below {w w' : World} {a : Option Addr} {n : Nat} {z : Nat → Int} (h : BytesAt w a n z) (hb : Below w.heap.size w w') : BytesAt w' a n z := by
  rcases h with h | ⟨b, off, ha, hl, hc⟩
  · exact .inl h
  · exact .inr ⟨b, off, ha, Nat.lt_of_lt_of_le hl hb.size, fun i hi => (hb.cell (p := ⟨b, off + i, none⟩) hl).trans (hc i hi)⟩

/-- What SumBytes makes of the first k bytes. -/
def sumB (z : Nat → Int) : Nat → Int
  | 0 => 9
  | k + 1 => (sumB z k * 269 + z k + 1) % 65521
theorem sumB_bd (z : Nat → Int) (k : Nat) : 0 ≤ sumB z k ∧ sumB z k ≤ 65520 := by
  cases k with
  | zero => simp [sumB]
  | succ k => simp only [sumB]; omega
theorem sumB_congr {z y : Nat → Int} {n : Nat} (h : ∀ i, i < n → z i = y i) : sumB z n = sumB y n := by
  induction n with
  | zero => rfl
  | succ k ih => simp only [sumB]; rw [ih (fun i hi => h i (by omega)), h k (by omega)]
end Go.Proofs.Ytjdodbiphijjgaa
