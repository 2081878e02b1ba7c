/- Numbers in bytes: the model, and the walk of spec.l1Bytes. -/
import Derived.Test.YtiflheclfgloaaaDoorFind
import Derived.Deep.AppendLies
import Derived.Deep.RegionHeld3
namespace Go.Proofs.YtiflheclfgloaaaDoor
open Go.RowKit Go.Deep
set_option linter.unusedVariables false

def bl (zs : List Int) : List Value := zs.map (Value.int .u8)
theorem bl_len (zs : List Int) : (bl zs).length = zs.length := by simp [bl]
theorem bl_app (zs ys : List Int) : bl (zs ++ ys) = bl zs ++ bl ys := by simp [bl]
theorem bl_one (zs : List Int) : ∀ u ∈ bl zs, u.oneCell' = true := by
  intro u hu
  obtain ⟨z, _, rfl⟩ := List.mem_map.1 hu
  rfl
/-- The byte of a number at a place. -/
def byt (x : Int) (k : Nat) : Int := x / 2 ^ (8 * k) % 256
theorem byt_bd (x : Int) (k : Nat) : 0 ≤ byt x k ∧ byt x k ≤ 255 := by unfold byt; omega
/-- A number in so many bytes, the highest first. -/
def nb (x : Int) : Nat → List Int
  | 0 => []
  | s + 1 => byt x s :: nb x s
theorem nb_len (x : Int) : ∀ s, (nb x s).length = s
  | 0 => rfl
  | s + 1 => by simp [nb, nb_len x s]
/-- One byte appended. -/
theorem app_byte {w wr w1 : World} {B : Nat} {v v' : Value} {T : List Int} {z : Int} {c : Array Value} {t : TypeId} (hb : Below B w wr) (hB : B ≤ wr.heap.size) (hown : wr.ownsRow B 5 1 v T.length (bl T))
    (h1 : w1.ownsRow B 5 1 v' (T.length + 1) (bl T ++ [.int .u8 z])) (hg : (wr.alloc (.cells c t)).grownBy w1 v.ownBlock) :
    w1.ownsRow B 5 1 v' (T ++ [z]).length (bl (T ++ [z])) ∧ Below B w w1 := by
  refine ⟨?_, (hb.alloc hB _).grown hg (by simp; omega) fun q hq => (hown.lt q hq).1⟩
  rw [bl_app, List.length_append]
  exact h1
end Go.Proofs.YtiflheclfgloaaaDoor
