/- A page read from bytes: impl.readPage. -/
import Derived.Test.YtldnfiadafmomaaBh
import Derived.Test.YtldnfiadafmomaaRd
namespace Go.Proofs.Ytldnfiadafmomaa
open Go.RowKit Go.Deep
set_option linter.unusedVariables false
set_option maxRecDepth 20000

theorem num_shift (z : Nat → Int) (lo : Nat) : ∀ m, num (fun j => z (lo + j)) 0 m = num z lo m
  | 0 => rfl
  | m + 1 => by simp only [num, num_shift z lo m, Nat.zero_add]
/-- So many bytes from a place on. -/
def BA (w : World) (b off n : Nat) (z : Nat → Int) : Prop := ∀ i, i < n → w.cell? ⟨b, off + i, none⟩ = some (.int .u8 (z i))
theorem BA.alloc {w : World} {b off n : Nat} {z : Nat → Int} (h : BA w b off n z) (o : Obj) : BA (w.alloc o) b off n z := fun i hi => cell_alloc (h i hi) o
theorem BA.below {w w' : World} {b off n : Nat} {z : Nat → Int} (h : BA w b off n z) (hb : Below w.heap.size w w') : BA w' b off n z := fun i hi => cell_below (h i hi) hb
theorem BA.set {w : World} {b off n B j : Nat} {v : Value} {z : Nat → Int} (h : BA w b off n z) (hb : b ≠ B) : BA (w.setCell ⟨B, j, none⟩ v) b off n z := fun i hi => by
  rw [World.cell?_setCell_other _ _ _ _ (by intro e; exact hb (congrArg Addr.block e).symm)]; exact h i hi
theorem BA.from {w : World} {b off n lo m : Nat} {z : Nat → Int} (h : BA w b off n z) (hl : lo + m ≤ n) : ∀ i, i < m → w.cell? ⟨b, off + lo + i, none⟩ = some (.int .u8 (z (lo + i))) := fun i hi => by
  rw [Nat.add_assoc]; exact h (lo + i) (by omega)
theorem BA.from0 {w : World} {b off n m : Nat} {z : Nat → Int} (h : BA w b off n z) (hl : m ≤ n) : ∀ i, i < m → w.cell? ⟨b, off + i, none⟩ = some (.int .u8 (z (0 + i))) := fun i hi => by
  rw [Nat.zero_add]; exact h i (by omega)
def rpN (z : Nat → Int) : Nat := if z 5 ≤ 12 then (z 5).toNat else 12
def rpK (z : Nat → Int) (i : Nat) : Int := num z (6 + 3 * i) 1
def rpV (z : Nat → Int) (i : Nat) : Int := num z (7 + 3 * i) 2
/-- An answer that is a page. -/
def PgR (idn lsn : Int) (n : Nat) (K V : Nat → Int) (w : World) (e : Ending) (w' : World) : Prop :=
  ∃ a cap, e = .returned (.agg #[.int .i64 idn, .int .i64 lsn, .slice a n cap]) ∧ Below w.heap.size w w' ∧ Own w' w.heap.size w'.heap.size a n K V
theorem lst_succ (K V : Nat → Int) (k : Nat) : lst K V 0 (k + 1) = lst K V 0 k ++ [(K k, V k)] := by simp [lst, List.range_succ]
theorem two_i64 (x y : Int) : ∀ u ∈ [Value.int .i64 x, Value.int .i64 y], u.oneCell' = true := by intro u hu; simp at hu; rcases hu with rfl | rfl <;> rfl
end Go.Proofs.Ytldnfiadafmomaa
