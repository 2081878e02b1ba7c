/- impl.UnpackPage. -/
import Derived.Test.YtannmobmmnoegaaGreatQPk
import Derived.Test.YtannmobmmnoegaaGreatQDk
namespace Go.Proofs.YtannmobmmnoegaaGreat
open Go.RowKit Go.Deep
set_option linter.unusedVariables false
set_option maxRecDepth 20000

theorem num_shift (z : Nat → Int) (lo : Nat) : ∀ m, num (fun j => z (lo + j)) 0 m = num z lo m
  | 0 => rfl
  | m + 1 => by simp only [num, num_shift z lo m, Nat.zero_add]
theorem readNum (lo m : Nat) (z : Nat → Int) (b off cap : Nat) (w : World) (hm : m ≤ 4) (hz : ∀ j, j < m → 0 ≤ z (lo + j) ∧ z (lo + j) ≤ 255) (hc : ∀ i, i < m → w.cell? ⟨b, off + i, none⟩ = some (.int .u8 (z (lo + i)))) :
    Calls Tryz.prog 222 #[.slice (some ⟨b, off, none⟩) m cap] w fun e w' => e = .returned (.int .i64 (num z lo m)) ∧ w' = w := by
  have h := readNumber_some m (fun j => z (lo + j)) b off cap w hm hz hc
  rw [num_shift] at h
  exact h
/-- So many bytes from a place on. -/
def BA (w : World) (b off n : Nat) (z : Nat → Int) : Prop := ∀ i, i < n → w.cell? ⟨b, off + i, none⟩ = some (.int .u8 (z i))
theorem BA.alloc {w : World} {b off n : Nat} {z : Nat → Int} (h : BA w b off n z) (o : Obj) : BA (w.alloc o) b off n z := fun i hi => cell_alloc (h i hi) o
theorem BA.below {w w' : World} {b off n : Nat} {z : Nat → Int} (h : BA w b off n z) (hb : Below w.heap.size w w') : BA w' b off n z := fun i hi => cell_below (h i hi) hb
theorem readNumG {off m cap : Nat} (z : Nat → Int) (b o n : Nat) (w : World) (h : BA w b o n z) (hz : Byt n z) (hm : m ≤ 4) (ho : o ≤ off) (ho2 : off + m ≤ o + n) :
    Calls Tryz.prog 222 #[.slice (some ⟨b, off, none⟩) m cap] w fun e w' => e = .returned (.int .i64 (num z (off - o) m)) ∧ w' = w :=
  readNum (off - o) m z b off cap w hm (fun j hj => hz _ (by omega)) fun i hi => by
    have := h (off - o + i) (by omega)
    rwa [show o + (off - o + i) = off + i by omega] at this
def zL (z : Nat → Int) (n : Nat) : List Int := (List.range n).map z
theorem zL_len (z : Nat → Int) (n : Nat) : (zL z n).length = n := by simp [zL]
theorem zL_get (z : Nat → Int) (n i : Nat) (h : i < n) : (zL z n).getD i 0 = z i := by simp [zL, h]
theorem zL_byt {z : Nat → Int} {n : Nat} (h : Byt n z) : ∀ x ∈ zL z n, 0 ≤ x ∧ x ≤ 255 := fun x hx => by
  simp only [zL, List.mem_map, List.mem_range] at hx
  obtain ⟨i, hi, rfl⟩ := hx
  exact h i hi
end Go.Proofs.YtannmobmmnoegaaGreat
