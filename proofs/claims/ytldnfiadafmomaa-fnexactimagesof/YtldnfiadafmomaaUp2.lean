/- impl.UnpackPage. -/
import Derived.Test.YtldnfiadafmomaaUp
import Derived.Test.YtldnfiadafmomaaPk2
namespace Go.Proofs.Ytldnfiadafmomaa
open Go.RowKit Go.Deep
set_option linter.unusedVariables false
set_option maxRecDepth 20000

def zL (z : Nat → Int) (n : Nat) : List Int := (List.range n).map z
theorem zL_len (z : Nat → Int) (n : Nat) : (zL z n).length = n := by simp [zL]
theorem zL_get (z : Nat → Int) (n i : Nat) (h : i < n) : (zL z n).getD i 0 = z i := by simp [zL, h]
theorem zL_byt {z : Nat → Int} {n : Nat} (h : Byt n z) : ∀ x ∈ zL z n, 0 ≤ x ∧ x ≤ 255 := fun x hx => by
  simp only [zL, List.mem_map, List.mem_range] at hx
  obtain ⟨i, hi, rfl⟩ := hx
  exact h i hi
/-- The page that 48 bytes tell, packed again. -/
def again (z : Nat → Int) : List Int := pgb (num z 0 1) (num z 1 4) (rpN z) (rpK z) (rpV z)
def againF (z : Nat → Int) : Int := pf (num z 0 1) (num z 1 4) (rpN z) (rpK z) (rpV z)
/-- The code of UnpackPage. -/
def upc (z : Nat → Int) (n : Nat) : Int := if n ≠ 48 then 1 else if num z 46 2 ≠ sumB z 46 then 6 else if againF z = 0 ∧ again z = zL z 48 then 0 else 5
/-- An answer that is a page, or a code. -/
def PRes (c idn lsn : Int) (n : Nat) (K V : Nat → Int) (w : World) (e : Ending) (w' : World) : Prop :=
  ∃ a cap, e = .returned (.agg #[.int .i64 c, .int .i64 (if c = 0 then idn else 0), .int .i64 (if c = 0 then lsn else 0), .slice a (if c = 0 then n else 0) cap]) ∧ Below w.heap.size w w' ∧ Own w' w.heap.size w'.heap.size a (if c = 0 then n else 0) K V
theorem pres_bad {c idn lsn : Int} {n : Nat} {K V : Nat → Int} {w w' : World} (hb : Below w.heap.size w w') (hc : c ≠ 0) : PRes c idn lsn n K V w (.returned (.agg #[.int .i64 c, .int .i64 0, .int .i64 0, .slice none 0 0])) w' := by
  rw [PRes]
  simp only [if_neg hc]
  exact ⟨none, 0, rfl, hb, Nat.le_refl _, .inl rfl⟩
theorem pres_ok {c idn lsn : Int} {n : Nat} {K V : Nat → Int} {w wq w' : World} {a : Option Addr} {cap lo hi : Nat} (hc : c = 0) (hB : Below w.heap.size w wq) (hlo : w.heap.size + 1 ≤ lo) (ho : Own wq lo hi a n K V) (hw : Writes w.heap.size (w.heap.size + 1) wq w') (hs : w'.heap.size = wq.heap.size) :
    PRes c idn lsn n K V w (.returned (.agg #[.int .i64 0, .int .i64 idn, .int .i64 lsn, .slice a n cap])) w' := by
  rw [PRes, hc]
  simp only [if_true]
  refine ⟨a, cap, rfl, Writes.below hB hw (Nat.le_refl _), ?_⟩
  have h0 := ho.1
  rw [hs]
  exact (ho.writes hw (.inr hlo)).wide (by omega) h0 (by omega)
theorem rpN_le (z : Nat → Int) : rpN z ≤ 12 := by unfold rpN; split <;> omega
theorem pgb_byt (idn lsn : Int) (n : Nat) (K V : Nat → Int) : BytL (pgb idn lsn n K V) := (fld_byt _ _ _ _ _).app (nb_byt _ _)
end Go.Proofs.Ytldnfiadafmomaa
