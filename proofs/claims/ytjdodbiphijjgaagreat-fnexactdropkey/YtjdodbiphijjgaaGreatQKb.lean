/- What a view reads of a key: the model. -/
import Derived.Test.YtjdodbiphijjgaaGreatQKa
import Derived.Test.YtjdodbiphijjgaaGreatQVm
namespace Go.Proofs.YtjdodbiphijjgaaGreat
open Go.RowKit Go.Deep
set_option linter.unusedVariables false
set_option maxRecDepth 20000

/-- Can a view read a key, and what? -/
def rdB (q : Nat) (R : Nat → Rw) (x o key : Int) : Bool := decide (0 ≤ fR q R key) && told (R (fR q R key).toNat).n (R (fR q R key).toNat).U x o
def rdV (q : Nat) (R : Nat → Rw) (x o key : Int) : Int := if rdB q R x o key = true then ((R (fR q R key).toNat).U (pS (R (fR q R key).toNat).n (R (fR q R key).toNat).U x o)).v else 0
theorem fR_cases (q : Nat) (R : Nat → Rw) (key : Int) : fR q R key = -1 ∨ ∃ j, j < q ∧ fR q R key = (j : Int) := by
  rcases fi_cases (fun i => (R i).key == key) q with ⟨h1, -⟩ | ⟨j, h1, h2, -⟩
  · exact .inl h1
  · exact .inr ⟨j, h1, h2⟩
theorem rd_none {q : Nat} {R : Nat → Rw} {x o key : Int} (h : fR q R key = -1) : rdB q R x o key = false ∧ rdV q R x o key = 0 := by
  have e : rdB q R x o key = false := by simp [rdB, h]
  exact ⟨e, if_neg (by simp [e])⟩
theorem rd_some {q : Nat} {R : Nat → Rw} {x o key : Int} {j : Nat} (h : fR q R key = (j : Int)) : rdB q R x o key = told (R j).n (R j).U x o ∧ rdV q R x o key = if told (R j).n (R j).U x o = true then ((R j).U (pS (R j).n (R j).U x o)).v else 0 := by
  have e : rdB q R x o key = told (R j).n (R j).U x o := by
    simp only [rdB, h, Int.toNat_natCast]
    rw [show decide ((0 : Int) ≤ (j : Int)) = true by simp]; rfl
  refine ⟨e, ?_⟩
  unfold rdV
  rw [e, h, Int.toNat_natCast]
theorem l6View_any (t : Tx) (bb o : Nat) (ai : Option Addr) (ci : Nat) (w : World) (hC : CTx w bb o t ai ci) :
    Calls Tryz.prog 73 #[.pointer (some ⟨bb, o, none⟩)] w fun e w' => e = .returned (.agg #[.int .i64 t.am, .int .i64 t.id]) ∧ Below w.heap.size w w' := by
  obtain ⟨x0, x1, -⟩ := hC
  have y0 := fun ob : Obj => cell_alloc x0 ob
  have y1 := fun ob : Obj => cell_alloc x1 ob
  go_enter Tryz.func73, Tryz.ntmps73
  go_wp2_with fail
  go_region
  all_goals
    go_wp2_with fail
    refine bodyPost_ret (v := .agg #[.int .i64 t.am, .int .i64 t.id]) (by simp [results, Tryz.results73, go_sem]) rfl ⟨rfl, ?_⟩
    repeat (first | with_reducible exact Below.refl _ _ | with_reducible apply Below.drew | with_reducible refine Below.setCell ?_ (by first | omega | (simp <;> omega)) _ | with_reducible refine Below.alloc ?_ (by first | omega | (simp <;> omega)) _)
end Go.Proofs.YtjdodbiphijjgaaGreat
