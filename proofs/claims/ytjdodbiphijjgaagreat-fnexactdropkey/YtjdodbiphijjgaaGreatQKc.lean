/- Both ReadKeys. -/
import Derived.Test.YtjdodbiphijjgaaGreatQKb
import Derived.Test.YtjdodbiphijjgaaGreatQKz
namespace Go.Proofs.YtjdodbiphijjgaaGreat
open Go.RowKit Go.Deep
set_option linter.unusedVariables false
set_option maxRecDepth 20000

theorem view_ok {E : En} (h : eF E = 0) {j : Nat} (hj : j < E.p) : vwB (E.T j).am (E.T j).id = true := by
  obtain ⟨h1, h2, h3, -⟩ := eF_good h
  have hi := (tF_good (h3 j hj)).1
  unfold tIn at hi
  simp only [Bool.and_eq_true] at hi
  have a1 := inB_iff.1 hi.1.1.1
  have a2 := inB_iff.1 hi.1.1.2
  unfold vwB
  rw [inB_iff.2 (show 0 ≤ (E.T j).am ∧ (E.T j).am ≤ 1000000 by omega), inB_iff.2 (show 0 ≤ (E.T j).id ∧ (E.T j).id ≤ 999 by omega)]
  rfl
/-! ### the program -/
theorem viewOf_any (t : Tx) (ai : Option Addr) (ci : Nat) (w : World) :
    Calls Tryz.prog 102 #[.agg #[.int .i64 t.id, .int .i64 t.am, .int .i64 t.st, .int .i64 t.dn, .slice ai t.n ci]] w fun e w' => e = .returned (.agg #[.int .i64 t.am, .int .i64 t.id]) ∧ Below w.heap.size w w' := by
  go_enter Tryz.func102, Tryz.ntmps102
  go_wp2_with fail
  refine bodyPost_ret (v := .agg #[.int .i64 t.am, .int .i64 t.id]) (by simp [results, Tryz.results102, go_sem]) rfl ⟨rfl, ?_⟩
  repeat (first | with_reducible exact Below.refl _ _ | with_reducible refine Below.setCell ?_ (by first | omega | (simp <;> omega)) _ | with_reducible refine Below.alloc ?_ (by first | omega | (simp <;> omega)) _)
/-- What SeenIn tells of the chain that was found. -/
theorem seen_rd {E : En} (h0 : eF E = 0) {j : Nat} (hj : j < E.p) {key : Int} {vn : Nat} {vU : Nat → Vr} (h : (fR E.q E.R key = -1 ∧ vn = 0) ∨ ∃ j, j < E.q ∧ fR E.q E.R key = (j : Int) ∧ vn = (E.R j).n ∧ vU = (E.R j).U) :
    (seC vn vU (E.T j).am (E.T j).id = if rdB E.q E.R (E.T j).am (E.T j).id key = true then 0 else 4) ∧ seV vn vU (E.T j).am (E.T j).id = rdV E.q E.R (E.T j).am (E.T j).id key := by
  have hv := view_ok h0 hj
  rcases h with ⟨h1, rfl⟩ | ⟨i, hi, h1, rfl, rfl⟩
  · have ha : avC 0 vU (E.T j).am (E.T j).id = 0 := by
      unfold avC
      rw [if_pos (by rfl), if_pos hv]
    have ht : told 0 vU (E.T j).am (E.T j).id = false := by
      unfold told
      rw [show decide (pS 0 vU (E.T j).am (E.T j).id < 0) = false from decide_eq_false (Nat.not_lt_zero _)]; rfl
    obtain ⟨k1, k2⟩ := rd_none (x := (E.T j).am) (o := (E.T j).id) h1
    rw [k1, k2]
    unfold seC seV
    rw [if_pos ha, if_pos ha, ht]
    exact ⟨rfl, rfl⟩
  · have ha : avC (E.R i).n (E.R i).U (E.T j).am (E.T j).id = 0 := by
      unfold avC
      rw [if_pos (rF_good ((eF_good h0).2.2.2 i hi)).2.2.1, if_pos hv]
    obtain ⟨k1, k2⟩ := rd_some (x := (E.T j).am) (o := (E.T j).id) h1
    rw [k1, k2]
    unfold seC seV
    rw [if_pos ha, if_pos ha]
    exact ⟨rfl, rfl⟩
end Go.Proofs.YtjdodbiphijjgaaGreat
