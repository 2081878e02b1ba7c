/- spec.PushVersion. -/
import Derived.Test.YtjdodbiphijjgaaGreatQVt
import Derived.Test.YtjdodbiphijjgaaGreatQVm
import Derived.Deep.DeepCutAuto
namespace Go.Proofs.YtjdodbiphijjgaaGreat
open Go.RowKit Go.Deep
set_option linter.unusedVariables false
set_option maxRecDepth 20000

/-- What a push answers: its code, how many versions, which. -/
def pvC (n : Nat) (R : Nat → Vr) (x o : Int) (g : Bool) (v : Int) : Int :=
  if avC n R x o = 0 then (if inB v 0 9999 = true then (if (g && v != 0) = true then 1 else (if mwC n R x o = 0 then (if fop n R = true then 0 else (if n = 12 then 2 else 0)) else mwC n R x o)) else 3) else avC n R x o
def pvN (n : Nat) (R : Nat → Vr) (x o : Int) (g : Bool) (v : Int) : Nat := if pvC n R x o g v = 0 then (if fop n R = true then n else n + 1) else 0
def pvS (n : Nat) (R : Nat → Vr) (o : Int) (g : Bool) (v : Int) : Nat → Vr := if fop n R = true then pxA R ⟨o, 0, g, v⟩ else pxC R ⟨o, 0, g, v⟩
theorem mw_good {n : Nat} {R : Nat → Vr} {x o : Int} (ha : avC n R x o = 0) (h : mwC n R x o = 0) : o ≠ 0 ∧ n ≤ 12 ∧ (fop n R = true → 0 < n ∧ wrt n R = o) ∧ (fop n R = false → wrt n R ≠ o) := by
  have ho : o ≠ 0 := by
    intro e
    unfold mwC at h
    rw [if_pos ha, if_pos e] at h
    omega
  have hm : mayB n R x o = true := by
    unfold mwC at h
    rw [if_pos ha, if_neg ho] at h
    by_cases h9 : mayB n R x o = true
    · exact h9
    · rw [if_neg h9] at h; omega
  refine ⟨ho, avC_good ha, fun hf => ?_, fun hf => ?_⟩
  · have ⟨h1, h2⟩ : 0 < n ∧ (R 0).a = 0 := by simpa [fop] using hf
    refine ⟨h1, ?_⟩
    have h3 : ¬ n = 0 := by omega
    have : (R 0).t = o := by simpa [mayB, h2, h3] using hm
    exact (if_pos ⟨h1, h2⟩).trans this
  · rw [wrt_shut hf]; exact fun e => ho e.symm
theorem cres_end1 {w w3 : World} {lo m : Nat} {a : Option Addr} {S : Nat → Vr} (hb : Below w.heap.size w w3) (hl : w.heap.size + 1 < lo) (ho : Own4 w3 lo w3.heap.size a m S) (u0 u1 : Value) :
    Below w.heap.size w ((w3.setCell ⟨w.heap.size + 1, 0, none⟩ u0).setCell ⟨w.heap.size + 1, 1, none⟩ u1) ∧
      Own4 ((w3.setCell ⟨w.heap.size + 1, 0, none⟩ u0).setCell ⟨w.heap.size + 1, 1, none⟩ u1) w.heap.size ((w3.setCell ⟨w.heap.size + 1, 0, none⟩ u0).setCell ⟨w.heap.size + 1, 1, none⟩ u1).heap.size a m S := by
  refine ⟨(hb.setCell (p := ⟨w.heap.size + 1, 0, none⟩) (Nat.le_succ _) _).setCell (p := ⟨w.heap.size + 1, 1, none⟩) (Nat.le_succ _) _, ?_⟩
  have hw : Writes (w.heap.size + 1) (w.heap.size + 2) w3 ((w3.setCell ⟨w.heap.size + 1, 0, none⟩ u0).setCell ⟨w.heap.size + 1, 1, none⟩ u1) :=
    ((Writes.refl _ _ _).setCell (p := ⟨w.heap.size + 1, 0, none⟩) (Nat.le_refl _) (Nat.lt_succ_self _) _).setCell (p := ⟨w.heap.size + 1, 1, none⟩) (Nat.le_refl _) (Nat.lt_succ_self _) _
  exact (ho.writes hw (.inr (by omega))).wide (by omega) hw.size (Nat.le_refl _)
end Go.Proofs.YtjdodbiphijjgaaGreat
