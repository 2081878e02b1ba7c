/- Both RollChains. -/
import Derived.Test.YtdkpchcmjamceaaVi
namespace Go.Proofs.Ytdkpchcmjamceaa
open Go.RowKit Go.Deep
set_option linter.unusedVariables false
set_option maxRecDepth 20000

/-- An answer that is a chain. -/
def CRes (c : Int) (m : Nat) (S : Nat → Vr) (w : World) (e : Ending) (w' : World) : Prop := ∃ a cap, e = .returned (.agg #[.int .i64 c, .slice a m cap]) ∧ Below w.heap.size w w' ∧ Own4 w' w.heap.size w'.heap.size a m S
/-- What lies behind the store of an answer into its box. -/
theorem cres_end {w w3 : World} {lo m : Nat} {a : Option Addr} {S : Nat → Vr} (hb : Below w.heap.size w w3) (hl : w.heap.size < lo) (ho : Own4 w3 lo w3.heap.size a m S) (u0 u1 : Value) :
    Below w.heap.size w ((w3.setCell ⟨w.heap.size, 0, none⟩ u0).setCell ⟨w.heap.size, 1, none⟩ u1) ∧
      Own4 ((w3.setCell ⟨w.heap.size, 0, none⟩ u0).setCell ⟨w.heap.size, 1, none⟩ u1) w.heap.size ((w3.setCell ⟨w.heap.size, 0, none⟩ u0).setCell ⟨w.heap.size, 1, none⟩ u1).heap.size a m S := by
  refine ⟨(hb.setCell (p := ⟨w.heap.size, 0, none⟩) (Nat.le_refl _) _).setCell (p := ⟨w.heap.size, 1, none⟩) (Nat.le_refl _) _, ?_⟩
  have hw : Writes w.heap.size (w.heap.size + 1) w3 ((w3.setCell ⟨w.heap.size, 0, none⟩ u0).setCell ⟨w.heap.size, 1, none⟩ u1) :=
    ((Writes.refl _ _ _).setCell (p := ⟨w.heap.size, 0, none⟩) (Nat.le_refl _) (Nat.lt_succ_self _) _).setCell (p := ⟨w.heap.size, 1, none⟩) (Nat.le_refl _) (Nat.lt_succ_self _) _
  exact (ho.writes hw (.inr (by omega))).wide (by omega) hw.size (Nat.le_refl _)
theorem own4_none {w : World} {lo : Nat} {a : Option Addr} {S : Nat → Vr} : Own4 w lo w.heap.size a 0 S := ⟨Nat.le_refl _, .inl rfl⟩
def roC (n : Nat) (R : Nat → Vr) (x : Int) : Int := if chF n R = 0 then (if inB x 1 999 = true then (if fob n R x = true then 0 else 4) else 3) else chF n R
def roN (n : Nat) (R : Nat → Vr) (x : Int) : Nat := if roC n R x = 0 then n - 1 else 0
theorem VersAt.rest {w : World} {b off n : Nat} {R : Nat → Vr} (h : VersAt w (some ⟨b, off, none⟩) n R) : VersAt w (some ⟨b, off + 4, none⟩) (n - 1) (fun i => R (i + 1)) := by
  rcases h with h | ⟨b', off', e, hl, hc⟩
  · exact .inl (by omega)
  · simp only [Option.some.injEq, Addr.mk.injEq] at e
    obtain ⟨rfl, rfl, -⟩ := e
    refine .inr ⟨b, off + 4, rfl, hl, fun i hi => ?_⟩
    have := hc (i + 1) (by omega)
    rw [show off + (i + 1) * 4 = off + 4 + i * 4 by omega] at this
    exact this
end Go.Proofs.Ytdkpchcmjamceaa
