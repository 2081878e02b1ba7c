/- spec.CommitChain. -/
import Derived.Test.YtblhnhmcdbfhiaaVj
namespace Go.Proofs.Ytblhnhmcdbfhiaa
open Go.RowKit Go.Deep
set_option linter.unusedVariables false
set_option maxRecDepth 20000

def coG (n : Nat) (R : Nat → Vr) (y : Int) : Bool := decide (1 < n) && decide (y ≤ (R 1).a)
def coC (n : Nat) (R : Nat → Vr) (x y : Int) : Int := if chF n R = 0 then (if (inB x 1 999 && inB y 1 1000000) = true then (if fob n R x = true then (if coG n R y = true then 1 else 0) else 4) else 3) else chF n R
def coN (n : Nat) (R : Nat → Vr) (x y : Int) : Nat := if coC n R x y = 0 then n else 0
def coS (R : Nat → Vr) (y : Int) (i : Nat) : Vr := if i = 0 then ⟨(R 0).t, y, (R 0).g, (R 0).v⟩ else R i
theorem row4_at {w : World} {b off n : Nat} {R : Nat → Vr} {y : Int} (hp : 0 < n) (h : Row4 w b off n R) : Row4 (w.setCell ⟨b, off + 1, none⟩ (.int .i64 y)) b off n (coS R y) := by
  refine ⟨fun i hi => ?_, fun i => by rw [World.frozen?_setCell]; exact h.2 i⟩
  obtain ⟨h0, h1, h2, h3⟩ := h.1 i hi
  by_cases e : i = 0
  · subst e
    rw [show coS R y 0 = ⟨(R 0).t, y, (R 0).g, (R 0).v⟩ from rfl]
    rw [Nat.zero_mul, Nat.add_zero] at *
    exact ⟨by rw [setO (by omega)]; exact h0, setS h1, by rw [setO (by omega)]; exact h2, by rw [setO (by omega)]; exact h3⟩
  · rw [show coS R y i = R i from if_neg e]
    exact ⟨by rw [setO (by omega)]; exact h0, by rw [setO (by omega)]; exact h1, by rw [setO (by omega)]; exact h2, by rw [setO (by omega)]; exact h3⟩
theorem own4_some {w : World} {lo hi n : Nat} {a : Option Addr} {R : Nat → Vr} (h : Own4 w lo hi a n R) (hp : 0 < n) : ∃ b off, a = some ⟨b, off, none⟩ ∧ lo ≤ b ∧ b < hi ∧ hi ≤ w.heap.size ∧ Row4 w b off n R := by
  obtain ⟨h0, h1 | ⟨b, off, ha, h2, h3, h4⟩⟩ := h
  · omega
  · exact ⟨b, off, ha, h2, h3, h0, h4⟩
end Go.Proofs.Ytblhnhmcdbfhiaa
