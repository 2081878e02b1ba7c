/- Marks in whole disks and in answers that are disks; two answers that hold the same. -/
import Derived.Test.YtnplheilojhpmaaGreatQDm
namespace Go.Proofs.YtnplheilojhpmaaGreat
open Go.RowKit Go.Deep
set_option linter.unusedVariables false
set_option maxRecDepth 20000

/-- A disk with marks from m on. -/
def mD (m : Int) (D : Dk) : Dk := ⟨D.n, D.L, mZ m D.L, D.m, mP (m + sumL D.L D.n) D.M, mT (m + sumL D.L D.n) D.M, D.M, mY (m + sumL D.L D.n) D.M⟩
/-- How many marks a disk takes. -/
def tot (D : Dk) : Nat := sumL D.L D.n + s2 D.M D.m
theorem tot_le {D : Dk} (h : Small D) : tot D ≤ 4194304 := by
  have := s2_eq D.M D.m
  have h1 := h.s
  have h2 := h.t
  have h3 := h.m
  unfold tot; omega
theorem OwnD.mk' {w : World} {lo hi l1 h1 l2 h2 : Nat} {a a' : Option Addr} {D : Dk} (e0 : hi ≤ w.heap.size) (e1 : lo ≤ l1) (e2 : h1 ≤ hi) (e3 : lo ≤ l2) (e4 : h2 ≤ hi) (e5 : h1 ≤ l2 ∨ h2 ≤ l1) (hp : OwnP w l1 h1 a D.n D.L D.Z) (hl : OwnL w l2 h2 a' D.m D.P D.T D.M D.Y) : OwnD w lo hi a a' D :=
  ⟨e0, l1, h1, l2, h2, e1, e2, e3, e4, e5, hp, hl⟩
theorem Writes.wide {lo hi lo' hi' : Nat} {w w' : World} (h : Writes lo hi w w') (e1 : lo' ≤ lo) (e2 : hi ≤ hi') : Writes lo' hi' w w' :=
  ⟨h.os, h.tape, h.output, h.size, fun k hk hd => h.block k hk (by omega)⟩
end Go.Proofs.YtnplheilojhpmaaGreat
