/- Marks in whole disks and in answers that are disks; two answers that hold the same. -/
import Derived.Test.YtldnfiadafmomaaDm
namespace Go.Proofs.Ytldnfiadafmomaa
open Go.RowKit Go.Deep
set_option linter.unusedVariables false
set_option maxRecDepth 20000

/-- A disk with marks from m on. -/
def mD (m : Int) (D : Dk) : Dk := ⟨D.n, D.L, mZ m D.L, D.m, mP (m + sumL D.L D.n) D.M, mT (m + sumL D.L D.n) D.M, D.M, mY (m + sumL D.L D.n) D.M⟩
/-- How many marks a disk takes. -/
def tot (D : Dk) : Nat := sumL D.L D.n + s2 D.M D.m
theorem tot_le {D : Dk} (h : Small D) : tot D ≤ 4194304 := by
  have := s2_eq D.M D.m
  have h1 := h.s
  have h2 := h.t
  have h3 := h.m
  unfold tot; omega
theorem OwnD.mk' {w : World} {lo hi l1 h1 l2 h2 : Nat} {a a' : Option Addr} {D : Dk} (e0 : hi ≤ w.heap.size) (e1 : lo ≤ l1) (e2 : h1 ≤ hi) (e3 : lo ≤ l2) (e4 : h2 ≤ hi) (e5 : h1 ≤ l2 ∨ h2 ≤ l1) (hp : OwnP w l1 h1 a D.n D.L D.Z) (hl : OwnL w l2 h2 a' D.m D.P D.T D.M D.Y) : OwnD w lo hi a a' D :=
  ⟨e0, l1, h1, l2, h2, e1, e2, e3, e4, e5, hp, hl⟩
theorem Writes.wide {lo hi lo' hi' : Nat} {w w' : World} (h : Writes lo hi w w') (e1 : lo' ≤ lo) (e2 : hi ≤ hi') : Writes lo' hi' w w' :=
  ⟨h.os, h.tape, h.output, h.size, fun k hk hd => h.block k hk (by omega)⟩
set_option maxHeartbeats 400000 in
theorem markDisk_any (D : Dk) (a a' : Option Addr) (cap cap' lo hi : Nat) (m : Int) (w : World) (hs : Small D) (hm1 : 0 ≤ m) (hm2 : m ≤ 1048576) (h : OwnD w lo hi a a' D) :
    Calls Try.prog 10 #[.agg #[.slice a D.n cap, .slice a' D.m cap'], .int .i64 m] w fun e w' => e = .returned (.int .i64 (m + tot D)) ∧ Writes lo hi w w' ∧ OwnD w' lo hi a a' (mD m D) := by
  have HS : Hid (Small D) := hs
  have hsum := hs.s
  unfold tot mD
  obtain ⟨n, L, Z, n', P, T, M, Y⟩ := D
  obtain ⟨h0, l1, h1, l2, h2, e1, e2, e3, e4, e5, hp, hl⟩ := h
  dsimp only at *
  have HP : Hid (OwnP w l1 h1 a n L Z) := hp
  have HL : Hid (OwnL w l2 h2 a' n' P T M Y) := hl
  clear hs hp hl
  go_enter Try.func10, Try.ntmps10
  go_wp2_with fail
  refine (markByteSS_any n L Z a cap l1 h1 m _ HS.out.n HS.out.s hm1 (by omega) (HP.out.below (below_new _ _))).mono ?_
  rintro e w1 ⟨rfl, hw1, ho1⟩
  have HW : Hid (Writes l1 h1 w w1) := (Writes.of_below (below_new _ _)).trans hw1
  have hlt : h1 ≤ w.heap.size := HP.out.1
  have q1 : w1.cell? ⟨w.heap.size, 1, none⟩ = some (.slice a' n' cap') := by
    rw [hw1.cell (by simp) (by omega) _]; simp [go_sem]
  have HO1 : Hid (OwnP w1 l1 h1 a n L (mZ m L)) := ho1
  have hz1 : w.heap.size ≤ w1.heap.size := HW.out.size
  clear hw1 ho1
  go_wp2_with fail
  refine (markLooseS_any n' P T M Y a' cap' l2 h2 (m + sumL L n) _ HS.out.m HS.out.t (by omega) (by omega) (HL.out.writes HW.out (by omega))).mono ?_
  rintro e w2 ⟨rfl, hw2, ho2⟩
  have hz2 : w1.heap.size ≤ w2.heap.size := hw2.size
  go_wp2_with fail
  go_ret
  refine ⟨ret_int (by rw [Int.natCast_add]; omega), (HW.out.wide e1 e2).trans (hw2.wide e3 e4), ?_⟩
  exact OwnD.mk' (by omega) e1 e2 e3 e4 e5 (HO1.out.writes hw2 (by omega)) ho2
end Go.Proofs.Ytldnfiadafmomaa
