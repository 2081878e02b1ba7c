/- The laws' copies of loose writes and of disks. -/
import Derived.Test.YtiabblmjgfkijaaCp
namespace Go.Proofs.Ytiabblmjgfkijaa
open Go.RowKit Go.Deep
set_option linter.unusedVariables false
set_option maxRecDepth 20000

/-- The cells of loose writes. -/
def lv (P T : Nat → Int) (S : Nat → Value) (j : Nat) : Value := if j % 3 = 0 then .int .i64 (P (j / 3)) else if j % 3 = 1 then .int .i64 (T (j / 3)) else S (j / 3)
theorem lv0 (P T : Nat → Int) (S : Nat → Value) (i : Nat) : lv P T S (i * 3) = .int .i64 (P i) := by unfold lv; rw [if_pos (by omega)]; congr 2; omega
theorem lv1 (P T : Nat → Int) (S : Nat → Value) (i : Nat) : lv P T S (i * 3 + 1) = .int .i64 (T i) := by unfold lv; rw [if_neg (by omega), if_pos (by omega)]; congr 2; omega
theorem lv2 (P T : Nat → Int) (S : Nat → Value) (i : Nat) : lv P T S (i * 3 + 2) = S i := by unfold lv; rw [if_neg (by omega), if_neg (by omega)]; congr 1; omega
/-- Three new blocks, then what they hold is turned: block B stays. -/
theorem row_far {w w' : World} {lo hi B n : Nat} {f : Nat → Value} {t : TypeId} (h : w.rowIs B t n f) (hw : Writes lo hi w w') (hB : hi ≤ B) : w'.rowIs B t n f := h.of_block (hw.block _ h.lt (.inr hB))
/-- What a disk holds. -/
structure Dk where
  n : Nat
  L : Nat → Nat
  Z : Nat → Nat → Int
  m : Nat
  P : Nat → Int
  T : Nat → Int
  M : Nat → Nat
  Y : Nat → Nat → Int
def DiskAt (w : World) (a a' : Option Addr) (D : Dk) : Prop := PagesAt w a D.n D.L D.Z ∧ LoosesAt w a' D.m D.P D.T D.M D.Y
theorem DiskAt.below {w w' : World} {a a' : Option Addr} {D : Dk} (h : DiskAt w a a' D) (hb : Below w.heap.size w w') : DiskAt w' a a' D := ⟨h.1.below hb, h.2.below hb⟩
/-- A disk in blocks of its own. -/
def OwnD (w : World) (lo hi : Nat) (a a' : Option Addr) (D : Dk) : Prop :=
  hi ≤ w.heap.size ∧ ∃ l1 h1 l2 h2, lo ≤ l1 ∧ h1 ≤ hi ∧ lo ≤ l2 ∧ h2 ≤ hi ∧ (h1 ≤ l2 ∨ h2 ≤ l1) ∧ OwnP w l1 h1 a D.n D.L D.Z ∧ OwnL w l2 h2 a' D.m D.P D.T D.M D.Y
theorem OwnD.at {w : World} {lo hi : Nat} {a a' : Option Addr} {D : Dk} (h : OwnD w lo hi a a' D) : DiskAt w a a' D := by
  obtain ⟨_, l1, h1, l2, h2, _, _, _, _, _, hp, hl⟩ := h
  exact ⟨hp.at, hl.at⟩
theorem OwnD.writes {w w' : World} {lo hi lo' hi' : Nat} {a a' : Option Addr} {D : Dk} (h : OwnD w lo hi a a' D) (hw : Writes lo' hi' w w') (hd : hi ≤ lo' ∨ hi' ≤ lo) : OwnD w' lo hi a a' D := by
  obtain ⟨h0, l1, h1, l2, h2, k1, k2, k3, k4, k5, hp, hl⟩ := h
  exact ⟨Nat.le_trans h0 hw.size, l1, h1, l2, h2, k1, k2, k3, k4, k5, hp.writes hw (by omega), hl.writes hw (by omega)⟩
theorem OwnD.below {w w' : World} {lo hi : Nat} {a a' : Option Addr} {D : Dk} (h : OwnD w lo hi a a' D) (hb : Below w.heap.size w w') : OwnD w' lo hi a a' D :=
  h.writes (Writes.of_below (lo := hi) (hi := hi) hb) (.inl (Nat.le_refl _))
theorem OwnD.wide {w : World} {lo hi lo' hi' : Nat} {a a' : Option Addr} {D : Dk} (h : OwnD w lo hi a a' D) (e1 : lo' ≤ lo) (e2 : hi ≤ hi') (e3 : hi' ≤ w.heap.size) : OwnD w lo' hi' a a' D := by
  obtain ⟨h0, l1, h1, l2, h2, k1, k2, k3, k4, k5, hp, hl⟩ := h
  exact ⟨e3, l1, h1, l2, h2, by omega, by omega, by omega, by omega, k5, hp, hl⟩
/-- A disk that is not greater than the laws' bound. -/
structure Small (D : Dk) : Prop where
  n : D.n ≤ 1048576
  m : D.m ≤ 1048576
  L : ∀ i, i < D.n → D.L i ≤ 1048576
  M : ∀ i, i < D.m → D.M i ≤ 1048576
  s : sumL D.L D.n ≤ 1048576
  t : sumL D.M D.m ≤ 1048576
theorem sumL_ge (L : Nat → Nat) : ∀ n i, i < n → L i ≤ sumL L n
  | 0, i, h => by omega
  | n + 1, i, h => by
    by_cases e : i = n
    · subst e; simp [sumL]
    · have := sumL_ge L n i (by omega); simp only [sumL]; omega
theorem small_of {D : Dk} (h : 0 ≤ (1048576 : Int) - D.n - sumL D.L D.n - D.m - sumL D.M D.m) : Small D :=
  ⟨by omega, by omega, fun i hi => by have := sumL_ge D.L D.n i hi; omega, fun i hi => by have := sumL_ge D.M D.m i hi; omega, by omega, by omega⟩
end Go.Proofs.Ytiabblmjgfkijaa
