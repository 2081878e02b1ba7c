/- Engines: sizes, copies, equal, marked, held, opened; answers that are engines. -/
import Derived.Test.YtenglcgkachomaaErb
import Derived.Test.YtenglcgkachomaaEtb
namespace Go.Proofs.Ytenglcgkachomaa
open Go.ChangeShapes Go.WideShapes Go.ChangeAt Go.RowKit Go.Deep Go.Joins
set_option linter.unusedVariables false
set_option maxRecDepth 20000

/-- What an engine holds. -/
structure En where
  nx : Int
  ck : Int
  p : Nat
  T : Nat → Tx
  q : Nat
  R : Nat → Rw
def EngAt (w : World) (a a' : Option Addr) (E : En) : Prop := TxsAt w a E.p E.T ∧ RwsAt w a' E.q E.R
theorem EngAt.below {w w' : World} {a a' : Option Addr} {E : En} (h : EngAt w a a' E) (hb : Below w.heap.size w w') : EngAt w' a a' E := ⟨h.1.below hb, h.2.below hb⟩
/-- An engine in blocks of its own. -/
def OwnE (w : World) (lo hi : Nat) (a a' : Option Addr) (E : En) : Prop :=
  hi ≤ w.heap.size ∧ ∃ l1 h1 l2 h2, lo ≤ l1 ∧ h1 ≤ hi ∧ lo ≤ l2 ∧ h2 ≤ hi ∧ (h1 ≤ l2 ∨ h2 ≤ l1) ∧ OwnTx w l1 h1 a E.p E.T ∧ OwnRw w l2 h2 a' E.q E.R
theorem OwnE.at {w : World} {lo hi : Nat} {a a' : Option Addr} {E : En} (h : OwnE w lo hi a a' E) : EngAt w a a' E := by
  obtain ⟨_, l1, h1, l2, h2, _, _, _, _, _, hp, hl⟩ := h
  exact ⟨hp.at, hl.at⟩
theorem OwnE.writes {w w' : World} {lo hi lo' hi' : Nat} {a a' : Option Addr} {E : En} (h : OwnE w lo hi a a' E) (hw : Writes lo' hi' w w') (hd : hi ≤ lo' ∨ hi' ≤ lo) : OwnE w' lo hi a a' E := by
  obtain ⟨h0, l1, h1, l2, h2, k1, k2, k3, k4, k5, hp, hl⟩ := h
  exact ⟨Nat.le_trans h0 hw.size, l1, h1, l2, h2, k1, k2, k3, k4, k5, hp.writes hw (by omega), hl.writes hw (by omega)⟩
theorem OwnE.below {w w' : World} {lo hi : Nat} {a a' : Option Addr} {E : En} (h : OwnE w lo hi a a' E) (hb : Below w.heap.size w w') : OwnE w' lo hi a a' E :=
  h.writes (Writes.of_below (lo := hi) (hi := hi) hb) (.inl (Nat.le_refl _))
theorem OwnE.wide {w : World} {lo hi lo' hi' : Nat} {a a' : Option Addr} {E : En} (h : OwnE w lo hi a a' E) (e1 : lo' ≤ lo) (e2 : hi ≤ hi') (e3 : hi' ≤ w.heap.size) : OwnE w lo' hi' a a' E := by
  obtain ⟨h0, l1, h1, l2, h2, k1, k2, k3, k4, k5, hp, hl⟩ := h
  exact ⟨e3, l1, h1, l2, h2, by omega, by omega, by omega, by omega, k5, hp, hl⟩
theorem OwnE.mk' {w : World} {lo hi l1 h1 l2 h2 : Nat} {a a' : Option Addr} {E : En} (e0 : hi ≤ w.heap.size) (e1 : lo ≤ l1) (e2 : h1 ≤ hi) (e3 : lo ≤ l2) (e4 : h2 ≤ hi) (e5 : h1 ≤ l2 ∨ h2 ≤ l1) (hp : OwnTx w l1 h1 a E.p E.T) (hl : OwnRw w l2 h2 a' E.q E.R) : OwnE w lo hi a a' E :=
  ⟨e0, l1, h1, l2, h2, e1, e2, e3, e4, e5, hp, hl⟩
/-- An engine that is not greater than the laws' bound. -/
structure SmallE (E : En) : Prop where
  p : E.p ≤ 1048576
  q : E.q ≤ 1048576
  t : ∀ i, i < E.p → (E.T i).n ≤ 1048576
  r : ∀ i, i < E.q → (E.R i).n ≤ 1048576
  st : smTx E.T E.p ≤ 1048576
  sr : smRw E.R E.q ≤ 1048576
theorem smallE_of {E : En} (h : 0 ≤ (1048576 : Int) - E.p - smTx E.T E.p - E.q - smRw E.R E.q) : SmallE E :=
  ⟨by omega, by omega, fun i hi => by have := smf_ge (fun i => (E.T i).n) E.p i hi; unfold smTx at h; omega, fun i hi => by have := smf_ge (fun i => (E.R i).n) E.q i hi; unfold smRw at h; omega, by omega, by omega⟩
theorem Writes.wide2 {lo hi lo' hi' : Nat} {w w' : World} (h : Writes lo hi w w') (e1 : lo' ≤ lo) (e2 : hi ≤ hi') : Writes lo' hi' w w' :=
  ⟨h.os, h.tape, h.output, h.size, fun k hk hd => h.block k hk (by omega)⟩
/-- An engine with marks from m on. -/
def mE (m : Int) (E : En) : En := ⟨E.nx, E.ck, E.p, mTx m E.T, E.q, mRw (m + sTx E.T E.p) E.R⟩
/-- How many marks an engine takes. -/
def totE (E : En) : Nat := sTx E.T E.p + sRw E.R E.q
theorem totE_le {E : En} (h : SmallE E) : totE E ≤ 13631488 := by
  have := sTx_eq E.T E.p
  have := sRw_eq E.R E.q
  have h1 := h.st
  have h2 := h.sr
  have h3 := h.p
  have h4 := h.q
  unfold totE; omega
theorem sTx_le {E : En} (h : SmallE E) : sTx E.T E.p ≤ 8388608 := by
  have := sTx_eq E.T E.p
  have h1 := h.st
  have h3 := h.p
  omega
/-! ### answers that are engines -/
/-! ### opened -/
end Go.Proofs.Ytenglcgkachomaa
