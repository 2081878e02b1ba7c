/- Stores in sets of blocks of their own (a colour for each list): marked, held; answers that are stores. -/
import Derived.Test.YtnplheilojhpmaaGreatQZsa
import Derived.Test.YtnplheilojhpmaaGreatQZpb
import Derived.Test.YtnplheilojhpmaaGreatQDn
import Derived.Test.YtnplheilojhpmaaGreatQLh
import Derived.Test.YtnplheilojhpmaaGreatQLi
import Derived.Test.YtnplheilojhpmaaGreatQZfc
namespace Go.Proofs.YtnplheilojhpmaaGreat
open Go.ChangeShapes Go.WideShapes Go.ChangeAt Go.RowKit Go.Deep Go.Joins
set_option linter.unusedVariables false
set_option maxRecDepth 20000

/-- A store whose lists lie in blocks of colours of their own, all from lo on below hi. -/
def OwnS (w : World) (lo hi : Nat) (a0 a1 a2 a3 a4 a5 a6 : Option Addr) (t : Sto) : Prop :=
  hi ≤ w.heap.size ∧ ∃ col : Nat → Nat, (∀ x, col x ≠ 0 → lo ≤ x ∧ x < hi) ∧ OwnPgP w (fun x => col x = 1) a0 t.pn t.pT ∧ (∃ l h, (∀ x, l ≤ x → x < h → col x = 2) ∧ OwnD w l h a1 a2 t.d) ∧ (∃ l h, (∀ x, l ≤ x → x < h → col x = 3) ∧ OwnG w l h a3 a4 t.g) ∧ (∃ l h, (∀ x, l ≤ x → x < h → col x = 4) ∧ Own w l h a5 t.hn t.hK t.hV) ∧ (∃ l h, (∀ x, l ≤ x → x < h → col x = 5) ∧ OwnI w l h a6 t.on t.oF)
theorem OwnS.at {w : World} {lo hi : Nat} {a0 a1 a2 a3 a4 a5 a6 : Option Addr} {t : Sto} (h : OwnS w lo hi a0 a1 a2 a3 a4 a5 a6 t) : InSt w a0 a1 a2 a3 a4 a5 a6 t := by
  obtain ⟨_, col, _, h1, ⟨_, _, _, h2⟩, ⟨_, _, _, h3⟩, ⟨_, _, _, h4⟩, ⟨_, _, _, h5⟩⟩ := h
  exact ⟨h1.at, h2.at, h3.at, h4.at, h5.at⟩
theorem OwnS.keep {w w' : World} {lo hi : Nat} {a0 a1 a2 a3 a4 a5 a6 : Option Addr} {t : Sto} (h : OwnS w lo hi a0 a1 a2 a3 a4 a5 a6 t) (hs : w.heap.size ≤ w'.heap.size) (hk : ∀ x, lo ≤ x → x < hi → x < w.heap.size → w'.heap[x]? = w.heap[x]?) : OwnS w' lo hi a0 a1 a2 a3 a4 a5 a6 t := by
  obtain ⟨h0, col, hc, h1, ⟨l2, u2, g2, h2⟩, ⟨l3, u3, g3, h3⟩, ⟨l4, u4, g4, h4⟩, ⟨l5, u5, g5, h5⟩⟩ := h
  have hq : ∀ x, col x ≠ 0 → x < w.heap.size → w'.heap[x]? = w.heap[x]? := fun x hx hl => hk x (hc x hx).1 (hc x hx).2 hl
  refine ⟨Nat.le_trans h0 hs, col, hc, h1.keep hs fun x hx hl => hq x (by rw [hx]; omega) hl, ⟨l2, u2, g2, h2.keep hs fun x x1 x2 x3 => hq x (by rw [g2 x x1 x2]; omega) x3⟩, ⟨l3, u3, g3, h3.keep hs fun x x1 x2 x3 => hq x (by rw [g3 x x1 x2]; omega) x3⟩, ⟨l4, u4, g4, h4.keep hs fun x x1 x2 x3 => hq x (by rw [g4 x x1 x2]; omega) x3⟩, ⟨l5, u5, g5, h5.keep hs fun x x1 x2 x3 => hq x (by rw [g5 x x1 x2]; omega) x3⟩⟩
theorem OwnS.below {w w' : World} {lo hi : Nat} {a0 a1 a2 a3 a4 a5 a6 : Option Addr} {t : Sto} (h : OwnS w lo hi a0 a1 a2 a3 a4 a5 a6 t) (hb : Below w.heap.size w w') : OwnS w' lo hi a0 a1 a2 a3 a4 a5 a6 t :=
  h.keep hb.size fun x x1 x2 x3 => hb.block x x3
/-- A store with marks from m on. -/
def mS (m : Int) (t : Sto) : Sto := ⟨t.nx, t.pn, mPg m t.pT, mD (m + sPg t.pT t.pn) t.d, mG (m + sPg t.pT t.pn + tot t.d) t.g, t.hn, mK (m + sPg t.pT t.pn + tot t.d + (t.g.n1 + t.g.n2 : Nat)), mK (m + sPg t.pT t.pn + tot t.d + (t.g.n1 + t.g.n2 : Nat) + 1), t.on, ik (m + sPg t.pT t.pn + tot t.d + (t.g.n1 + t.g.n2 : Nat) + t.hn * 2)⟩
def totS (t : Sto) : Nat := sPg t.pT t.pn + tot t.d + (t.g.n1 + t.g.n2) + t.hn * 2 + t.on
end Go.Proofs.YtnplheilojhpmaaGreat
