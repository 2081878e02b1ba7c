/- Stores for reading alone. -/
import Derived.Test.YtaokclhcmgbgnaaGreatQFpa
import Derived.Test.YtaokclhcmgbgnaaGreatQSy2
import Derived.Test.YtaokclhcmgbgnaaGreatQLp
import Derived.Test.YtaokclhcmgbgnaaGreatQSw2
import Derived.Test.YtaokclhcmgbgnaaGreatQZdb
import Derived.Test.YtaokclhcmgbgnaaGreatQZec
namespace Go.Proofs.YtaokclhcmgbgnaaGreat
open Go.ChangeShapes Go.WideShapes Go.ChangeAt Go.RowKit Go.Deep Go.Joins
set_option linter.unusedVariables false
set_option linter.unusedSimpArgs false
set_option maxRecDepth 20000

/-- What is read at these places hangs on the blocks from lo on, below hi, alone. -/
def ReadS (w : World) (lo hi : Nat) (a0 a1 a2 a3 a4 a5 a6 : Option Addr) (R : Sto) : Prop := hi ≤ w.heap.size ∧ ∀ w', w.heap.size ≤ w'.heap.size → (∀ x, lo ≤ x → x < hi → w'.heap[x]? = w.heap[x]?) → InSt w' a0 a1 a2 a3 a4 a5 a6 R
theorem ReadS.at {w : World} {lo hi : Nat} {a0 a1 a2 a3 a4 a5 a6 : Option Addr} {R : Sto} (h : ReadS w lo hi a0 a1 a2 a3 a4 a5 a6 R) : InSt w a0 a1 a2 a3 a4 a5 a6 R := h.2 w (Nat.le_refl _) fun _ _ _ => rfl
theorem ReadS.below {w w' : World} {lo hi : Nat} {a0 a1 a2 a3 a4 a5 a6 : Option Addr} {R : Sto} (h : ReadS w lo hi a0 a1 a2 a3 a4 a5 a6 R) (hb : Below w.heap.size w w') : ReadS w' lo hi a0 a1 a2 a3 a4 a5 a6 R :=
  ⟨Nat.le_trans h.1 hb.size, fun w'' hs hk => h.2 w'' (Nat.le_trans hb.size hs) fun x x1 x2 => (hk x x1 x2).trans (hb.block x (Nat.lt_of_lt_of_le x2 h.1))⟩
theorem ReadS.writes {w w' : World} {lo hi lo' hi' : Nat} {a0 a1 a2 a3 a4 a5 a6 : Option Addr} {R : Sto} (h : ReadS w lo hi a0 a1 a2 a3 a4 a5 a6 R) (hw : Writes lo' hi' w w') (hd : hi ≤ lo' ∨ hi' ≤ lo) : ReadS w' lo hi a0 a1 a2 a3 a4 a5 a6 R :=
  ⟨Nat.le_trans h.1 hw.size, fun w'' hs hk => h.2 w'' (Nat.le_trans hw.size hs) fun x x1 x2 => (hk x x1 x2).trans (hw.block x (Nat.lt_of_lt_of_le x2 h.1) (by omega))⟩
def SRr (c v : Int) (R : Sto) (w : World) (e : Ending) (w' : World) : Prop :=
  ∃ a0 c0 a1 c1 a2 c2 a3 c3 a4 c4 a5 c5 a6 c6, e = .returned (.agg #[.int .i64 c, .int .i64 v, .int .i64 R.nx, .slice a0 R.pn c0, .slice a1 R.d.n c1, .slice a2 R.d.m c2, .slice a3 R.g.n1 c3, .slice a4 R.g.n2 c4, .slice a5 R.hn c5, .slice a6 R.on c6]) ∧ Below w.heap.size w w' ∧ ReadS w' w.heap.size w'.heap.size a0 a1 a2 a3 a4 a5 a6 R
theorem SRes.rd {c v : Int} {R : Sto} {w w' : World} {e : Ending} (h : SRes c v R w e w') : SRr c v R w e w' := by
  obtain ⟨a0, c0, a1, c1, a2, c2, a3, c3, a4, c4, a5, c5, a6, c6, h1, h2, h3⟩ := h
  exact ⟨a0, c0, a1, c1, a2, c2, a3, c3, a4, c4, a5, c5, a6, c6, h1, h2, Nat.le_refl _, fun w'' hs hk => (h3.keep hs fun x x1 x2 _ => hk x x1 x2).at⟩
/-- The copy in its box N2 while the disk is written: what is read of it. -/
def RdV (t : Sto) (g1 : Lo) (b0 b1 b2 b5 b6 y3 y4 : Option Addr) (lo N2 : Nat) (V : World) : Prop :=
  ∀ w', V.heap.size ≤ w'.heap.size → (∀ x, lo ≤ x → x < V.heap.size → x ≠ N2 → w'.heap[x]? = V.heap[x]?) → InSt w' b0 b1 b2 y3 y4 b5 b6 (lgF t g1)
theorem RdV.at {t : Sto} {g1 : Lo} {b0 b1 b2 b5 b6 y3 y4 : Option Addr} {lo N2 : Nat} {V : World} (h : RdV t g1 b0 b1 b2 b5 b6 y3 y4 lo N2 V) : InSt V b0 b1 b2 y3 y4 b5 b6 (lgF t g1) := h V (Nat.le_refl _) fun _ _ _ _ => rfl
theorem RdV.below {t : Sto} {g1 : Lo} {b0 b1 b2 b5 b6 y3 y4 : Option Addr} {lo N2 : Nat} {V y : World} (h : RdV t g1 b0 b1 b2 b5 b6 y3 y4 lo N2 V) (hb : Below V.heap.size V y) : InSt y b0 b1 b2 y3 y4 b5 b6 (lgF t g1) := h y hb.size fun x _ hl _ => hb.block x hl
/-- The cells of page k, where its header was read. -/
theorem RdV.cells {t : Sto} {g1 : Lo} {b1 b2 b5 b6 y3 y4 ca : Option Addr} {lo N2 pb po k cc : Nat} {V y : World} (h : RdV t g1 (some ⟨pb, po, none⟩) b1 b2 b5 b6 y3 y4 lo N2 V) (hk : k < t.pn) (hb : Below V.heap.size V y) (hc : CPg y pb (po + k * 3) (t.pT k) ca cc) : CellsAt y ca (t.pT k).cn (t.pT k).cK (t.pT k).cV := by
  have hi := (h.below hb).1
  rcases hi with q | ⟨b, off, q1, _, q2⟩
  · have : t.pn = 0 := q
    omega
  · injection q1 with q1
    injection q1 with q11 q12
    subst q11 q12
    obtain ⟨a0, c0, ⟨_, _, r2⟩, r3, _⟩ := q2 k hk
    have e := hc.2.2
    rw [show (lgF t g1).pT k = t.pT k from rfl] at r2
    rw [r2] at e
    injection e with e
    injection e with e1
    rw [← e1]
    exact r3.1
theorem OwnR.keep {w w' : World} {lo hi : Nat} {a a' : Option Addr} {D : Dk} (h : OwnR w lo hi a a' D) (hs : w.heap.size ≤ w'.heap.size) (hk : ∀ x, lo ≤ x → x < hi → x < w.heap.size → w'.heap[x]? = w.heap[x]?) : OwnR w' lo hi a a' D := ⟨h.1.keep hs hk, h.2.keep hs hk⟩
theorem sfp_end {t : Sto} {g1 : Lo} {D : Dk} {b0 b1 b2 b5 b6 y3 y4 a a' : Option Addr} {lo N2 R l h : Nat} {w V X w9 : World} (HRV : RdV t g1 b0 b1 b2 b5 b6 y3 y4 lo N2 V) (hV : Below w.heap.size w V) (hlo : R < lo) (hN : lo ≤ N2) (hN2 : N2 < V.heap.size) (hX : Below V.heap.size V X) (ho : OwnR X l h a a' D) (hl : V.heap.size ≤ l) (hh : h ≤ X.heap.size) (hR : w.heap.size ≤ R) (h9 : WritesP (fun q => q = R ∨ q = N2) X w9) :
    Below w.heap.size w w9 ∧ ReadS w9 w.heap.size w9.heap.size b0 a a' y3 y4 b5 b6 (dkS (lgF t g1) D) := by
  have s1 := hV.size
  have s2 := hX.size
  have s4 := h9.size
  have h0 := below_then hV hX
  refine ⟨⟨h9.os.trans h0.os, h9.tape.trans h0.tape, h9.output.trans h0.output, by omega, fun q hq => (h9.block q (by omega) (by omega)).trans (h0.block q hq)⟩, Nat.le_refl _, fun w' hs hk => ?_⟩
  have e1 : ∀ x, lo ≤ x → x < X.heap.size → x ≠ N2 → w'.heap[x]? = X.heap[x]? := fun x x1 x2 x3 => by
    rw [hk x (by omega) (by omega), h9.block x x2 (by omega)]
  have hi := HRV w' (by omega) (fun x x1 x2 x3 => (e1 x x1 (by omega) x3).trans (hX.block x x2))
  have hd : OwnR w' l h a a' D := ho.keep (by omega) (fun x x1 x2 x3 => e1 x (by omega) (by omega) (by omega))
  exact ⟨hi.1, hd.at, hi.2.2.1, hi.2.2.2.1, hi.2.2.2.2⟩
end Go.Proofs.YtaokclhcmgbgnaaGreat
