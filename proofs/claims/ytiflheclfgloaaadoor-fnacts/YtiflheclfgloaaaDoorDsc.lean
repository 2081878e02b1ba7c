/- Draws: spec.l1DrawKey. -/
import Derived.Test.YtiflheclfgloaaaDoorDsb
namespace Go.Proofs.YtiflheclfgloaaaDoor
open Go.RowKit Go.Deep
set_option linter.unusedVariables false
set_option maxRecDepth 20000

/-- What several choices leave: only the source is written. -/
def Dw (S : Nat) (a : Option Addr) (k cap : Nat) (z : Nat → Int) (t : Nat) (w w' : World) : Prop := Writes S (S + 1) w w' ∧ Src w' S a k cap z t
theorem Nx.dw {S : Nat} {a : Option Addr} {k cap : Nat} {z : Nat → Int} {t : Nat} {w w' : World} (h : Nx S a k cap z t w w') : Dw S a k cap z t w w' := ⟨h.1, h.2.2⟩
theorem Dw.src {S : Nat} {a : Option Addr} {k cap : Nat} {z : Nat → Int} {t : Nat} {w w' : World} (h : Dw S a k cap z t w w') : Src w' S a k cap z t := h.2
theorem Dw.trans {S : Nat} {a : Option Addr} {k cap : Nat} {z : Nat → Int} {t t' : Nat} {w w' w'' : World} (h : Dw S a k cap z t w w') (g : Dw S a k cap z t' w' w'') : Dw S a k cap z t' w w'' := ⟨h.1.trans g.1, g.2⟩
theorem Dw.below {S : Nat} {a : Option Addr} {k cap : Nat} {z : Nat → Int} {t : Nat} {w w' w'' : World} (h : Dw S a k cap z t w w') (g : Below w'.heap.size w' w'') : Dw S a k cap z t w w'' := ⟨h.1.trans (Writes.of_below g), h.2.below g⟩
theorem Src.lt {w : World} {S : Nat} {a : Option Addr} {k cap : Nat} {z : Nat → Int} {t : Nat} (h : Src w S a k cap z t) : S < w.heap.size := Go.block_lt_of_cell h.c0
theorem Src.self {w : World} {S : Nat} {a : Option Addr} {k cap : Nat} {z : Nat → Int} {t : Nat} (h : Src w S a k cap z t) : Dw S a k cap z t w w := ⟨Writes.refl _ _ _, h⟩

end Go.Proofs.YtiflheclfgloaaaDoor
