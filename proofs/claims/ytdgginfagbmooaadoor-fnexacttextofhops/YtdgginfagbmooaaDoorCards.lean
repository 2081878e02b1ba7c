/-
  DERIVED. GIVEN WITH THE SEED: THE CARDS: each row of YtdgginfagbmooaaDoorRows.lean that lists a variable, with what it lists TIED to the program's text (the seventh form; the later family's looks); each row that meets fmt, with fmt's text TOLD by the authors' own Lean function (tested against real Go, not proved from fmt's source: count such statements apart). THE CARD IS WHAT COUNTS. Prove the row's statement (the work); the ties are given (YtdgginfagbmooaaDoorTie.lean); close each card by the builder's one call (the guide's Derived/Test/ToyasCard.lean, 'card_holds'). Laid BY PROGRAM, IN A SANDBOX (cutbox-door.mjs). By AI agents, Wed Nov 11 2026. No macro, syntax, notation, axiom, sorry.
-/
import Derived.Test.YtdgginfagbmooaaDoorRows
import GoSem.ClaimSeven
namespace Go.Proofs.YtdgginfagbmooaaDoor
namespace Rows

/-- THE TIED CARD OF 'laws.FnExactTextOfHops'. -/
def fnExactTextOfHopsCard : Claim7 := { stood := { row := fnExactTextOfHopsRow, standIns := [], harness := (true, "b7f96b18df3706acd75a476126df8f82976a4bf13b5247ea31b10d413b3e1128"), looks := false }, kinds := [], alts := [], laidByText := true, laidKinds := [.data, .data, .data], laidTests := true, laidLooks := .later }
def FnExactTextOfHopsCardSaid : Prop := Claim7.holds Tryd.pinned (.plain (OpenSpec.ofChange fnExactTextOfHopsSpec)) fnExactTextOfHopsCard

/-- THE SECOND FORM's CARD OF 'laws.FnExactTextOfHops'. -/
def fnExactTextOfHopsUptoCard : Claim7 := { stood := { row := fnExactTextOfHopsUptoRow, standIns := [], harness := (true, "b7f96b18df3706acd75a476126df8f82976a4bf13b5247ea31b10d413b3e1128"), looks := false }, kinds := [], alts := [], laidByText := true, laidKinds := [.data, .data, .data], laidTests := true, laidLooks := .later }
def FnExactTextOfHopsUptoCardSaid : Prop := Claim7.holds Tryd.pinned (.plain (OpenSpec.upto fnExactTextOfHopsSpec)) fnExactTextOfHopsUptoCard
end Rows
end Go.Proofs.YtdgginfagbmooaaDoor
