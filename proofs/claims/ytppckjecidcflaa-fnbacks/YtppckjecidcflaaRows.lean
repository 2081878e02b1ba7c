/-
  No cell of these rows narrows 'for every input' (looked for: loops, veiled, ifaces, maps, wideKeys, modest, calm, conditions, laid).
  DERIVED. THE GIVEN ROWS OF THIS SEAT. 3 by the template 'for every input the law returns true; each argument reads behind the call as it read before'; 0 by the template 'total and deterministic' (their statements: YtppckjecidcflaaTotals.lean).
  GIVEN WITH THE SEED: the statements are not yours to turn. If you find one false, say at which input.
  Laid BY PROGRAM, IN A SANDBOX (cutbox-rows.mjs): the forced cells as the released guide's own fill.sh prints them over the translation 28c507984e52c615… (all of the seat's roots in one cut). By AI agents, Wed Nov 11 2026. No macro, syntax, notation, axiom, sorry.
-/
import Derived.Test.YtppckjecidcflaaChecked
import GoSem.Claim
import GoSem.ClaimJoined
import GoSem.ClaimMapViews
import Derived.JoinedTies
import Derived.KernelRfl
namespace Go.Proofs.Ytppckjecidcflaa
/- THE CELL 'sum', in the pinned program and in every row, IS THE sha256 OF THE DUMP (.gsa) THAT YtppckjecidcflaaProg.lean LOADS. Nothing in Lean hashes anything: it is a label: what it is worth is what the hold of that sum in a sandbox is worth. -/
noncomputable def Try.pinned : Pinned := { name := "ytppckjecidcflaa", sum := "28c507984e52c61527e664426d899bb97cf7b21e581329ee90dbc7fbfe674537", checked := Try.checked }
namespace Rows
def none {H : Type} : Left H := { results := [], args := [] }

/-- 'laws.FnExactAppendRec': WHATEVER THE INPUT: true; the input reads as it did. -/
def fnExactAppendRecSpec : ChangeSpec := { name := "fnExactAppendRec", fn := fun _ => fun
  | [d1, d2] => { results := [.lit (.bool true)], args := [d1, d2] }
  | _ => none }
def fnExactAppendRecRow : OpenClaim := { program := "ytppckjecidcflaa", sum := "28c507984e52c61527e664426d899bb97cf7b21e581329ee90dbc7fbfe674537", func := "loop.example/g00216/laws.FnExactAppendRec", spec := "fnExactAppendRec", apart := false }
def FnExactAppendRecSaid : Prop := fnExactAppendRecRow.holds Try.pinned (OpenSpec.ofChange fnExactAppendRecSpec)

/-- ITS FALSE NEIGHBOUR: 'it returns false'. Refute it at one input. -/
def fnExactAppendRecWrong : ChangeSpec := { name := "fnExactAppendRec", fn := fun _ => fun
  | [d1, d2] => { results := [.lit (.bool false)], args := [d1, d2] }
  | _ => none }
def FnExactAppendRecWrongFalsely : Prop := fnExactAppendRecRow.holds Try.pinned (OpenSpec.ofChange fnExactAppendRecWrong)

/-- 'laws.FnExactChainBack': WHATEVER THE INPUT: true; the input reads as it did. -/
def fnExactChainBackSpec : ChangeSpec := { name := "fnExactChainBack", fn := fun _ => fun
  | [d1, d2] => { results := [.lit (.bool true)], args := [d1, d2] }
  | _ => none }
def fnExactChainBackRow : OpenClaim := { program := "ytppckjecidcflaa", sum := "28c507984e52c61527e664426d899bb97cf7b21e581329ee90dbc7fbfe674537", func := "loop.example/g00216/laws.FnExactChainBack", spec := "fnExactChainBack", apart := false }
def FnExactChainBackSaid : Prop := fnExactChainBackRow.holds Try.pinned (OpenSpec.ofChange fnExactChainBackSpec)

/-- ITS FALSE NEIGHBOUR: 'it returns false'. Refute it at one input. -/
def fnExactChainBackWrong : ChangeSpec := { name := "fnExactChainBack", fn := fun _ => fun
  | [d1, d2] => { results := [.lit (.bool false)], args := [d1, d2] }
  | _ => none }
def FnExactChainBackWrongFalsely : Prop := fnExactChainBackRow.holds Try.pinned (OpenSpec.ofChange fnExactChainBackWrong)

/-- 'laws.FnBacks': WHATEVER THE INPUT: true; the input reads as it did. -/
def fnBacksSpec : ChangeSpec := { name := "fnBacks", fn := fun _ => fun
  | [d] => { results := [.lit (.bool true)], args := [d] }
  | _ => none }
def fnBacksRow : OpenClaim := { program := "ytppckjecidcflaa", sum := "28c507984e52c61527e664426d899bb97cf7b21e581329ee90dbc7fbfe674537", func := "loop.example/g00216/laws.FnBacks", spec := "fnBacks", apart := false }
def FnBacksSaid : Prop := fnBacksRow.holds Try.pinned (OpenSpec.ofChange fnBacksSpec)

/-- ITS FALSE NEIGHBOUR: 'it returns false'. Refute it at one input. -/
def fnBacksWrong : ChangeSpec := { name := "fnBacks", fn := fun _ => fun
  | [d] => { results := [.lit (.bool false)], args := [d] }
  | _ => none }
def FnBacksWrongFalsely : Prop := fnBacksRow.holds Try.pinned (OpenSpec.ofChange fnBacksWrong)

/- THE SECOND FORM. 'bulk': how many values and letters a reading holds, each counted each time it is reached (what is shared counts as often as it is met; a slice's spare places count too). A statement '..UptoSaid' is the law's where the arguments, and the package variables that the reading takes, are together of bulk at most 1048576: NARROWER than '..Said'. Prove '..Said' where nothing that the law and all that it calls make is longer than what came in: it says more and counts as full. Else prove '..UptoSaid'. A law counts once. -/
mutual
def uptoBulk {H : Type} : DataW H → Nat
  | .lit (.string bytes) => bytes.length + 1
  | .lit _ => 1
  | .nil => 1
  | .ptr d => uptoBulk d + 1
  | .slice elems spare => uptoBulkAll elems + uptoBulkAll spare + 1
  | .agg parts => uptoBulkAll parts + 1
  | .iface _ d => uptoBulk d + 1
  | .map entries => uptoBulkEntries entries + 1
  | .held _ => 1
def uptoBulkAll {H : Type} : List (DataW H) → Nat
  | [] => 0
  | d :: r => uptoBulk d + uptoBulkAll r
def uptoBulkEntries {H : Type} : List (Lit × DataW H) → Nat
  | [] => 0
  | x :: r => uptoBulkEntry x + uptoBulkEntries r
def uptoBulkEntry {H : Type} : Lit × DataW H → Nat
  | (.string bytes, d) => bytes.length + uptoBulk d + 1
  | (_, d) => uptoBulk d + 1
 end
def uptoSmall : (H : Type) → List (DataW H) → Bool := fun _ ds => decide (uptoBulkAll ds ≤ 1048576)
def OpenSpec.upto (s : _root_.Go.ChangeSpec) : _root_.Go.OpenSpec := { _root_.Go.OpenSpec.ofChange s with cond := some uptoSmall }

/-- 'laws.FnExactAppendRec', WHERE WHAT IT READS IS OF BULK AT MOST 1048576: true; the input reads as it did. -/
def fnExactAppendRecUptoRow : OpenClaim := { program := "ytppckjecidcflaa", sum := "28c507984e52c61527e664426d899bb97cf7b21e581329ee90dbc7fbfe674537", func := "loop.example/g00216/laws.FnExactAppendRec", spec := "fnExactAppendRec", apart := false, narrowed := true }
def FnExactAppendRecUptoSaid : Prop := fnExactAppendRecUptoRow.holds Try.pinned (OpenSpec.upto fnExactAppendRecSpec)

/-- 'laws.FnExactChainBack', WHERE WHAT IT READS IS OF BULK AT MOST 1048576: true; the input reads as it did. -/
def fnExactChainBackUptoRow : OpenClaim := { program := "ytppckjecidcflaa", sum := "28c507984e52c61527e664426d899bb97cf7b21e581329ee90dbc7fbfe674537", func := "loop.example/g00216/laws.FnExactChainBack", spec := "fnExactChainBack", apart := false, narrowed := true }
def FnExactChainBackUptoSaid : Prop := fnExactChainBackUptoRow.holds Try.pinned (OpenSpec.upto fnExactChainBackSpec)

/-- 'laws.FnBacks', WHERE WHAT IT READS IS OF BULK AT MOST 1048576: true; the input reads as it did. -/
def fnBacksUptoRow : OpenClaim := { program := "ytppckjecidcflaa", sum := "28c507984e52c61527e664426d899bb97cf7b21e581329ee90dbc7fbfe674537", func := "loop.example/g00216/laws.FnBacks", spec := "fnBacks", apart := false, narrowed := true }
def FnBacksUptoSaid : Prop := fnBacksUptoRow.holds Try.pinned (OpenSpec.upto fnBacksSpec)

end Rows
end Go.Proofs.Ytppckjecidcflaa
