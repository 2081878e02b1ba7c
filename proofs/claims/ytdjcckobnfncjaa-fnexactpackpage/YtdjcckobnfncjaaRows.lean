/-
  No cell of these rows narrows 'for every input' (looked for: loops, veiled, ifaces, maps, wideKeys, modest, calm, conditions, laid).
  DERIVED. THE GIVEN ROWS OF THIS SEAT. 9 by the template 'for every input the law returns true; each argument reads behind the call as it read before'; 0 by the template 'total and deterministic' (their statements: YtdjcckobnfncjaaTotals.lean).
  GIVEN WITH THE SEED: the statements are not yours to turn. If you find one false, say at which input.
  Laid BY PROGRAM, IN A SANDBOX (cutbox-rows.mjs): the forced cells as the released guide's own fill.sh prints them over the translation 3224ae258ea7bfb1… (all of the seat's roots in one cut). By AI agents, Wed Nov 11 2026. No macro, syntax, notation, axiom, sorry.
-/
import Derived.Test.YtdjcckobnfncjaaChecked
import GoSem.Claim
import GoSem.ClaimJoined
import GoSem.ClaimMapViews
import Derived.JoinedTies
import Derived.KernelRfl
namespace Go.Proofs.Ytdjcckobnfncjaa
/- THE CELL 'sum', in the pinned program and in every row, IS THE sha256 OF THE DUMP (.gsa) THAT YtdjcckobnfncjaaProg.lean LOADS. Nothing in Lean hashes anything: it is a label: what it is worth is what the hold of that sum in a sandbox is worth. -/
noncomputable def Try.pinned : Pinned := { name := "ytdjcckobnfncjaa", sum := "3224ae258ea7bfb17216cc707f212fa77cfad5791cfa657a59d0b72ca0e37a7a", checked := Try.checked }
namespace Rows
def none {H : Type} : Left H := { results := [], args := [] }

/-- 'laws.FnPages': WHATEVER THE INPUT: true; the input reads as it did. -/
def fnPagesSpec : ChangeSpec := { name := "fnPages", fn := fun _ => fun
  | [d] => { results := [.lit (.bool true)], args := [d] }
  | _ => none }
def fnPagesRow : OpenClaim := { program := "ytdjcckobnfncjaa", sum := "3224ae258ea7bfb17216cc707f212fa77cfad5791cfa657a59d0b72ca0e37a7a", func := "loop.example/g00216/laws.FnPages", spec := "fnPages", apart := false }
def FnPagesSaid : Prop := fnPagesRow.holds Try.pinned (OpenSpec.ofChange fnPagesSpec)

/-- ITS FALSE NEIGHBOUR: 'it returns false'. Refute it at one input. -/
def fnPagesWrong : ChangeSpec := { name := "fnPages", fn := fun _ => fun
  | [d] => { results := [.lit (.bool false)], args := [d] }
  | _ => none }
def FnPagesWrongFalsely : Prop := fnPagesRow.holds Try.pinned (OpenSpec.ofChange fnPagesWrong)

/-- 'laws.FnExactPageFault': WHATEVER THE INPUT: true; the input reads as it did. -/
def fnExactPageFaultSpec : ChangeSpec := { name := "fnExactPageFault", fn := fun _ => fun
  | [d] => { results := [.lit (.bool true)], args := [d] }
  | _ => none }
def fnExactPageFaultRow : OpenClaim := { program := "ytdjcckobnfncjaa", sum := "3224ae258ea7bfb17216cc707f212fa77cfad5791cfa657a59d0b72ca0e37a7a", func := "loop.example/g00216/laws.FnExactPageFault", spec := "fnExactPageFault", apart := false }
def FnExactPageFaultSaid : Prop := fnExactPageFaultRow.holds Try.pinned (OpenSpec.ofChange fnExactPageFaultSpec)

/-- ITS FALSE NEIGHBOUR: 'it returns false'. Refute it at one input. -/
def fnExactPageFaultWrong : ChangeSpec := { name := "fnExactPageFault", fn := fun _ => fun
  | [d] => { results := [.lit (.bool false)], args := [d] }
  | _ => none }
def FnExactPageFaultWrongFalsely : Prop := fnExactPageFaultRow.holds Try.pinned (OpenSpec.ofChange fnExactPageFaultWrong)

/-- 'laws.FnExactNewPage': WHATEVER THE INPUT: true; the input reads as it did. -/
def fnExactNewPageSpec : ChangeSpec := { name := "fnExactNewPage", fn := fun _ => fun
  | [d] => { results := [.lit (.bool true)], args := [d] }
  | _ => none }
def fnExactNewPageRow : OpenClaim := { program := "ytdjcckobnfncjaa", sum := "3224ae258ea7bfb17216cc707f212fa77cfad5791cfa657a59d0b72ca0e37a7a", func := "loop.example/g00216/laws.FnExactNewPage", spec := "fnExactNewPage", apart := false }
def FnExactNewPageSaid : Prop := fnExactNewPageRow.holds Try.pinned (OpenSpec.ofChange fnExactNewPageSpec)

/-- ITS FALSE NEIGHBOUR: 'it returns false'. Refute it at one input. -/
def fnExactNewPageWrong : ChangeSpec := { name := "fnExactNewPage", fn := fun _ => fun
  | [d] => { results := [.lit (.bool false)], args := [d] }
  | _ => none }
def FnExactNewPageWrongFalsely : Prop := fnExactNewPageRow.holds Try.pinned (OpenSpec.ofChange fnExactNewPageWrong)

/-- 'laws.FnExactSetCell': WHATEVER THE INPUT: true; the input reads as it did. -/
def fnExactSetCellSpec : ChangeSpec := { name := "fnExactSetCell", fn := fun _ => fun
  | [d1, d2, d3, d4] => { results := [.lit (.bool true)], args := [d1, d2, d3, d4] }
  | _ => none }
def fnExactSetCellRow : OpenClaim := { program := "ytdjcckobnfncjaa", sum := "3224ae258ea7bfb17216cc707f212fa77cfad5791cfa657a59d0b72ca0e37a7a", func := "loop.example/g00216/laws.FnExactSetCell", spec := "fnExactSetCell", apart := false }
def FnExactSetCellSaid : Prop := fnExactSetCellRow.holds Try.pinned (OpenSpec.ofChange fnExactSetCellSpec)

/-- ITS FALSE NEIGHBOUR: 'it returns false'. Refute it at one input. -/
def fnExactSetCellWrong : ChangeSpec := { name := "fnExactSetCell", fn := fun _ => fun
  | [d1, d2, d3, d4] => { results := [.lit (.bool false)], args := [d1, d2, d3, d4] }
  | _ => none }
def FnExactSetCellWrongFalsely : Prop := fnExactSetCellRow.holds Try.pinned (OpenSpec.ofChange fnExactSetCellWrong)

/-- 'laws.FnExactDropCell': WHATEVER THE INPUT: true; the input reads as it did. -/
def fnExactDropCellSpec : ChangeSpec := { name := "fnExactDropCell", fn := fun _ => fun
  | [d1, d2, d3] => { results := [.lit (.bool true)], args := [d1, d2, d3] }
  | _ => none }
def fnExactDropCellRow : OpenClaim := { program := "ytdjcckobnfncjaa", sum := "3224ae258ea7bfb17216cc707f212fa77cfad5791cfa657a59d0b72ca0e37a7a", func := "loop.example/g00216/laws.FnExactDropCell", spec := "fnExactDropCell", apart := false }
def FnExactDropCellSaid : Prop := fnExactDropCellRow.holds Try.pinned (OpenSpec.ofChange fnExactDropCellSpec)

/-- ITS FALSE NEIGHBOUR: 'it returns false'. Refute it at one input. -/
def fnExactDropCellWrong : ChangeSpec := { name := "fnExactDropCell", fn := fun _ => fun
  | [d1, d2, d3] => { results := [.lit (.bool false)], args := [d1, d2, d3] }
  | _ => none }
def FnExactDropCellWrongFalsely : Prop := fnExactDropCellRow.holds Try.pinned (OpenSpec.ofChange fnExactDropCellWrong)

/-- 'laws.FnExactCellOf': WHATEVER THE INPUT: true; the input reads as it did. -/
def fnExactCellOfSpec : ChangeSpec := { name := "fnExactCellOf", fn := fun _ => fun
  | [d1, d2] => { results := [.lit (.bool true)], args := [d1, d2] }
  | _ => none }
def fnExactCellOfRow : OpenClaim := { program := "ytdjcckobnfncjaa", sum := "3224ae258ea7bfb17216cc707f212fa77cfad5791cfa657a59d0b72ca0e37a7a", func := "loop.example/g00216/laws.FnExactCellOf", spec := "fnExactCellOf", apart := false }
def FnExactCellOfSaid : Prop := fnExactCellOfRow.holds Try.pinned (OpenSpec.ofChange fnExactCellOfSpec)

/-- ITS FALSE NEIGHBOUR: 'it returns false'. Refute it at one input. -/
def fnExactCellOfWrong : ChangeSpec := { name := "fnExactCellOf", fn := fun _ => fun
  | [d1, d2] => { results := [.lit (.bool false)], args := [d1, d2] }
  | _ => none }
def FnExactCellOfWrongFalsely : Prop := fnExactCellOfRow.holds Try.pinned (OpenSpec.ofChange fnExactCellOfWrong)

/-- 'laws.FnExactPackPage': WHATEVER THE INPUT: true; the input reads as it did. -/
def fnExactPackPageSpec : ChangeSpec := { name := "fnExactPackPage", fn := fun _ => fun
  | [d] => { results := [.lit (.bool true)], args := [d] }
  | _ => none }
def fnExactPackPageRow : OpenClaim := { program := "ytdjcckobnfncjaa", sum := "3224ae258ea7bfb17216cc707f212fa77cfad5791cfa657a59d0b72ca0e37a7a", func := "loop.example/g00216/laws.FnExactPackPage", spec := "fnExactPackPage", apart := false }
def FnExactPackPageSaid : Prop := fnExactPackPageRow.holds Try.pinned (OpenSpec.ofChange fnExactPackPageSpec)

/-- ITS FALSE NEIGHBOUR: 'it returns false'. Refute it at one input. -/
def fnExactPackPageWrong : ChangeSpec := { name := "fnExactPackPage", fn := fun _ => fun
  | [d] => { results := [.lit (.bool false)], args := [d] }
  | _ => none }
def FnExactPackPageWrongFalsely : Prop := fnExactPackPageRow.holds Try.pinned (OpenSpec.ofChange fnExactPackPageWrong)

/-- 'laws.FnExactUnpackPage': WHATEVER THE INPUT: true; the input reads as it did. -/
def fnExactUnpackPageSpec : ChangeSpec := { name := "fnExactUnpackPage", fn := fun _ => fun
  | [d] => { results := [.lit (.bool true)], args := [d] }
  | _ => none }
def fnExactUnpackPageRow : OpenClaim := { program := "ytdjcckobnfncjaa", sum := "3224ae258ea7bfb17216cc707f212fa77cfad5791cfa657a59d0b72ca0e37a7a", func := "loop.example/g00216/laws.FnExactUnpackPage", spec := "fnExactUnpackPage", apart := false }
def FnExactUnpackPageSaid : Prop := fnExactUnpackPageRow.holds Try.pinned (OpenSpec.ofChange fnExactUnpackPageSpec)

/-- ITS FALSE NEIGHBOUR: 'it returns false'. Refute it at one input. -/
def fnExactUnpackPageWrong : ChangeSpec := { name := "fnExactUnpackPage", fn := fun _ => fun
  | [d] => { results := [.lit (.bool false)], args := [d] }
  | _ => none }
def FnExactUnpackPageWrongFalsely : Prop := fnExactUnpackPageRow.holds Try.pinned (OpenSpec.ofChange fnExactUnpackPageWrong)

/-- 'laws.FnExactSumBytes': WHATEVER THE INPUT: true; the input reads as it did. -/
def fnExactSumBytesSpec : ChangeSpec := { name := "fnExactSumBytes", fn := fun _ => fun
  | [d] => { results := [.lit (.bool true)], args := [d] }
  | _ => none }
def fnExactSumBytesRow : OpenClaim := { program := "ytdjcckobnfncjaa", sum := "3224ae258ea7bfb17216cc707f212fa77cfad5791cfa657a59d0b72ca0e37a7a", func := "loop.example/g00216/laws.FnExactSumBytes", spec := "fnExactSumBytes", apart := false }
def FnExactSumBytesSaid : Prop := fnExactSumBytesRow.holds Try.pinned (OpenSpec.ofChange fnExactSumBytesSpec)

/-- ITS FALSE NEIGHBOUR: 'it returns false'. Refute it at one input. -/
def fnExactSumBytesWrong : ChangeSpec := { name := "fnExactSumBytes", fn := fun _ => fun
  | [d] => { results := [.lit (.bool false)], args := [d] }
  | _ => none }
def FnExactSumBytesWrongFalsely : Prop := fnExactSumBytesRow.holds Try.pinned (OpenSpec.ofChange fnExactSumBytesWrong)

/- THE SECOND FORM. 'bulk': how many values and letters a reading holds, each counted each time it is reached (what is shared counts as often as it is met; a slice's spare places count too). A statement '..UptoSaid' is the law's where the arguments, and the package variables that the reading takes, are together of bulk at most 1048576: NARROWER than '..Said'. Prove '..Said' where nothing that the law and all that it calls make is longer than what came in: it says more and counts as full. Else prove '..UptoSaid'. A law counts once. -/
mutual
def uptoBulk {H : Type} : DataW H → Nat
  | .lit (.string bytes) => bytes.length + 1
  | .lit _ => 1
  | .nil => 1
  | .ptr d => uptoBulk d + 1
  | .slice elems spare => uptoBulkAll elems + uptoBulkAll spare + 1
  | .agg parts => uptoBulkAll parts + 1
  | .iface _ d => uptoBulk d + 1
  | .map entries => uptoBulkEntries entries + 1
  | .held _ => 1
def uptoBulkAll {H : Type} : List (DataW H) → Nat
  | [] => 0
  | d :: r => uptoBulk d + uptoBulkAll r
def uptoBulkEntries {H : Type} : List (Lit × DataW H) → Nat
  | [] => 0
  | x :: r => uptoBulkEntry x + uptoBulkEntries r
def uptoBulkEntry {H : Type} : Lit × DataW H → Nat
  | (.string bytes, d) => bytes.length + uptoBulk d + 1
  | (_, d) => uptoBulk d + 1
 end
def uptoSmall : (H : Type) → List (DataW H) → Bool := fun _ ds => decide (uptoBulkAll ds ≤ 1048576)
def OpenSpec.upto (s : _root_.Go.ChangeSpec) : _root_.Go.OpenSpec := { _root_.Go.OpenSpec.ofChange s with cond := some uptoSmall }

/-- 'laws.FnPages', WHERE WHAT IT READS IS OF BULK AT MOST 1048576: true; the input reads as it did. -/
def fnPagesUptoRow : OpenClaim := { program := "ytdjcckobnfncjaa", sum := "3224ae258ea7bfb17216cc707f212fa77cfad5791cfa657a59d0b72ca0e37a7a", func := "loop.example/g00216/laws.FnPages", spec := "fnPages", apart := false, narrowed := true }
def FnPagesUptoSaid : Prop := fnPagesUptoRow.holds Try.pinned (OpenSpec.upto fnPagesSpec)

/-- 'laws.FnExactPageFault', WHERE WHAT IT READS IS OF BULK AT MOST 1048576: true; the input reads as it did. -/
def fnExactPageFaultUptoRow : OpenClaim := { program := "ytdjcckobnfncjaa", sum := "3224ae258ea7bfb17216cc707f212fa77cfad5791cfa657a59d0b72ca0e37a7a", func := "loop.example/g00216/laws.FnExactPageFault", spec := "fnExactPageFault", apart := false, narrowed := true }
def FnExactPageFaultUptoSaid : Prop := fnExactPageFaultUptoRow.holds Try.pinned (OpenSpec.upto fnExactPageFaultSpec)

/-- 'laws.FnExactNewPage', WHERE WHAT IT READS IS OF BULK AT MOST 1048576: true; the input reads as it did. -/
def fnExactNewPageUptoRow : OpenClaim := { program := "ytdjcckobnfncjaa", sum := "3224ae258ea7bfb17216cc707f212fa77cfad5791cfa657a59d0b72ca0e37a7a", func := "loop.example/g00216/laws.FnExactNewPage", spec := "fnExactNewPage", apart := false, narrowed := true }
def FnExactNewPageUptoSaid : Prop := fnExactNewPageUptoRow.holds Try.pinned (OpenSpec.upto fnExactNewPageSpec)

/-- 'laws.FnExactSetCell', WHERE WHAT IT READS IS OF BULK AT MOST 1048576: true; the input reads as it did. -/
def fnExactSetCellUptoRow : OpenClaim := { program := "ytdjcckobnfncjaa", sum := "3224ae258ea7bfb17216cc707f212fa77cfad5791cfa657a59d0b72ca0e37a7a", func := "loop.example/g00216/laws.FnExactSetCell", spec := "fnExactSetCell", apart := false, narrowed := true }
def FnExactSetCellUptoSaid : Prop := fnExactSetCellUptoRow.holds Try.pinned (OpenSpec.upto fnExactSetCellSpec)

/-- 'laws.FnExactDropCell', WHERE WHAT IT READS IS OF BULK AT MOST 1048576: true; the input reads as it did. -/
def fnExactDropCellUptoRow : OpenClaim := { program := "ytdjcckobnfncjaa", sum := "3224ae258ea7bfb17216cc707f212fa77cfad5791cfa657a59d0b72ca0e37a7a", func := "loop.example/g00216/laws.FnExactDropCell", spec := "fnExactDropCell", apart := false, narrowed := true }
def FnExactDropCellUptoSaid : Prop := fnExactDropCellUptoRow.holds Try.pinned (OpenSpec.upto fnExactDropCellSpec)

/-- 'laws.FnExactCellOf', WHERE WHAT IT READS IS OF BULK AT MOST 1048576: true; the input reads as it did. -/
def fnExactCellOfUptoRow : OpenClaim := { program := "ytdjcckobnfncjaa", sum := "3224ae258ea7bfb17216cc707f212fa77cfad5791cfa657a59d0b72ca0e37a7a", func := "loop.example/g00216/laws.FnExactCellOf", spec := "fnExactCellOf", apart := false, narrowed := true }
def FnExactCellOfUptoSaid : Prop := fnExactCellOfUptoRow.holds Try.pinned (OpenSpec.upto fnExactCellOfSpec)

/-- 'laws.FnExactPackPage', WHERE WHAT IT READS IS OF BULK AT MOST 1048576: true; the input reads as it did. -/
def fnExactPackPageUptoRow : OpenClaim := { program := "ytdjcckobnfncjaa", sum := "3224ae258ea7bfb17216cc707f212fa77cfad5791cfa657a59d0b72ca0e37a7a", func := "loop.example/g00216/laws.FnExactPackPage", spec := "fnExactPackPage", apart := false, narrowed := true }
def FnExactPackPageUptoSaid : Prop := fnExactPackPageUptoRow.holds Try.pinned (OpenSpec.upto fnExactPackPageSpec)

/-- 'laws.FnExactUnpackPage', WHERE WHAT IT READS IS OF BULK AT MOST 1048576: true; the input reads as it did. -/
def fnExactUnpackPageUptoRow : OpenClaim := { program := "ytdjcckobnfncjaa", sum := "3224ae258ea7bfb17216cc707f212fa77cfad5791cfa657a59d0b72ca0e37a7a", func := "loop.example/g00216/laws.FnExactUnpackPage", spec := "fnExactUnpackPage", apart := false, narrowed := true }
def FnExactUnpackPageUptoSaid : Prop := fnExactUnpackPageUptoRow.holds Try.pinned (OpenSpec.upto fnExactUnpackPageSpec)

/-- 'laws.FnExactSumBytes', WHERE WHAT IT READS IS OF BULK AT MOST 1048576: true; the input reads as it did. -/
def fnExactSumBytesUptoRow : OpenClaim := { program := "ytdjcckobnfncjaa", sum := "3224ae258ea7bfb17216cc707f212fa77cfad5791cfa657a59d0b72ca0e37a7a", func := "loop.example/g00216/laws.FnExactSumBytes", spec := "fnExactSumBytes", apart := false, narrowed := true }
def FnExactSumBytesUptoSaid : Prop := fnExactSumBytesUptoRow.holds Try.pinned (OpenSpec.upto fnExactSumBytesSpec)

end Rows
end Go.Proofs.Ytdjcckobnfncjaa
