/-
  No cell of these rows narrows 'for every input' (looked for: loops, veiled, ifaces, maps, wideKeys, modest, calm, conditions, laid).
  DERIVED. THE GIVEN ROWS OF THIS SEAT. 5 by the template 'for every input the law returns true; each argument reads behind the call as it read before'; 0 by the template 'total and deterministic' (their statements: YtnhlcadipkmhhaaGreatTotals.lean).
  GIVEN WITH THE SEED: the statements are not yours to turn. If you find one false, say at which input.
  Laid BY PROGRAM, IN A SANDBOX (cutbox-rows.mjs): the forced cells as the released guide's own fill.sh prints them over the translation e1a62fdfad1be6e7… (all of the seat's roots in one cut). By AI agents, Wed Nov 11 2026. No macro, syntax, notation, axiom, sorry.
-/
import Derived.Test.YtnhlcadipkmhhaaGreatChecked
import GoSem.Claim
import GoSem.ClaimJoined
import GoSem.ClaimMapViews
import Derived.JoinedTies
import Derived.KernelRfl
namespace Go.Proofs.YtnhlcadipkmhhaaGreat
/- THE CELL 'sum', in the pinned program and in every row, IS THE sha256 OF THE DUMP (.gsa) THAT YtnhlcadipkmhhaaGreatProg.lean LOADS. Nothing in Lean hashes anything: it is a label: what it is worth is what the hold of that sum in a sandbox is worth. -/
noncomputable def Tryz.pinned : Pinned := { name := "ytnhlcadipkmhhaagreat", sum := "e1a62fdfad1be6e7ebf7b503dcc2e1432bdd6b473658309f0dc4757c4fcf930f", checked := Tryz.checked }
namespace Rows
def none {H : Type} : Left H := { results := [], args := [] }

/-- 'laws.FnExactSameAnswers': WHATEVER THE INPUT: true; the input reads as it did. -/
def fnExactSameAnswersSpec : ChangeSpec := { name := "fnExactSameAnswers", fn := fun _ => fun
  | [d1, d2] => { results := [.lit (.bool true)], args := [d1, d2] }
  | _ => none }
def fnExactSameAnswersRow : OpenClaim := { program := "ytnhlcadipkmhhaagreat", sum := "e1a62fdfad1be6e7ebf7b503dcc2e1432bdd6b473658309f0dc4757c4fcf930f", func := "loop.example/g00216/laws.FnExactSameAnswers", spec := "fnExactSameAnswers", unfollowed := true, recurses := true, apart := false }
def FnExactSameAnswersSaid : Prop := fnExactSameAnswersRow.holds Tryz.pinned (OpenSpec.ofChange fnExactSameAnswersSpec)

/-- ITS FALSE NEIGHBOUR: 'it returns false'. Refute it at one input. -/
def fnExactSameAnswersWrong : ChangeSpec := { name := "fnExactSameAnswers", fn := fun _ => fun
  | [d1, d2] => { results := [.lit (.bool false)], args := [d1, d2] }
  | _ => none }
def FnExactSameAnswersWrongFalsely : Prop := fnExactSameAnswersRow.holds Tryz.pinned (OpenSpec.ofChange fnExactSameAnswersWrong)

/-- 'laws.FnExactPurgeEngine': WHATEVER THE INPUT: true; the input reads as it did. -/
def fnExactPurgeEngineSpec : ChangeSpec := { name := "fnExactPurgeEngine", fn := fun _ => fun
  | [d] => { results := [.lit (.bool true)], args := [d] }
  | _ => none }
def fnExactPurgeEngineRow : OpenClaim := { program := "ytnhlcadipkmhhaagreat", sum := "e1a62fdfad1be6e7ebf7b503dcc2e1432bdd6b473658309f0dc4757c4fcf930f", func := "loop.example/g00216/laws.FnExactPurgeEngine", spec := "fnExactPurgeEngine", unfollowed := true, recurses := true, apart := false }
def FnExactPurgeEngineSaid : Prop := fnExactPurgeEngineRow.holds Tryz.pinned (OpenSpec.ofChange fnExactPurgeEngineSpec)

/-- ITS FALSE NEIGHBOUR: 'it returns false'. Refute it at one input. -/
def fnExactPurgeEngineWrong : ChangeSpec := { name := "fnExactPurgeEngine", fn := fun _ => fun
  | [d] => { results := [.lit (.bool false)], args := [d] }
  | _ => none }
def FnExactPurgeEngineWrongFalsely : Prop := fnExactPurgeEngineRow.holds Tryz.pinned (OpenSpec.ofChange fnExactPurgeEngineWrong)

/-- 'laws.FnExactGarbageOf': WHATEVER THE INPUT: true; the input reads as it did. -/
def fnExactGarbageOfSpec : ChangeSpec := { name := "fnExactGarbageOf", fn := fun _ => fun
  | [d] => { results := [.lit (.bool true)], args := [d] }
  | _ => none }
def fnExactGarbageOfRow : OpenClaim := { program := "ytnhlcadipkmhhaagreat", sum := "e1a62fdfad1be6e7ebf7b503dcc2e1432bdd6b473658309f0dc4757c4fcf930f", func := "loop.example/g00216/laws.FnExactGarbageOf", spec := "fnExactGarbageOf", unfollowed := true, recurses := true, apart := false }
def FnExactGarbageOfSaid : Prop := fnExactGarbageOfRow.holds Tryz.pinned (OpenSpec.ofChange fnExactGarbageOfSpec)

/-- ITS FALSE NEIGHBOUR: 'it returns false'. Refute it at one input. -/
def fnExactGarbageOfWrong : ChangeSpec := { name := "fnExactGarbageOf", fn := fun _ => fun
  | [d] => { results := [.lit (.bool false)], args := [d] }
  | _ => none }
def FnExactGarbageOfWrongFalsely : Prop := fnExactGarbageOfRow.holds Tryz.pinned (OpenSpec.ofChange fnExactGarbageOfWrong)

/-- 'laws.FnExactAbortTxn': WHATEVER THE INPUT: true; the input reads as it did. -/
def fnExactAbortTxnSpec : ChangeSpec := { name := "fnExactAbortTxn", fn := fun _ => fun
  | [d1, d2] => { results := [.lit (.bool true)], args := [d1, d2] }
  | _ => none }
def fnExactAbortTxnRow : OpenClaim := { program := "ytnhlcadipkmhhaagreat", sum := "e1a62fdfad1be6e7ebf7b503dcc2e1432bdd6b473658309f0dc4757c4fcf930f", func := "loop.example/g00216/laws.FnExactAbortTxn", spec := "fnExactAbortTxn", unfollowed := true, recurses := true, apart := false }
def FnExactAbortTxnSaid : Prop := fnExactAbortTxnRow.holds Tryz.pinned (OpenSpec.ofChange fnExactAbortTxnSpec)

/-- ITS FALSE NEIGHBOUR: 'it returns false'. Refute it at one input. -/
def fnExactAbortTxnWrong : ChangeSpec := { name := "fnExactAbortTxn", fn := fun _ => fun
  | [d1, d2] => { results := [.lit (.bool false)], args := [d1, d2] }
  | _ => none }
def FnExactAbortTxnWrongFalsely : Prop := fnExactAbortTxnRow.holds Tryz.pinned (OpenSpec.ofChange fnExactAbortTxnWrong)

/-- 'laws.FnExactRollTo': WHATEVER THE INPUT: true; the input reads as it did. -/
def fnExactRollToSpec : ChangeSpec := { name := "fnExactRollTo", fn := fun _ => fun
  | [d1, d2, d3] => { results := [.lit (.bool true)], args := [d1, d2, d3] }
  | _ => none }
def fnExactRollToRow : OpenClaim := { program := "ytnhlcadipkmhhaagreat", sum := "e1a62fdfad1be6e7ebf7b503dcc2e1432bdd6b473658309f0dc4757c4fcf930f", func := "loop.example/g00216/laws.FnExactRollTo", spec := "fnExactRollTo", unfollowed := true, recurses := true, apart := false }
def FnExactRollToSaid : Prop := fnExactRollToRow.holds Tryz.pinned (OpenSpec.ofChange fnExactRollToSpec)

/-- ITS FALSE NEIGHBOUR: 'it returns false'. Refute it at one input. -/
def fnExactRollToWrong : ChangeSpec := { name := "fnExactRollTo", fn := fun _ => fun
  | [d1, d2, d3] => { results := [.lit (.bool false)], args := [d1, d2, d3] }
  | _ => none }
def FnExactRollToWrongFalsely : Prop := fnExactRollToRow.holds Tryz.pinned (OpenSpec.ofChange fnExactRollToWrong)

/- THE SECOND FORM. 'bulk': how many values and letters a reading holds, each counted each time it is reached (what is shared counts as often as it is met; a slice's spare places count too). A statement '..UptoSaid' is the law's where the arguments, and the package variables that the reading takes, are together of bulk at most 1048576: NARROWER than '..Said'. Prove '..Said' where nothing that the law and all that it calls make is longer than what came in: it says more and counts as full. Else prove '..UptoSaid'. A law counts once. -/
mutual
def uptoBulk {H : Type} : DataW H → Nat
  | .lit (.string bytes) => bytes.length + 1
  | .lit _ => 1
  | .nil => 1
  | .ptr d => uptoBulk d + 1
  | .slice elems spare => uptoBulkAll elems + uptoBulkAll spare + 1
  | .agg parts => uptoBulkAll parts + 1
  | .iface _ d => uptoBulk d + 1
  | .map entries => uptoBulkEntries entries + 1
  | .held _ => 1
def uptoBulkAll {H : Type} : List (DataW H) → Nat
  | [] => 0
  | d :: r => uptoBulk d + uptoBulkAll r
def uptoBulkEntries {H : Type} : List (Lit × DataW H) → Nat
  | [] => 0
  | x :: r => uptoBulkEntry x + uptoBulkEntries r
def uptoBulkEntry {H : Type} : Lit × DataW H → Nat
  | (.string bytes, d) => bytes.length + uptoBulk d + 1
  | (_, d) => uptoBulk d + 1
 end
def uptoSmall : (H : Type) → List (DataW H) → Bool := fun _ ds => decide (uptoBulkAll ds ≤ 1048576)
def OpenSpec.upto (s : _root_.Go.ChangeSpec) : _root_.Go.OpenSpec := { _root_.Go.OpenSpec.ofChange s with cond := some uptoSmall }

/-- 'laws.FnExactSameAnswers', WHERE WHAT IT READS IS OF BULK AT MOST 1048576: true; the input reads as it did. -/
def fnExactSameAnswersUptoRow : OpenClaim := { program := "ytnhlcadipkmhhaagreat", sum := "e1a62fdfad1be6e7ebf7b503dcc2e1432bdd6b473658309f0dc4757c4fcf930f", func := "loop.example/g00216/laws.FnExactSameAnswers", spec := "fnExactSameAnswers", unfollowed := true, recurses := true, apart := false, narrowed := true }
def FnExactSameAnswersUptoSaid : Prop := fnExactSameAnswersUptoRow.holds Tryz.pinned (OpenSpec.upto fnExactSameAnswersSpec)

/-- 'laws.FnExactPurgeEngine', WHERE WHAT IT READS IS OF BULK AT MOST 1048576: true; the input reads as it did. -/
def fnExactPurgeEngineUptoRow : OpenClaim := { program := "ytnhlcadipkmhhaagreat", sum := "e1a62fdfad1be6e7ebf7b503dcc2e1432bdd6b473658309f0dc4757c4fcf930f", func := "loop.example/g00216/laws.FnExactPurgeEngine", spec := "fnExactPurgeEngine", unfollowed := true, recurses := true, apart := false, narrowed := true }
def FnExactPurgeEngineUptoSaid : Prop := fnExactPurgeEngineUptoRow.holds Tryz.pinned (OpenSpec.upto fnExactPurgeEngineSpec)

/-- 'laws.FnExactGarbageOf', WHERE WHAT IT READS IS OF BULK AT MOST 1048576: true; the input reads as it did. -/
def fnExactGarbageOfUptoRow : OpenClaim := { program := "ytnhlcadipkmhhaagreat", sum := "e1a62fdfad1be6e7ebf7b503dcc2e1432bdd6b473658309f0dc4757c4fcf930f", func := "loop.example/g00216/laws.FnExactGarbageOf", spec := "fnExactGarbageOf", unfollowed := true, recurses := true, apart := false, narrowed := true }
def FnExactGarbageOfUptoSaid : Prop := fnExactGarbageOfUptoRow.holds Tryz.pinned (OpenSpec.upto fnExactGarbageOfSpec)

/-- 'laws.FnExactAbortTxn', WHERE WHAT IT READS IS OF BULK AT MOST 1048576: true; the input reads as it did. -/
def fnExactAbortTxnUptoRow : OpenClaim := { program := "ytnhlcadipkmhhaagreat", sum := "e1a62fdfad1be6e7ebf7b503dcc2e1432bdd6b473658309f0dc4757c4fcf930f", func := "loop.example/g00216/laws.FnExactAbortTxn", spec := "fnExactAbortTxn", unfollowed := true, recurses := true, apart := false, narrowed := true }
def FnExactAbortTxnUptoSaid : Prop := fnExactAbortTxnUptoRow.holds Tryz.pinned (OpenSpec.upto fnExactAbortTxnSpec)

/-- 'laws.FnExactRollTo', WHERE WHAT IT READS IS OF BULK AT MOST 1048576: true; the input reads as it did. -/
def fnExactRollToUptoRow : OpenClaim := { program := "ytnhlcadipkmhhaagreat", sum := "e1a62fdfad1be6e7ebf7b503dcc2e1432bdd6b473658309f0dc4757c4fcf930f", func := "loop.example/g00216/laws.FnExactRollTo", spec := "fnExactRollTo", unfollowed := true, recurses := true, apart := false, narrowed := true }
def FnExactRollToUptoSaid : Prop := fnExactRollToUptoRow.holds Tryz.pinned (OpenSpec.upto fnExactRollToSpec)

end Rows
end Go.Proofs.YtnhlcadipkmhhaaGreat
