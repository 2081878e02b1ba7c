/-
  No cell of these rows narrows 'for every input' (looked for: loops, veiled, ifaces, maps, wideKeys, modest, calm, conditions, laid).
  DERIVED. THE GIVEN ROWS OF THIS SEAT. 8 by the template 'for every input the law returns true; each argument reads behind the call as it read before'; 0 by the template 'total and deterministic' (their statements: YtmegbinpclclaaaTotals.lean).
  GIVEN WITH THE SEED: the statements are not yours to turn. If you find one false, say at which input.
  Laid BY PROGRAM, IN A SANDBOX (cutbox-rows.mjs): the forced cells as the released guide's own fill.sh prints them over the translation c1bf74329679f8a0… (all of the seat's roots in one cut). By AI agents, Wed Nov 11 2026. No macro, syntax, notation, axiom, sorry.
-/
import Derived.Test.YtmegbinpclclaaaChecked
import GoSem.Claim
import GoSem.ClaimJoined
import GoSem.ClaimMapViews
import Derived.JoinedTies
import Derived.KernelRfl
namespace Go.Proofs.Ytmegbinpclclaaa
/- THE CELL 'sum', in the pinned program and in every row, IS THE sha256 OF THE DUMP (.gsa) THAT YtmegbinpclclaaaProg.lean LOADS. Nothing in Lean hashes anything: it is a label: what it is worth is what the hold of that sum in a sandbox is worth. -/
noncomputable def Try.pinned : Pinned := { name := "ytmegbinpclclaaa", sum := "c1bf74329679f8a0d4b62572e72fca77f1f609b39878bfb40742667f75ce982e", checked := Try.checked }
namespace Rows
def none {H : Type} : Left H := { results := [], args := [] }

/-- 'laws.FnExactChainFault': WHATEVER THE INPUT: true; the input reads as it did. -/
def fnExactChainFaultSpec : ChangeSpec := { name := "fnExactChainFault", fn := fun _ => fun
  | [d] => { results := [.lit (.bool true)], args := [d] }
  | _ => none }
def fnExactChainFaultRow : OpenClaim := { program := "ytmegbinpclclaaa", sum := "c1bf74329679f8a0d4b62572e72fca77f1f609b39878bfb40742667f75ce982e", func := "loop.example/g00216/laws.FnExactChainFault", spec := "fnExactChainFault", apart := false }
def FnExactChainFaultSaid : Prop := fnExactChainFaultRow.holds Try.pinned (OpenSpec.ofChange fnExactChainFaultSpec)

/-- ITS FALSE NEIGHBOUR: 'it returns false'. Refute it at one input. -/
def fnExactChainFaultWrong : ChangeSpec := { name := "fnExactChainFault", fn := fun _ => fun
  | [d] => { results := [.lit (.bool false)], args := [d] }
  | _ => none }
def FnExactChainFaultWrongFalsely : Prop := fnExactChainFaultRow.holds Try.pinned (OpenSpec.ofChange fnExactChainFaultWrong)

/-- 'laws.FnExactSeenIn': WHATEVER THE INPUT: true; the input reads as it did. -/
def fnExactSeenInSpec : ChangeSpec := { name := "fnExactSeenIn", fn := fun _ => fun
  | [d1, d2] => { results := [.lit (.bool true)], args := [d1, d2] }
  | _ => none }
def fnExactSeenInRow : OpenClaim := { program := "ytmegbinpclclaaa", sum := "c1bf74329679f8a0d4b62572e72fca77f1f609b39878bfb40742667f75ce982e", func := "loop.example/g00216/laws.FnExactSeenIn", spec := "fnExactSeenIn", apart := false }
def FnExactSeenInSaid : Prop := fnExactSeenInRow.holds Try.pinned (OpenSpec.ofChange fnExactSeenInSpec)

/-- ITS FALSE NEIGHBOUR: 'it returns false'. Refute it at one input. -/
def fnExactSeenInWrong : ChangeSpec := { name := "fnExactSeenIn", fn := fun _ => fun
  | [d1, d2] => { results := [.lit (.bool false)], args := [d1, d2] }
  | _ => none }
def FnExactSeenInWrongFalsely : Prop := fnExactSeenInRow.holds Try.pinned (OpenSpec.ofChange fnExactSeenInWrong)

/-- 'laws.FnExactWriterOf': WHATEVER THE INPUT: true; the input reads as it did. -/
def fnExactWriterOfSpec : ChangeSpec := { name := "fnExactWriterOf", fn := fun _ => fun
  | [d] => { results := [.lit (.bool true)], args := [d] }
  | _ => none }
def fnExactWriterOfRow : OpenClaim := { program := "ytmegbinpclclaaa", sum := "c1bf74329679f8a0d4b62572e72fca77f1f609b39878bfb40742667f75ce982e", func := "loop.example/g00216/laws.FnExactWriterOf", spec := "fnExactWriterOf", apart := false }
def FnExactWriterOfSaid : Prop := fnExactWriterOfRow.holds Try.pinned (OpenSpec.ofChange fnExactWriterOfSpec)

/-- ITS FALSE NEIGHBOUR: 'it returns false'. Refute it at one input. -/
def fnExactWriterOfWrong : ChangeSpec := { name := "fnExactWriterOf", fn := fun _ => fun
  | [d] => { results := [.lit (.bool false)], args := [d] }
  | _ => none }
def FnExactWriterOfWrongFalsely : Prop := fnExactWriterOfRow.holds Try.pinned (OpenSpec.ofChange fnExactWriterOfWrong)

/-- 'laws.FnExactMayWrite': WHATEVER THE INPUT: true; the input reads as it did. -/
def fnExactMayWriteSpec : ChangeSpec := { name := "fnExactMayWrite", fn := fun _ => fun
  | [d1, d2] => { results := [.lit (.bool true)], args := [d1, d2] }
  | _ => none }
def fnExactMayWriteRow : OpenClaim := { program := "ytmegbinpclclaaa", sum := "c1bf74329679f8a0d4b62572e72fca77f1f609b39878bfb40742667f75ce982e", func := "loop.example/g00216/laws.FnExactMayWrite", spec := "fnExactMayWrite", apart := false }
def FnExactMayWriteSaid : Prop := fnExactMayWriteRow.holds Try.pinned (OpenSpec.ofChange fnExactMayWriteSpec)

/-- ITS FALSE NEIGHBOUR: 'it returns false'. Refute it at one input. -/
def fnExactMayWriteWrong : ChangeSpec := { name := "fnExactMayWrite", fn := fun _ => fun
  | [d1, d2] => { results := [.lit (.bool false)], args := [d1, d2] }
  | _ => none }
def FnExactMayWriteWrongFalsely : Prop := fnExactMayWriteRow.holds Try.pinned (OpenSpec.ofChange fnExactMayWriteWrong)

/-- 'laws.FnExactPushVersion': WHATEVER THE INPUT: true; the input reads as it did. -/
def fnExactPushVersionSpec : ChangeSpec := { name := "fnExactPushVersion", fn := fun _ => fun
  | [d1, d2, d3, d4] => { results := [.lit (.bool true)], args := [d1, d2, d3, d4] }
  | _ => none }
def fnExactPushVersionRow : OpenClaim := { program := "ytmegbinpclclaaa", sum := "c1bf74329679f8a0d4b62572e72fca77f1f609b39878bfb40742667f75ce982e", func := "loop.example/g00216/laws.FnExactPushVersion", spec := "fnExactPushVersion", apart := false }
def FnExactPushVersionSaid : Prop := fnExactPushVersionRow.holds Try.pinned (OpenSpec.ofChange fnExactPushVersionSpec)

/-- ITS FALSE NEIGHBOUR: 'it returns false'. Refute it at one input. -/
def fnExactPushVersionWrong : ChangeSpec := { name := "fnExactPushVersion", fn := fun _ => fun
  | [d1, d2, d3, d4] => { results := [.lit (.bool false)], args := [d1, d2, d3, d4] }
  | _ => none }
def FnExactPushVersionWrongFalsely : Prop := fnExactPushVersionRow.holds Try.pinned (OpenSpec.ofChange fnExactPushVersionWrong)

/-- 'laws.FnExactCommitChain': WHATEVER THE INPUT: true; the input reads as it did. -/
def fnExactCommitChainSpec : ChangeSpec := { name := "fnExactCommitChain", fn := fun _ => fun
  | [d1, d2, d3] => { results := [.lit (.bool true)], args := [d1, d2, d3] }
  | _ => none }
def fnExactCommitChainRow : OpenClaim := { program := "ytmegbinpclclaaa", sum := "c1bf74329679f8a0d4b62572e72fca77f1f609b39878bfb40742667f75ce982e", func := "loop.example/g00216/laws.FnExactCommitChain", spec := "fnExactCommitChain", apart := false }
def FnExactCommitChainSaid : Prop := fnExactCommitChainRow.holds Try.pinned (OpenSpec.ofChange fnExactCommitChainSpec)

/-- ITS FALSE NEIGHBOUR: 'it returns false'. Refute it at one input. -/
def fnExactCommitChainWrong : ChangeSpec := { name := "fnExactCommitChain", fn := fun _ => fun
  | [d1, d2, d3] => { results := [.lit (.bool false)], args := [d1, d2, d3] }
  | _ => none }
def FnExactCommitChainWrongFalsely : Prop := fnExactCommitChainRow.holds Try.pinned (OpenSpec.ofChange fnExactCommitChainWrong)

/-- 'laws.FnExactRollChain': WHATEVER THE INPUT: true; the input reads as it did. -/
def fnExactRollChainSpec : ChangeSpec := { name := "fnExactRollChain", fn := fun _ => fun
  | [d1, d2] => { results := [.lit (.bool true)], args := [d1, d2] }
  | _ => none }
def fnExactRollChainRow : OpenClaim := { program := "ytmegbinpclclaaa", sum := "c1bf74329679f8a0d4b62572e72fca77f1f609b39878bfb40742667f75ce982e", func := "loop.example/g00216/laws.FnExactRollChain", spec := "fnExactRollChain", apart := false }
def FnExactRollChainSaid : Prop := fnExactRollChainRow.holds Try.pinned (OpenSpec.ofChange fnExactRollChainSpec)

/-- ITS FALSE NEIGHBOUR: 'it returns false'. Refute it at one input. -/
def fnExactRollChainWrong : ChangeSpec := { name := "fnExactRollChain", fn := fun _ => fun
  | [d1, d2] => { results := [.lit (.bool false)], args := [d1, d2] }
  | _ => none }
def FnExactRollChainWrongFalsely : Prop := fnExactRollChainRow.holds Try.pinned (OpenSpec.ofChange fnExactRollChainWrong)

/-- 'laws.FnExactPurgeChain': WHATEVER THE INPUT: true; the input reads as it did. -/
def fnExactPurgeChainSpec : ChangeSpec := { name := "fnExactPurgeChain", fn := fun _ => fun
  | [d1, d2] => { results := [.lit (.bool true)], args := [d1, d2] }
  | _ => none }
def fnExactPurgeChainRow : OpenClaim := { program := "ytmegbinpclclaaa", sum := "c1bf74329679f8a0d4b62572e72fca77f1f609b39878bfb40742667f75ce982e", func := "loop.example/g00216/laws.FnExactPurgeChain", spec := "fnExactPurgeChain", apart := false }
def FnExactPurgeChainSaid : Prop := fnExactPurgeChainRow.holds Try.pinned (OpenSpec.ofChange fnExactPurgeChainSpec)

/-- ITS FALSE NEIGHBOUR: 'it returns false'. Refute it at one input. -/
def fnExactPurgeChainWrong : ChangeSpec := { name := "fnExactPurgeChain", fn := fun _ => fun
  | [d1, d2] => { results := [.lit (.bool false)], args := [d1, d2] }
  | _ => none }
def FnExactPurgeChainWrongFalsely : Prop := fnExactPurgeChainRow.holds Try.pinned (OpenSpec.ofChange fnExactPurgeChainWrong)

/- THE SECOND FORM. 'bulk': how many values and letters a reading holds, each counted each time it is reached (what is shared counts as often as it is met; a slice's spare places count too). A statement '..UptoSaid' is the law's where the arguments, and the package variables that the reading takes, are together of bulk at most 1048576: NARROWER than '..Said'. Prove '..Said' where nothing that the law and all that it calls make is longer than what came in: it says more and counts as full. Else prove '..UptoSaid'. A law counts once. -/
mutual
def uptoBulk {H : Type} : DataW H → Nat
  | .lit (.string bytes) => bytes.length + 1
  | .lit _ => 1
  | .nil => 1
  | .ptr d => uptoBulk d + 1
  | .slice elems spare => uptoBulkAll elems + uptoBulkAll spare + 1
  | .agg parts => uptoBulkAll parts + 1
  | .iface _ d => uptoBulk d + 1
  | .map entries => uptoBulkEntries entries + 1
  | .held _ => 1
def uptoBulkAll {H : Type} : List (DataW H) → Nat
  | [] => 0
  | d :: r => uptoBulk d + uptoBulkAll r
def uptoBulkEntries {H : Type} : List (Lit × DataW H) → Nat
  | [] => 0
  | x :: r => uptoBulkEntry x + uptoBulkEntries r
def uptoBulkEntry {H : Type} : Lit × DataW H → Nat
  | (.string bytes, d) => bytes.length + uptoBulk d + 1
  | (_, d) => uptoBulk d + 1
 end
def uptoSmall : (H : Type) → List (DataW H) → Bool := fun _ ds => decide (uptoBulkAll ds ≤ 1048576)
def OpenSpec.upto (s : _root_.Go.ChangeSpec) : _root_.Go.OpenSpec := { _root_.Go.OpenSpec.ofChange s with cond := some uptoSmall }

/-- 'laws.FnExactChainFault', WHERE WHAT IT READS IS OF BULK AT MOST 1048576: true; the input reads as it did. -/
def fnExactChainFaultUptoRow : OpenClaim := { program := "ytmegbinpclclaaa", sum := "c1bf74329679f8a0d4b62572e72fca77f1f609b39878bfb40742667f75ce982e", func := "loop.example/g00216/laws.FnExactChainFault", spec := "fnExactChainFault", apart := false, narrowed := true }
def FnExactChainFaultUptoSaid : Prop := fnExactChainFaultUptoRow.holds Try.pinned (OpenSpec.upto fnExactChainFaultSpec)

/-- 'laws.FnExactSeenIn', WHERE WHAT IT READS IS OF BULK AT MOST 1048576: true; the input reads as it did. -/
def fnExactSeenInUptoRow : OpenClaim := { program := "ytmegbinpclclaaa", sum := "c1bf74329679f8a0d4b62572e72fca77f1f609b39878bfb40742667f75ce982e", func := "loop.example/g00216/laws.FnExactSeenIn", spec := "fnExactSeenIn", apart := false, narrowed := true }
def FnExactSeenInUptoSaid : Prop := fnExactSeenInUptoRow.holds Try.pinned (OpenSpec.upto fnExactSeenInSpec)

/-- 'laws.FnExactWriterOf', WHERE WHAT IT READS IS OF BULK AT MOST 1048576: true; the input reads as it did. -/
def fnExactWriterOfUptoRow : OpenClaim := { program := "ytmegbinpclclaaa", sum := "c1bf74329679f8a0d4b62572e72fca77f1f609b39878bfb40742667f75ce982e", func := "loop.example/g00216/laws.FnExactWriterOf", spec := "fnExactWriterOf", apart := false, narrowed := true }
def FnExactWriterOfUptoSaid : Prop := fnExactWriterOfUptoRow.holds Try.pinned (OpenSpec.upto fnExactWriterOfSpec)

/-- 'laws.FnExactMayWrite', WHERE WHAT IT READS IS OF BULK AT MOST 1048576: true; the input reads as it did. -/
def fnExactMayWriteUptoRow : OpenClaim := { program := "ytmegbinpclclaaa", sum := "c1bf74329679f8a0d4b62572e72fca77f1f609b39878bfb40742667f75ce982e", func := "loop.example/g00216/laws.FnExactMayWrite", spec := "fnExactMayWrite", apart := false, narrowed := true }
def FnExactMayWriteUptoSaid : Prop := fnExactMayWriteUptoRow.holds Try.pinned (OpenSpec.upto fnExactMayWriteSpec)

/-- 'laws.FnExactPushVersion', WHERE WHAT IT READS IS OF BULK AT MOST 1048576: true; the input reads as it did. -/
def fnExactPushVersionUptoRow : OpenClaim := { program := "ytmegbinpclclaaa", sum := "c1bf74329679f8a0d4b62572e72fca77f1f609b39878bfb40742667f75ce982e", func := "loop.example/g00216/laws.FnExactPushVersion", spec := "fnExactPushVersion", apart := false, narrowed := true }
def FnExactPushVersionUptoSaid : Prop := fnExactPushVersionUptoRow.holds Try.pinned (OpenSpec.upto fnExactPushVersionSpec)

/-- 'laws.FnExactCommitChain', WHERE WHAT IT READS IS OF BULK AT MOST 1048576: true; the input reads as it did. -/
def fnExactCommitChainUptoRow : OpenClaim := { program := "ytmegbinpclclaaa", sum := "c1bf74329679f8a0d4b62572e72fca77f1f609b39878bfb40742667f75ce982e", func := "loop.example/g00216/laws.FnExactCommitChain", spec := "fnExactCommitChain", apart := false, narrowed := true }
def FnExactCommitChainUptoSaid : Prop := fnExactCommitChainUptoRow.holds Try.pinned (OpenSpec.upto fnExactCommitChainSpec)

/-- 'laws.FnExactRollChain', WHERE WHAT IT READS IS OF BULK AT MOST 1048576: true; the input reads as it did. -/
def fnExactRollChainUptoRow : OpenClaim := { program := "ytmegbinpclclaaa", sum := "c1bf74329679f8a0d4b62572e72fca77f1f609b39878bfb40742667f75ce982e", func := "loop.example/g00216/laws.FnExactRollChain", spec := "fnExactRollChain", apart := false, narrowed := true }
def FnExactRollChainUptoSaid : Prop := fnExactRollChainUptoRow.holds Try.pinned (OpenSpec.upto fnExactRollChainSpec)

/-- 'laws.FnExactPurgeChain', WHERE WHAT IT READS IS OF BULK AT MOST 1048576: true; the input reads as it did. -/
def fnExactPurgeChainUptoRow : OpenClaim := { program := "ytmegbinpclclaaa", sum := "c1bf74329679f8a0d4b62572e72fca77f1f609b39878bfb40742667f75ce982e", func := "loop.example/g00216/laws.FnExactPurgeChain", spec := "fnExactPurgeChain", apart := false, narrowed := true }
def FnExactPurgeChainUptoSaid : Prop := fnExactPurgeChainUptoRow.holds Try.pinned (OpenSpec.upto fnExactPurgeChainSpec)

end Rows
end Go.Proofs.Ytmegbinpclclaaa
