/-
  No cell of these rows narrows 'for every input' (looked for: loops, veiled, ifaces, maps, wideKeys, modest, calm, conditions, laid).
  DERIVED. THE GIVEN ROWS OF THIS SEAT. 3 by the template 'for every input the law returns true; each argument reads behind the call as it read before'; 0 by the template 'total and deterministic' (their statements: YtaokclhcmgbgnaaGreatTotals.lean).
  GIVEN WITH THE SEED: the statements are not yours to turn. If you find one false, say at which input.
  Laid BY PROGRAM, IN A SANDBOX (cutbox-rows.mjs): the forced cells as the released guide's own fill.sh prints them over the translation 44e5a71d2b5591f6… (all of the seat's roots in one cut). By AI agents, Wed Nov 11 2026. No macro, syntax, notation, axiom, sorry.
-/
import Derived.Test.YtaokclhcmgbgnaaGreatChecked
import GoSem.Claim
import GoSem.ClaimJoined
import GoSem.ClaimMapViews
import Derived.JoinedTies
import Derived.KernelRfl
namespace Go.Proofs.YtaokclhcmgbgnaaGreat
/- THE CELL 'sum', in the pinned program and in every row, IS THE sha256 OF THE DUMP (.gsa) THAT YtaokclhcmgbgnaaGreatProg.lean LOADS. Nothing in Lean hashes anything: it is a label: what it is worth is what the hold of that sum in a sandbox is worth. -/
noncomputable def Tryz.pinned : Pinned := { name := "ytaokclhcmgbgnaagreat", sum := "44e5a71d2b5591f6e0ab9ed399380332d67535fcb10a1853e88be1e42617f766", checked := Tryz.checked }
namespace Rows
def none {H : Type} : Left H := { results := [], args := [] }

/-- 'laws.FnExactFlushPage': WHATEVER THE INPUT: true; the input reads as it did. -/
def fnExactFlushPageSpec : ChangeSpec := { name := "fnExactFlushPage", fn := fun _ => fun
  | [d1, d2] => { results := [.lit (.bool true)], args := [d1, d2] }
  | _ => none }
def fnExactFlushPageRow : OpenClaim := { program := "ytaokclhcmgbgnaagreat", sum := "44e5a71d2b5591f6e0ab9ed399380332d67535fcb10a1853e88be1e42617f766", func := "loop.example/g00216/laws.FnExactFlushPage", spec := "fnExactFlushPage", unfollowed := true, recurses := true, apart := false }
def FnExactFlushPageSaid : Prop := fnExactFlushPageRow.holds Tryz.pinned (OpenSpec.ofChange fnExactFlushPageSpec)

/-- ITS FALSE NEIGHBOUR: 'it returns false'. Refute it at one input. -/
def fnExactFlushPageWrong : ChangeSpec := { name := "fnExactFlushPage", fn := fun _ => fun
  | [d1, d2] => { results := [.lit (.bool false)], args := [d1, d2] }
  | _ => none }
def FnExactFlushPageWrongFalsely : Prop := fnExactFlushPageRow.holds Tryz.pinned (OpenSpec.ofChange fnExactFlushPageWrong)

/-- 'laws.FnExactAbortStore': WHATEVER THE INPUT: true; the input reads as it did. -/
def fnExactAbortStoreSpec : ChangeSpec := { name := "fnExactAbortStore", fn := fun _ => fun
  | [d1, d2] => { results := [.lit (.bool true)], args := [d1, d2] }
  | _ => none }
def fnExactAbortStoreRow : OpenClaim := { program := "ytaokclhcmgbgnaagreat", sum := "44e5a71d2b5591f6e0ab9ed399380332d67535fcb10a1853e88be1e42617f766", func := "loop.example/g00216/laws.FnExactAbortStore", spec := "fnExactAbortStore", unfollowed := true, recurses := true, apart := false }
def FnExactAbortStoreSaid : Prop := fnExactAbortStoreRow.holds Tryz.pinned (OpenSpec.ofChange fnExactAbortStoreSpec)

/-- ITS FALSE NEIGHBOUR: 'it returns false'. Refute it at one input. -/
def fnExactAbortStoreWrong : ChangeSpec := { name := "fnExactAbortStore", fn := fun _ => fun
  | [d1, d2] => { results := [.lit (.bool false)], args := [d1, d2] }
  | _ => none }
def FnExactAbortStoreWrongFalsely : Prop := fnExactAbortStoreRow.holds Tryz.pinned (OpenSpec.ofChange fnExactAbortStoreWrong)

/-- 'laws.FnExactPutStore': WHATEVER THE INPUT: true; the input reads as it did. -/
def fnExactPutStoreSpec : ChangeSpec := { name := "fnExactPutStore", fn := fun _ => fun
  | [d1, d2, d3, d4, d5] => { results := [.lit (.bool true)], args := [d1, d2, d3, d4, d5] }
  | _ => none }
def fnExactPutStoreRow : OpenClaim := { program := "ytaokclhcmgbgnaagreat", sum := "44e5a71d2b5591f6e0ab9ed399380332d67535fcb10a1853e88be1e42617f766", func := "loop.example/g00216/laws.FnExactPutStore", spec := "fnExactPutStore", inPlace := ["slices.overlaps[loop.example/g00216/impl.Held]"], unfollowed := true, recurses := true, apart := false }
def FnExactPutStoreSaid : Prop := fnExactPutStoreRow.holds Tryz.pinned (OpenSpec.ofChange fnExactPutStoreSpec)

/-- ITS FALSE NEIGHBOUR: 'it returns false'. Refute it at one input. -/
def fnExactPutStoreWrong : ChangeSpec := { name := "fnExactPutStore", fn := fun _ => fun
  | [d1, d2, d3, d4, d5] => { results := [.lit (.bool false)], args := [d1, d2, d3, d4, d5] }
  | _ => none }
def FnExactPutStoreWrongFalsely : Prop := fnExactPutStoreRow.holds Tryz.pinned (OpenSpec.ofChange fnExactPutStoreWrong)

/- THE SECOND FORM. 'bulk': how many values and letters a reading holds, each counted each time it is reached (what is shared counts as often as it is met; a slice's spare places count too). A statement '..UptoSaid' is the law's where the arguments, and the package variables that the reading takes, are together of bulk at most 1048576: NARROWER than '..Said'. Prove '..Said' where nothing that the law and all that it calls make is longer than what came in: it says more and counts as full. Else prove '..UptoSaid'. A law counts once. -/
mutual
def uptoBulk {H : Type} : DataW H → Nat
  | .lit (.string bytes) => bytes.length + 1
  | .lit _ => 1
  | .nil => 1
  | .ptr d => uptoBulk d + 1
  | .slice elems spare => uptoBulkAll elems + uptoBulkAll spare + 1
  | .agg parts => uptoBulkAll parts + 1
  | .iface _ d => uptoBulk d + 1
  | .map entries => uptoBulkEntries entries + 1
  | .held _ => 1
def uptoBulkAll {H : Type} : List (DataW H) → Nat
  | [] => 0
  | d :: r => uptoBulk d + uptoBulkAll r
def uptoBulkEntries {H : Type} : List (Lit × DataW H) → Nat
  | [] => 0
  | x :: r => uptoBulkEntry x + uptoBulkEntries r
def uptoBulkEntry {H : Type} : Lit × DataW H → Nat
  | (.string bytes, d) => bytes.length + uptoBulk d + 1
  | (_, d) => uptoBulk d + 1
 end
def uptoSmall : (H : Type) → List (DataW H) → Bool := fun _ ds => decide (uptoBulkAll ds ≤ 1048576)
def OpenSpec.upto (s : _root_.Go.ChangeSpec) : _root_.Go.OpenSpec := { _root_.Go.OpenSpec.ofChange s with cond := some uptoSmall }

/-- 'laws.FnExactFlushPage', WHERE WHAT IT READS IS OF BULK AT MOST 1048576: true; the input reads as it did. -/
def fnExactFlushPageUptoRow : OpenClaim := { program := "ytaokclhcmgbgnaagreat", sum := "44e5a71d2b5591f6e0ab9ed399380332d67535fcb10a1853e88be1e42617f766", func := "loop.example/g00216/laws.FnExactFlushPage", spec := "fnExactFlushPage", unfollowed := true, recurses := true, apart := false, narrowed := true }
def FnExactFlushPageUptoSaid : Prop := fnExactFlushPageUptoRow.holds Tryz.pinned (OpenSpec.upto fnExactFlushPageSpec)

/-- 'laws.FnExactAbortStore', WHERE WHAT IT READS IS OF BULK AT MOST 1048576: true; the input reads as it did. -/
def fnExactAbortStoreUptoRow : OpenClaim := { program := "ytaokclhcmgbgnaagreat", sum := "44e5a71d2b5591f6e0ab9ed399380332d67535fcb10a1853e88be1e42617f766", func := "loop.example/g00216/laws.FnExactAbortStore", spec := "fnExactAbortStore", unfollowed := true, recurses := true, apart := false, narrowed := true }
def FnExactAbortStoreUptoSaid : Prop := fnExactAbortStoreUptoRow.holds Tryz.pinned (OpenSpec.upto fnExactAbortStoreSpec)

/-- 'laws.FnExactPutStore', WHERE WHAT IT READS IS OF BULK AT MOST 1048576: true; the input reads as it did. -/
def fnExactPutStoreUptoRow : OpenClaim := { program := "ytaokclhcmgbgnaagreat", sum := "44e5a71d2b5591f6e0ab9ed399380332d67535fcb10a1853e88be1e42617f766", func := "loop.example/g00216/laws.FnExactPutStore", spec := "fnExactPutStore", inPlace := ["slices.overlaps[loop.example/g00216/impl.Held]"], unfollowed := true, recurses := true, apart := false, narrowed := true }
def FnExactPutStoreUptoSaid : Prop := fnExactPutStoreUptoRow.holds Tryz.pinned (OpenSpec.upto fnExactPutStoreSpec)

end Rows
end Go.Proofs.YtaokclhcmgbgnaaGreat
