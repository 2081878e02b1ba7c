/-
  No cell of these rows narrows 'for every input' (looked for: loops, veiled, ifaces, maps, wideKeys, modest, calm, conditions, laid).
  DERIVED. THE GIVEN ROWS OF THIS SEAT. 6 by the template 'for every input the law returns true; each argument reads behind the call as it read before'; 0 by the template 'total and deterministic' (their statements: YtjdodbiphijjgaaGreatTotals.lean).
  GIVEN WITH THE SEED: the statements are not yours to turn. If you find one false, say at which input.
  Laid BY PROGRAM, IN A SANDBOX (cutbox-rows.mjs): the forced cells as the released guide's own fill.sh prints them over the translation 386e6e4fdb10eb9b… (all of the seat's roots in one cut). By AI agents, Wed Nov 11 2026. No macro, syntax, notation, axiom, sorry.
-/
import Derived.Test.YtjdodbiphijjgaaGreatChecked
import GoSem.Claim
import GoSem.ClaimJoined
import GoSem.ClaimMapViews
import Derived.JoinedTies
import Derived.KernelRfl
namespace Go.Proofs.YtjdodbiphijjgaaGreat
/- THE CELL 'sum', in the pinned program and in every row, IS THE sha256 OF THE DUMP (.gsa) THAT YtjdodbiphijjgaaGreatProg.lean LOADS. Nothing in Lean hashes anything: it is a label: what it is worth is what the hold of that sum in a sandbox is worth. -/
noncomputable def Tryz.pinned : Pinned := { name := "ytjdodbiphijjgaagreat", sum := "386e6e4fdb10eb9bb93ea565214f6a308cccb1d7026da2b275046216a55bdfa4", checked := Tryz.checked }
namespace Rows
def none {H : Type} : Left H := { results := [], args := [] }

/-- 'laws.FnExactPutKey': WHATEVER THE INPUT: true; the input reads as it did. -/
def fnExactPutKeySpec : ChangeSpec := { name := "fnExactPutKey", fn := fun _ => fun
  | [d1, d2, d3, d4] => { results := [.lit (.bool true)], args := [d1, d2, d3, d4] }
  | _ => none }
def fnExactPutKeyRow : OpenClaim := { program := "ytjdodbiphijjgaagreat", sum := "386e6e4fdb10eb9bb93ea565214f6a308cccb1d7026da2b275046216a55bdfa4", func := "loop.example/g00216/laws.FnExactPutKey", spec := "fnExactPutKey", inPlace := ["slices.overlaps[loop.example/g00216/impl.Row]"], unfollowed := true, recurses := true, apart := false }
def FnExactPutKeySaid : Prop := fnExactPutKeyRow.holds Tryz.pinned (OpenSpec.ofChange fnExactPutKeySpec)

/-- ITS FALSE NEIGHBOUR: 'it returns false'. Refute it at one input. -/
def fnExactPutKeyWrong : ChangeSpec := { name := "fnExactPutKey", fn := fun _ => fun
  | [d1, d2, d3, d4] => { results := [.lit (.bool false)], args := [d1, d2, d3, d4] }
  | _ => none }
def FnExactPutKeyWrongFalsely : Prop := fnExactPutKeyRow.holds Tryz.pinned (OpenSpec.ofChange fnExactPutKeyWrong)

/-- 'laws.FnExactDropKey': WHATEVER THE INPUT: true; the input reads as it did. -/
def fnExactDropKeySpec : ChangeSpec := { name := "fnExactDropKey", fn := fun _ => fun
  | [d1, d2, d3] => { results := [.lit (.bool true)], args := [d1, d2, d3] }
  | _ => none }
def fnExactDropKeyRow : OpenClaim := { program := "ytjdodbiphijjgaagreat", sum := "386e6e4fdb10eb9bb93ea565214f6a308cccb1d7026da2b275046216a55bdfa4", func := "loop.example/g00216/laws.FnExactDropKey", spec := "fnExactDropKey", inPlace := ["slices.overlaps[loop.example/g00216/impl.Row]"], unfollowed := true, recurses := true, apart := false }
def FnExactDropKeySaid : Prop := fnExactDropKeyRow.holds Tryz.pinned (OpenSpec.ofChange fnExactDropKeySpec)

/-- ITS FALSE NEIGHBOUR: 'it returns false'. Refute it at one input. -/
def fnExactDropKeyWrong : ChangeSpec := { name := "fnExactDropKey", fn := fun _ => fun
  | [d1, d2, d3] => { results := [.lit (.bool false)], args := [d1, d2, d3] }
  | _ => none }
def FnExactDropKeyWrongFalsely : Prop := fnExactDropKeyRow.holds Tryz.pinned (OpenSpec.ofChange fnExactDropKeyWrong)

/-- 'laws.FnExactDoEngine': WHATEVER THE INPUT: true; the input reads as it did. -/
def fnExactDoEngineSpec : ChangeSpec := { name := "fnExactDoEngine", fn := fun _ => fun
  | [d1, d2] => { results := [.lit (.bool true)], args := [d1, d2] }
  | _ => none }
def fnExactDoEngineRow : OpenClaim := { program := "ytjdodbiphijjgaagreat", sum := "386e6e4fdb10eb9bb93ea565214f6a308cccb1d7026da2b275046216a55bdfa4", func := "loop.example/g00216/laws.FnExactDoEngine", spec := "fnExactDoEngine", inPlace := ["slices.overlaps[loop.example/g00216/impl.Row]"], unfollowed := true, recurses := true, apart := false }
def FnExactDoEngineSaid : Prop := fnExactDoEngineRow.holds Tryz.pinned (OpenSpec.ofChange fnExactDoEngineSpec)

/-- ITS FALSE NEIGHBOUR: 'it returns false'. Refute it at one input. -/
def fnExactDoEngineWrong : ChangeSpec := { name := "fnExactDoEngine", fn := fun _ => fun
  | [d1, d2] => { results := [.lit (.bool false)], args := [d1, d2] }
  | _ => none }
def FnExactDoEngineWrongFalsely : Prop := fnExactDoEngineRow.holds Tryz.pinned (OpenSpec.ofChange fnExactDoEngineWrong)

/-- 'laws.FnExactRunEngine': WHATEVER THE INPUT: true; the input reads as it did. -/
def fnExactRunEngineSpec : ChangeSpec := { name := "fnExactRunEngine", fn := fun _ => fun
  | [d1, d2] => { results := [.lit (.bool true)], args := [d1, d2] }
  | _ => none }
def fnExactRunEngineRow : OpenClaim := { program := "ytjdodbiphijjgaagreat", sum := "386e6e4fdb10eb9bb93ea565214f6a308cccb1d7026da2b275046216a55bdfa4", func := "loop.example/g00216/laws.FnExactRunEngine", spec := "fnExactRunEngine", inPlace := ["slices.overlaps[loop.example/g00216/impl.Row]"], unfollowed := true, recurses := true, apart := false }
def FnExactRunEngineSaid : Prop := fnExactRunEngineRow.holds Tryz.pinned (OpenSpec.ofChange fnExactRunEngineSpec)

/-- ITS FALSE NEIGHBOUR: 'it returns false'. Refute it at one input. -/
def fnExactRunEngineWrong : ChangeSpec := { name := "fnExactRunEngine", fn := fun _ => fun
  | [d1, d2] => { results := [.lit (.bool false)], args := [d1, d2] }
  | _ => none }
def FnExactRunEngineWrongFalsely : Prop := fnExactRunEngineRow.holds Tryz.pinned (OpenSpec.ofChange fnExactRunEngineWrong)

/-- 'laws.FnFirsts': WHATEVER THE INPUT: true; the input reads as it did. -/
def fnFirstsSpec : ChangeSpec := { name := "fnFirsts", fn := fun _ => fun
  | [d] => { results := [.lit (.bool true)], args := [d] }
  | _ => none }
def fnFirstsRow : OpenClaim := { program := "ytjdodbiphijjgaagreat", sum := "386e6e4fdb10eb9bb93ea565214f6a308cccb1d7026da2b275046216a55bdfa4", func := "loop.example/g00216/laws.FnFirsts", spec := "fnFirsts", inPlace := ["slices.overlaps[loop.example/g00216/impl.Row]"], unfollowed := true, recurses := true, apart := false }
def FnFirstsSaid : Prop := fnFirstsRow.holds Tryz.pinned (OpenSpec.ofChange fnFirstsSpec)

/-- ITS FALSE NEIGHBOUR: 'it returns false'. Refute it at one input. -/
def fnFirstsWrong : ChangeSpec := { name := "fnFirsts", fn := fun _ => fun
  | [d] => { results := [.lit (.bool false)], args := [d] }
  | _ => none }
def FnFirstsWrongFalsely : Prop := fnFirstsRow.holds Tryz.pinned (OpenSpec.ofChange fnFirstsWrong)

/-- 'laws.FnExactRunSessions': WHATEVER THE INPUT: true; the input reads as it did. -/
def fnExactRunSessionsSpec : ChangeSpec := { name := "fnExactRunSessions", fn := fun _ => fun
  | [d1, d2, d3] => { results := [.lit (.bool true)], args := [d1, d2, d3] }
  | _ => none }
def fnExactRunSessionsRow : OpenClaim := { program := "ytjdodbiphijjgaagreat", sum := "386e6e4fdb10eb9bb93ea565214f6a308cccb1d7026da2b275046216a55bdfa4", func := "loop.example/g00216/laws.FnExactRunSessions", spec := "fnExactRunSessions", inPlace := ["slices.overlaps[loop.example/g00216/impl.Row]"], unfollowed := true, recurses := true, apart := false }
def FnExactRunSessionsSaid : Prop := fnExactRunSessionsRow.holds Tryz.pinned (OpenSpec.ofChange fnExactRunSessionsSpec)

/-- ITS FALSE NEIGHBOUR: 'it returns false'. Refute it at one input. -/
def fnExactRunSessionsWrong : ChangeSpec := { name := "fnExactRunSessions", fn := fun _ => fun
  | [d1, d2, d3] => { results := [.lit (.bool false)], args := [d1, d2, d3] }
  | _ => none }
def FnExactRunSessionsWrongFalsely : Prop := fnExactRunSessionsRow.holds Tryz.pinned (OpenSpec.ofChange fnExactRunSessionsWrong)

/- THE SECOND FORM. 'bulk': how many values and letters a reading holds, each counted each time it is reached (what is shared counts as often as it is met; a slice's spare places count too). A statement '..UptoSaid' is the law's where the arguments, and the package variables that the reading takes, are together of bulk at most 1048576: NARROWER than '..Said'. Prove '..Said' where nothing that the law and all that it calls make is longer than what came in: it says more and counts as full. Else prove '..UptoSaid'. A law counts once. -/
mutual
def uptoBulk {H : Type} : DataW H → Nat
  | .lit (.string bytes) => bytes.length + 1
  | .lit _ => 1
  | .nil => 1
  | .ptr d => uptoBulk d + 1
  | .slice elems spare => uptoBulkAll elems + uptoBulkAll spare + 1
  | .agg parts => uptoBulkAll parts + 1
  | .iface _ d => uptoBulk d + 1
  | .map entries => uptoBulkEntries entries + 1
  | .held _ => 1
def uptoBulkAll {H : Type} : List (DataW H) → Nat
  | [] => 0
  | d :: r => uptoBulk d + uptoBulkAll r
def uptoBulkEntries {H : Type} : List (Lit × DataW H) → Nat
  | [] => 0
  | x :: r => uptoBulkEntry x + uptoBulkEntries r
def uptoBulkEntry {H : Type} : Lit × DataW H → Nat
  | (.string bytes, d) => bytes.length + uptoBulk d + 1
  | (_, d) => uptoBulk d + 1
 end
def uptoSmall : (H : Type) → List (DataW H) → Bool := fun _ ds => decide (uptoBulkAll ds ≤ 1048576)
def OpenSpec.upto (s : _root_.Go.ChangeSpec) : _root_.Go.OpenSpec := { _root_.Go.OpenSpec.ofChange s with cond := some uptoSmall }

/-- 'laws.FnExactPutKey', WHERE WHAT IT READS IS OF BULK AT MOST 1048576: true; the input reads as it did. -/
def fnExactPutKeyUptoRow : OpenClaim := { program := "ytjdodbiphijjgaagreat", sum := "386e6e4fdb10eb9bb93ea565214f6a308cccb1d7026da2b275046216a55bdfa4", func := "loop.example/g00216/laws.FnExactPutKey", spec := "fnExactPutKey", inPlace := ["slices.overlaps[loop.example/g00216/impl.Row]"], unfollowed := true, recurses := true, apart := false, narrowed := true }
def FnExactPutKeyUptoSaid : Prop := fnExactPutKeyUptoRow.holds Tryz.pinned (OpenSpec.upto fnExactPutKeySpec)

/-- 'laws.FnExactDropKey', WHERE WHAT IT READS IS OF BULK AT MOST 1048576: true; the input reads as it did. -/
def fnExactDropKeyUptoRow : OpenClaim := { program := "ytjdodbiphijjgaagreat", sum := "386e6e4fdb10eb9bb93ea565214f6a308cccb1d7026da2b275046216a55bdfa4", func := "loop.example/g00216/laws.FnExactDropKey", spec := "fnExactDropKey", inPlace := ["slices.overlaps[loop.example/g00216/impl.Row]"], unfollowed := true, recurses := true, apart := false, narrowed := true }
def FnExactDropKeyUptoSaid : Prop := fnExactDropKeyUptoRow.holds Tryz.pinned (OpenSpec.upto fnExactDropKeySpec)

/-- 'laws.FnExactDoEngine', WHERE WHAT IT READS IS OF BULK AT MOST 1048576: true; the input reads as it did. -/
def fnExactDoEngineUptoRow : OpenClaim := { program := "ytjdodbiphijjgaagreat", sum := "386e6e4fdb10eb9bb93ea565214f6a308cccb1d7026da2b275046216a55bdfa4", func := "loop.example/g00216/laws.FnExactDoEngine", spec := "fnExactDoEngine", inPlace := ["slices.overlaps[loop.example/g00216/impl.Row]"], unfollowed := true, recurses := true, apart := false, narrowed := true }
def FnExactDoEngineUptoSaid : Prop := fnExactDoEngineUptoRow.holds Tryz.pinned (OpenSpec.upto fnExactDoEngineSpec)

/-- 'laws.FnExactRunEngine', WHERE WHAT IT READS IS OF BULK AT MOST 1048576: true; the input reads as it did. -/
def fnExactRunEngineUptoRow : OpenClaim := { program := "ytjdodbiphijjgaagreat", sum := "386e6e4fdb10eb9bb93ea565214f6a308cccb1d7026da2b275046216a55bdfa4", func := "loop.example/g00216/laws.FnExactRunEngine", spec := "fnExactRunEngine", inPlace := ["slices.overlaps[loop.example/g00216/impl.Row]"], unfollowed := true, recurses := true, apart := false, narrowed := true }
def FnExactRunEngineUptoSaid : Prop := fnExactRunEngineUptoRow.holds Tryz.pinned (OpenSpec.upto fnExactRunEngineSpec)

/-- 'laws.FnFirsts', WHERE WHAT IT READS IS OF BULK AT MOST 1048576: true; the input reads as it did. -/
def fnFirstsUptoRow : OpenClaim := { program := "ytjdodbiphijjgaagreat", sum := "386e6e4fdb10eb9bb93ea565214f6a308cccb1d7026da2b275046216a55bdfa4", func := "loop.example/g00216/laws.FnFirsts", spec := "fnFirsts", inPlace := ["slices.overlaps[loop.example/g00216/impl.Row]"], unfollowed := true, recurses := true, apart := false, narrowed := true }
def FnFirstsUptoSaid : Prop := fnFirstsUptoRow.holds Tryz.pinned (OpenSpec.upto fnFirstsSpec)

/-- 'laws.FnExactRunSessions', WHERE WHAT IT READS IS OF BULK AT MOST 1048576: true; the input reads as it did. -/
def fnExactRunSessionsUptoRow : OpenClaim := { program := "ytjdodbiphijjgaagreat", sum := "386e6e4fdb10eb9bb93ea565214f6a308cccb1d7026da2b275046216a55bdfa4", func := "loop.example/g00216/laws.FnExactRunSessions", spec := "fnExactRunSessions", inPlace := ["slices.overlaps[loop.example/g00216/impl.Row]"], unfollowed := true, recurses := true, apart := false, narrowed := true }
def FnExactRunSessionsUptoSaid : Prop := fnExactRunSessionsUptoRow.holds Tryz.pinned (OpenSpec.upto fnExactRunSessionsSpec)

end Rows
end Go.Proofs.YtjdodbiphijjgaaGreat
