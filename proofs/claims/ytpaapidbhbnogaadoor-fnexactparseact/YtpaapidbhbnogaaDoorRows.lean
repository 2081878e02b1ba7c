/-
  NARROWER THAN 'FOR EVERY INPUT', by the rows' own cells (each row's printed sentence says how): FnExactParseAct: laid.
  DERIVED. THE GIVEN ROWS OF THIS SEAT. 1 by the template 'for every input the law returns true; each argument reads behind the call as it read before'; 0 by the template 'total and deterministic' (their statements: YtpaapidbhbnogaaDoorTotals.lean).
  GIVEN WITH THE SEED: the statements are not yours to turn. If you find one false, say at which input.
  Laid BY PROGRAM, IN A SANDBOX (cutbox-rows.mjs): the forced cells as the released guide's own fill.sh prints them over the translation f6eb12471837b47c… (all of the seat's roots in one cut). By AI agents, Wed Nov 11 2026. No macro, syntax, notation, axiom, sorry.
-/
import Derived.Test.YtpaapidbhbnogaaDoorChecked
import GoSem.Claim
import GoSem.ClaimJoined
import GoSem.ClaimMapViews
import Derived.JoinedTies
import Derived.KernelRfl
namespace Go.Proofs.YtpaapidbhbnogaaDoor
/- THE CELL 'sum', in the pinned program and in every row, IS THE sha256 OF THE DUMP (.gsa) THAT YtpaapidbhbnogaaDoorProg.lean LOADS. Nothing in Lean hashes anything: it is a label: what it is worth is what the hold of that sum in a sandbox is worth. -/
noncomputable def Tryd.pinned : Pinned := { name := "ytpaapidbhbnogaadoor", sum := "f6eb12471837b47c12aca90ce74fd9857fd87b5d8dbc5b14621b2c9df5cea99e", checked := Tryd.checked }
namespace Rows
def none {H : Type} : Left H := { results := [], args := [] }

/- WHAT THE LISTED PACKAGE-LEVEL VARIABLES READ AS WHEN THE CALL BEGINS. Each datum BY PROGRAM (the guide's laid-datum.mjs) off the statement by which the dump's own 'gosem.cut.vars' lays the variable. In a bare row this is a premise. The card (YtpaapidbhbnogaaDoorCards.lean) ties it to the program's text. -/
def laid_loop_example_g00216_impl_actForms {H : Type} : DataW H := .agg [.agg [.lit (.string []), .lit (.int .i64 0)], .agg [.lit (.string [98, 101, 103, 105, 110]), .lit (.int .i64 0)], .agg [.lit (.string [103, 101, 116]), .lit (.int .i64 2)], .agg [.lit (.string [115, 99, 97, 110]), .lit (.int .i64 1)], .agg [.lit (.string [112, 117, 116]), .lit (.int .i64 3)], .agg [.lit (.string [100, 114, 111, 112]), .lit (.int .i64 2)], .agg [.lit (.string [99, 111, 109, 109, 105, 116]), .lit (.int .i64 1)], .agg [.lit (.string [97, 98, 111, 114, 116]), .lit (.int .i64 1)]]

/-- 'laws.FnExactParseAct': WHATEVER THE INPUT: true; the input reads as it did. -/
def fnExactParseActSpec : ChangeSpec := { name := "fnExactParseAct", vars := ["loop.example/g00216/impl.actForms"], fn := fun _ => fun
  | [d, g1] => { results := [.lit (.bool true)], args := [d], vars := [g1] }
  | _ => none }
def fnExactParseActRow : OpenClaim := { program := "ytpaapidbhbnogaadoor", sum := "f6eb12471837b47c12aca90ce74fd9857fd87b5d8dbc5b14621b2c9df5cea99e", func := "loop.example/g00216/laws.FnExactParseAct", spec := "fnExactParseAct", named := ["loop.example/g00216/impl.actForms"], apart := false, laid := [("loop.example/g00216/impl.actForms", laid_loop_example_g00216_impl_actForms)] }
def FnExactParseActSaid : Prop := fnExactParseActRow.holds Tryd.pinned (OpenSpec.ofChange fnExactParseActSpec)

/-- ITS FALSE NEIGHBOUR: 'it returns false'. Refute it at one input. -/
def fnExactParseActWrong : ChangeSpec := { name := "fnExactParseAct", vars := ["loop.example/g00216/impl.actForms"], fn := fun _ => fun
  | [d, g1] => { results := [.lit (.bool false)], args := [d], vars := [g1] }
  | _ => none }
def FnExactParseActWrongFalsely : Prop := fnExactParseActRow.holds Tryd.pinned (OpenSpec.ofChange fnExactParseActWrong)

/- THE SECOND FORM. 'bulk': how many values and letters a reading holds, each counted each time it is reached (what is shared counts as often as it is met; a slice's spare places count too). A statement '..UptoSaid' is the law's where the arguments, and the package variables that the reading takes, are together of bulk at most 1048576: NARROWER than '..Said'. Prove '..Said' where nothing that the law and all that it calls make is longer than what came in: it says more and counts as full. Else prove '..UptoSaid'. A law counts once. -/
mutual
def uptoBulk {H : Type} : DataW H → Nat
  | .lit (.string bytes) => bytes.length + 1
  | .lit _ => 1
  | .nil => 1
  | .ptr d => uptoBulk d + 1
  | .slice elems spare => uptoBulkAll elems + uptoBulkAll spare + 1
  | .agg parts => uptoBulkAll parts + 1
  | .iface _ d => uptoBulk d + 1
  | .map entries => uptoBulkEntries entries + 1
  | .held _ => 1
def uptoBulkAll {H : Type} : List (DataW H) → Nat
  | [] => 0
  | d :: r => uptoBulk d + uptoBulkAll r
def uptoBulkEntries {H : Type} : List (Lit × DataW H) → Nat
  | [] => 0
  | x :: r => uptoBulkEntry x + uptoBulkEntries r
def uptoBulkEntry {H : Type} : Lit × DataW H → Nat
  | (.string bytes, d) => bytes.length + uptoBulk d + 1
  | (_, d) => uptoBulk d + 1
 end
def uptoSmall : (H : Type) → List (DataW H) → Bool := fun _ ds => decide (uptoBulkAll ds ≤ 1048576)
def OpenSpec.upto (s : _root_.Go.ChangeSpec) : _root_.Go.OpenSpec := { _root_.Go.OpenSpec.ofChange s with cond := some uptoSmall }

/-- 'laws.FnExactParseAct', WHERE WHAT IT READS IS OF BULK AT MOST 1048576: true; the input reads as it did. -/
def fnExactParseActUptoRow : OpenClaim := { program := "ytpaapidbhbnogaadoor", sum := "f6eb12471837b47c12aca90ce74fd9857fd87b5d8dbc5b14621b2c9df5cea99e", func := "loop.example/g00216/laws.FnExactParseAct", spec := "fnExactParseAct", named := ["loop.example/g00216/impl.actForms"], apart := false, laid := [("loop.example/g00216/impl.actForms", laid_loop_example_g00216_impl_actForms)], narrowed := true }
def FnExactParseActUptoSaid : Prop := fnExactParseActUptoRow.holds Tryd.pinned (OpenSpec.upto fnExactParseActSpec)

end Rows
end Go.Proofs.YtpaapidbhbnogaaDoor
