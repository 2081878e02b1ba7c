/-
  No cell of these rows narrows 'for every input' (looked for: loops, veiled, ifaces, maps, wideKeys, modest, calm, conditions, laid).
  DERIVED. THE GIVEN ROWS OF THIS SEAT. 4 by the template 'for every input the law returns true; each argument reads behind the call as it read before'; 0 by the template 'total and deterministic' (their statements: YtenglcgkachomaaTotals.lean).
  GIVEN WITH THE SEED: the statements are not yours to turn. If you find one false, say at which input.
  Laid BY PROGRAM, IN A SANDBOX (cutbox-rows.mjs): the forced cells as the released guide's own fill.sh prints them over the translation be7ed2fc1f3e14e0… (all of the seat's roots in one cut). By AI agents, Wed Nov 11 2026. No macro, syntax, notation, axiom, sorry.
-/
import Derived.Test.YtenglcgkachomaaChecked
import GoSem.Claim
import GoSem.ClaimJoined
import GoSem.ClaimMapViews
import Derived.JoinedTies
import Derived.KernelRfl
namespace Go.Proofs.Ytenglcgkachomaa
/- THE CELL 'sum', in the pinned program and in every row, IS THE sha256 OF THE DUMP (.gsa) THAT YtenglcgkachomaaProg.lean LOADS. Nothing in Lean hashes anything: it is a label: what it is worth is what the hold of that sum in a sandbox is worth. -/
noncomputable def Try.pinned : Pinned := { name := "ytenglcgkachomaa", sum := "be7ed2fc1f3e14e0eee81b8930efad7d6cfd5b8b1dfa08b6b5db63267669111e", checked := Try.checked }
namespace Rows
def none {H : Type} : Left H := { results := [], args := [] }

/-- 'laws.FnExactCellOf': WHATEVER THE INPUT: true; the input reads as it did. -/
def fnExactCellOfSpec : ChangeSpec := { name := "fnExactCellOf", fn := fun _ => fun
  | [d1, d2] => { results := [.lit (.bool true)], args := [d1, d2] }
  | _ => none }
def fnExactCellOfRow : OpenClaim := { program := "ytenglcgkachomaa", sum := "be7ed2fc1f3e14e0eee81b8930efad7d6cfd5b8b1dfa08b6b5db63267669111e", func := "loop.example/g00216/laws.FnExactCellOf", spec := "fnExactCellOf", apart := false }
def FnExactCellOfSaid : Prop := fnExactCellOfRow.holds Try.pinned (OpenSpec.ofChange fnExactCellOfSpec)

/-- ITS FALSE NEIGHBOUR: 'it returns false'. Refute it at one input. -/
def fnExactCellOfWrong : ChangeSpec := { name := "fnExactCellOf", fn := fun _ => fun
  | [d1, d2] => { results := [.lit (.bool false)], args := [d1, d2] }
  | _ => none }
def FnExactCellOfWrongFalsely : Prop := fnExactCellOfRow.holds Try.pinned (OpenSpec.ofChange fnExactCellOfWrong)

/-- 'laws.FnExactSameReplies': WHATEVER THE INPUT: true; the input reads as it did. -/
def fnExactSameRepliesSpec : ChangeSpec := { name := "fnExactSameReplies", fn := fun _ => fun
  | [d1, d2] => { results := [.lit (.bool true)], args := [d1, d2] }
  | _ => none }
def fnExactSameRepliesRow : OpenClaim := { program := "ytenglcgkachomaa", sum := "be7ed2fc1f3e14e0eee81b8930efad7d6cfd5b8b1dfa08b6b5db63267669111e", func := "loop.example/g00216/laws.FnExactSameReplies", spec := "fnExactSameReplies", unfollowed := true, recurses := true, apart := false }
def FnExactSameRepliesSaid : Prop := fnExactSameRepliesRow.holds Try.pinned (OpenSpec.ofChange fnExactSameRepliesSpec)

/-- ITS FALSE NEIGHBOUR: 'it returns false'. Refute it at one input. -/
def fnExactSameRepliesWrong : ChangeSpec := { name := "fnExactSameReplies", fn := fun _ => fun
  | [d1, d2] => { results := [.lit (.bool false)], args := [d1, d2] }
  | _ => none }
def FnExactSameRepliesWrongFalsely : Prop := fnExactSameRepliesRow.holds Try.pinned (OpenSpec.ofChange fnExactSameRepliesWrong)

/-- 'laws.FnExactCopiesFault': WHATEVER THE INPUT: true; the input reads as it did. -/
def fnExactCopiesFaultSpec : ChangeSpec := { name := "fnExactCopiesFault", fn := fun _ => fun
  | [d] => { results := [.lit (.bool true)], args := [d] }
  | _ => none }
def fnExactCopiesFaultRow : OpenClaim := { program := "ytenglcgkachomaa", sum := "be7ed2fc1f3e14e0eee81b8930efad7d6cfd5b8b1dfa08b6b5db63267669111e", func := "loop.example/g00216/laws.FnExactCopiesFault", spec := "fnExactCopiesFault", apart := false }
def FnExactCopiesFaultSaid : Prop := fnExactCopiesFaultRow.holds Try.pinned (OpenSpec.ofChange fnExactCopiesFaultSpec)

/-- ITS FALSE NEIGHBOUR: 'it returns false'. Refute it at one input. -/
def fnExactCopiesFaultWrong : ChangeSpec := { name := "fnExactCopiesFault", fn := fun _ => fun
  | [d] => { results := [.lit (.bool false)], args := [d] }
  | _ => none }
def FnExactCopiesFaultWrongFalsely : Prop := fnExactCopiesFaultRow.holds Try.pinned (OpenSpec.ofChange fnExactCopiesFaultWrong)

/-- 'laws.FnExactNewCopies': WHATEVER THE INPUT: true; the input reads as it did. -/
def fnExactNewCopiesSpec : ChangeSpec := { name := "fnExactNewCopies", fn := fun _ => fun
  | [d] => { results := [.lit (.bool true)], args := [d] }
  | _ => none }
def fnExactNewCopiesRow : OpenClaim := { program := "ytenglcgkachomaa", sum := "be7ed2fc1f3e14e0eee81b8930efad7d6cfd5b8b1dfa08b6b5db63267669111e", func := "loop.example/g00216/laws.FnExactNewCopies", spec := "fnExactNewCopies", apart := false }
def FnExactNewCopiesSaid : Prop := fnExactNewCopiesRow.holds Try.pinned (OpenSpec.ofChange fnExactNewCopiesSpec)

/-- ITS FALSE NEIGHBOUR: 'it returns false'. Refute it at one input. -/
def fnExactNewCopiesWrong : ChangeSpec := { name := "fnExactNewCopies", fn := fun _ => fun
  | [d] => { results := [.lit (.bool false)], args := [d] }
  | _ => none }
def FnExactNewCopiesWrongFalsely : Prop := fnExactNewCopiesRow.holds Try.pinned (OpenSpec.ofChange fnExactNewCopiesWrong)

/- THE SECOND FORM. 'bulk': how many values and letters a reading holds, each counted each time it is reached (what is shared counts as often as it is met; a slice's spare places count too). A statement '..UptoSaid' is the law's where the arguments, and the package variables that the reading takes, are together of bulk at most 1048576: NARROWER than '..Said'. Prove '..Said' where nothing that the law and all that it calls make is longer than what came in: it says more and counts as full. Else prove '..UptoSaid'. A law counts once. -/
mutual
def uptoBulk {H : Type} : DataW H → Nat
  | .lit (.string bytes) => bytes.length + 1
  | .lit _ => 1
  | .nil => 1
  | .ptr d => uptoBulk d + 1
  | .slice elems spare => uptoBulkAll elems + uptoBulkAll spare + 1
  | .agg parts => uptoBulkAll parts + 1
  | .iface _ d => uptoBulk d + 1
  | .map entries => uptoBulkEntries entries + 1
  | .held _ => 1
def uptoBulkAll {H : Type} : List (DataW H) → Nat
  | [] => 0
  | d :: r => uptoBulk d + uptoBulkAll r
def uptoBulkEntries {H : Type} : List (Lit × DataW H) → Nat
  | [] => 0
  | x :: r => uptoBulkEntry x + uptoBulkEntries r
def uptoBulkEntry {H : Type} : Lit × DataW H → Nat
  | (.string bytes, d) => bytes.length + uptoBulk d + 1
  | (_, d) => uptoBulk d + 1
 end
def uptoSmall : (H : Type) → List (DataW H) → Bool := fun _ ds => decide (uptoBulkAll ds ≤ 1048576)
def OpenSpec.upto (s : _root_.Go.ChangeSpec) : _root_.Go.OpenSpec := { _root_.Go.OpenSpec.ofChange s with cond := some uptoSmall }

/-- 'laws.FnExactCellOf', WHERE WHAT IT READS IS OF BULK AT MOST 1048576: true; the input reads as it did. -/
def fnExactCellOfUptoRow : OpenClaim := { program := "ytenglcgkachomaa", sum := "be7ed2fc1f3e14e0eee81b8930efad7d6cfd5b8b1dfa08b6b5db63267669111e", func := "loop.example/g00216/laws.FnExactCellOf", spec := "fnExactCellOf", apart := false, narrowed := true }
def FnExactCellOfUptoSaid : Prop := fnExactCellOfUptoRow.holds Try.pinned (OpenSpec.upto fnExactCellOfSpec)

/-- 'laws.FnExactSameReplies', WHERE WHAT IT READS IS OF BULK AT MOST 1048576: true; the input reads as it did. -/
def fnExactSameRepliesUptoRow : OpenClaim := { program := "ytenglcgkachomaa", sum := "be7ed2fc1f3e14e0eee81b8930efad7d6cfd5b8b1dfa08b6b5db63267669111e", func := "loop.example/g00216/laws.FnExactSameReplies", spec := "fnExactSameReplies", unfollowed := true, recurses := true, apart := false, narrowed := true }
def FnExactSameRepliesUptoSaid : Prop := fnExactSameRepliesUptoRow.holds Try.pinned (OpenSpec.upto fnExactSameRepliesSpec)

/-- 'laws.FnExactCopiesFault', WHERE WHAT IT READS IS OF BULK AT MOST 1048576: true; the input reads as it did. -/
def fnExactCopiesFaultUptoRow : OpenClaim := { program := "ytenglcgkachomaa", sum := "be7ed2fc1f3e14e0eee81b8930efad7d6cfd5b8b1dfa08b6b5db63267669111e", func := "loop.example/g00216/laws.FnExactCopiesFault", spec := "fnExactCopiesFault", apart := false, narrowed := true }
def FnExactCopiesFaultUptoSaid : Prop := fnExactCopiesFaultUptoRow.holds Try.pinned (OpenSpec.upto fnExactCopiesFaultSpec)

/-- 'laws.FnExactNewCopies', WHERE WHAT IT READS IS OF BULK AT MOST 1048576: true; the input reads as it did. -/
def fnExactNewCopiesUptoRow : OpenClaim := { program := "ytenglcgkachomaa", sum := "be7ed2fc1f3e14e0eee81b8930efad7d6cfd5b8b1dfa08b6b5db63267669111e", func := "loop.example/g00216/laws.FnExactNewCopies", spec := "fnExactNewCopies", apart := false, narrowed := true }
def FnExactNewCopiesUptoSaid : Prop := fnExactNewCopiesUptoRow.holds Try.pinned (OpenSpec.upto fnExactNewCopiesSpec)

end Rows
end Go.Proofs.Ytenglcgkachomaa
