/- ChainFault: its model; impl.ChainFault. -/
import Derived.Test.YtjdodbiphijjgaaVd
namespace Go.Proofs.Ytjdodbiphijjgaa
open Go.RowKit Go.Deep
set_option linter.unusedVariables false
set_option maxRecDepth 20000

/-- Are a version's numbers in their bounds? -/
def vR (r : Vr) : Bool := inB r.t 1 999 && inB r.a 0 1000000 && inB r.v 0 9999
/-- Has the i-th version a wrong form? -/
def vF (R : Nat → Vr) (i : Nat) : Bool := (R i).g && (R i).v != 0 || (decide (0 < i) && !older (R i) (R (i - 1)))
/-- The first fault of the versions from the i-th on, m of them. -/
def chf (R : Nat → Vr) : Nat → Nat → Int
  | 0, _ => 0
  | m + 1, i => if vR (R i) = false then 3 else if vF R i = true then 1 else chf R m (i + 1)
def chF (n : Nat) (R : Nat → Vr) : Int := if 12 < n then 2 else chf R n 0
theorem chf_at {R : Nat → Vr} {n k : Nat} (h : k < n) : chf R (n - k) k = if vR (R k) = false then 3 else if vF R k = true then 1 else chf R (n - (k + 1)) (k + 1) := by
  obtain ⟨m, hm⟩ : ∃ m, n - k = m + 1 := ⟨n - k - 1, by omega⟩
  rw [hm, chf, show n - (k + 1) = m by omega]
theorem box_v (w : World) (r : Vr) (T : TypeId) : C4 (w.alloc (.cells #[.int .i64 r.t, .int .i64 r.a, .bool r.g, .int .i64 r.v] T)) w.heap.size 0 r := by simp [C4]
theorem C4.below {w w' : World} {b o : Nat} {r : Vr} (h : C4 w b o r) (hb : Below w.heap.size w w') : C4 w' b o r := h.block (hb.block _ (Go.block_lt_of_cell h.1))
theorem C4.drewn {w : World} {b o : Nat} {r : Vr} (h : C4 w b o r) : C4 w.drew b o r := h

theorem any_skip {P : Program} {md : Region.Mode} {ops : Array Oper} {Q : Exit → Act → World → Prop} {fuel : Nat} {listed : Array Bool} {a : Act} {w : World} (i : Nat) (d : Option Tmp) (hd : (ops[i]?).map (fun o => o.dst) = some d)
    (hs : Region.noSelect ops = true) (hf : Region.free md ops listed i = true) (hr : (Region.ready md ops listed).contains i = true)
    (hw : (ops[i]?).map (fun o => Region.wanted o (yielded ops a.tmps)) = some false) (hQ : ∀ c a w, Q (.panic c) (a.put d undef) w → Q (.panic c) a w)
    (h : wpAny P md ops Q fuel (listed.setIfInBounds i true) (a.put d undef) w) : wpAny P md ops Q (fuel + 1) listed a w := by
  obtain ⟨o, ho, rfl⟩ := Option.map_eq_some_iff.1 hd
  obtain ⟨o', ho', hw'⟩ := Option.map_eq_some_iff.1 hw
  obtain rfl : o = o' := by rw [ho] at ho'; exact Option.some.inj ho'
  exact wpAny_take ho hs hf hr hQ (.inr ⟨hw', rfl⟩) h

end Go.Proofs.Ytjdodbiphijjgaa
