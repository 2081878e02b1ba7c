/- The program's lineOf. -/
import Derived.Test.YtaelpjjabkkhcaaGreatDoorYia
namespace Go.Proofs.YtaelpjjabkkhcaaGreatDoor
open Go.RowKit Go.Deep
set_option linter.unusedVariables false
set_option maxRecDepth 20000

def nl : ByteArray := ⟨#[10]⟩
theorem lineOf_any (L : List ByteArray) (b o c : Nat) (w : World) (h1 : 1 ≤ L.length) (hcap : L.length ≤ c) (hb : b < w.heap.size) (hc : ∀ (j : Nat) x, L[j]? = some x → w.cell? ⟨b, o + j, none⟩ = some (.string x)) (hl : L.length ≤ 100000) (hs : (txt L).size ≤ 100000000) :
    Calls Tryz.prog 18 #[.slice (some ⟨b, o, none⟩) L.length c] w fun e w' => e = .returned (.string (txt L ++ nl)) ∧ Below w.heap.size w w' := by
  have HJ : Hid (Calls Tryz.prog 37 #[.slice (some ⟨b, o, none⟩) L.length c, .string ⟨#[32]⟩] w fun e w' => e = .returned (.string (txt L)) ∧ Below w.heap.size w w') :=
    Tryz.strings_Join b o c L blk w hc hb (by omega) hcap (by
      have e : (txt L).size = (Lib.join (L.map (·.data.toList)) blk.data.toList).length := by
        show (Lib.join (L.map (·.data.toList)) blk.data.toList).toArray.size = _
        rw [List.size_toArray]
      rw [← e]
      omega)
  have ha : ∀ u : World, (Op.stringOp .add (txt L) ⟨#[10]⟩).run Tryz.prog u = .ok (.string (txt L ++ nl)) u := fun u => run_string_add_sum u _ nl (by have : nl.size = 1 := rfl; omega)
  clear hc
  generalize txt L = T at *
  go_enter Tryz.func18, Tryz.ntmps18
  go_wp2_with fail
  refine HJ.out.mono ?_
  rintro e w1 ⟨rfl, hb1⟩
  have HB : Hid (Below w.heap.size w w1) := hb1
  clear hb1
  go_wp2_with fail
  go_ret
  exact ⟨rfl, HB.out⟩
end Go.Proofs.YtaelpjjabkkhcaaGreatDoor
