/- UnpackPage at bytes of any length, both sides. -/
import Derived.Test.YtnhkjdcbaphfcaaUp4
namespace Go.Proofs.Ytnhkjdcbaphfcaa
open Go.RowKit Go.Deep
set_option linter.unusedVariables false
set_option maxRecDepth 20000

theorem implUp_other (n : Nat) (z : Nat → Int) (a : Option Addr) (cap : Nat) (w : World) (hn : n ≠ 48) :
    Calls Try.prog 9 #[.slice a n cap] w (PRes (upc z n) (num z 0 1) (num z 1 4) (rpN z) (rpK z) (rpV z) w) := by
  have hu : upc z n = 1 := by rw [upc, if_pos hn]
  have h1 : ((n : Int) != 48) = true := by simp; omega
  rw [hu]
  clear hu hn
  go_enter Try.func9, Try.ntmps9
  go_wp2_with fail
  exact bodyPost_ret (v := .agg #[.int .i64 1, .int .i64 0, .int .i64 0, .slice none 0 0]) (by simp [results, Try.results9, go_sem]) rfl (pres_bad (below_new _ _) (by decide))
theorem specUp_other (n : Nat) (z : Nat → Int) (a : Option Addr) (cap : Nat) (w : World) (hn : n ≠ 48) :
    Calls Try.prog 11 #[.slice a n cap] w (PRes (upc z n) (num z 0 1) (num z 1 4) (rpN z) (rpK z) (rpV z) w) := by
  have hu : upc z n = 1 := by rw [upc, if_pos hn]
  have h1 : ((n : Int) != 48) = true := by simp; omega
  rw [hu]
  clear hu hn
  go_enter Try.func11, Try.ntmps11
  go_wp2_with fail
  exact bodyPost_ret (v := .agg #[.int .i64 1, .int .i64 0, .int .i64 0, .slice none 0 0]) (by simp [results, Try.results11, go_sem]) rfl (pres_bad (below_new _ _) (by decide))
theorem implUp_row (n : Nat) (z : Nat → Int) (b off cap : Nat) (w : World) (hcap : n ≤ cap) (hbl : b < w.heap.size) (hz : Byt n z) (hr : BA w b off n z) :
    Calls Try.prog 9 #[.slice (some ⟨b, off, none⟩) n cap] w (PRes (upc z n) (num z 0 1) (num z 1 4) (rpN z) (rpK z) (rpV z) w) := by
  by_cases h : n = 48
  · subst h
    exact implUp_some z b off cap w hcap hbl hz hr
  · exact implUp_other n z _ _ w h
theorem specUp_row (n : Nat) (z : Nat → Int) (b off cap : Nat) (w : World) (hcap : n ≤ cap) (hbl : b < w.heap.size) (hz : Byt n z) (hr : BA w b off n z) :
    Calls Try.prog 11 #[.slice (some ⟨b, off, none⟩) n cap] w (PRes (upc z n) (num z 0 1) (num z 1 4) (rpN z) (rpK z) (rpV z) w) := by
  by_cases h : n = 48
  · subst h
    exact specUp_some z b off cap w hcap hbl hz hr
  · exact specUp_other n z _ _ w h
end Go.Proofs.Ytnhkjdcbaphfcaa
