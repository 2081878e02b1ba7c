/- FnExactOnlyReads: the walk of the law. -/
import Derived.Test.YtcfenhnggccmmaaAor
namespace Go.Proofs.Ytcfenhnggccmmaa
open Go.ChangeShapes Go.WideShapes Go.ChangeAt Go.RowKit Go.Deep Go.Joins
set_option linter.unusedVariables false
set_option maxRecDepth 20000

theorem smallonlyR {n : Nat} {T : Nat → Al} {r : Int} (h0 : 0 ≤ r) (h : r = 1048576 - n - smAl T n) : n ≤ 1048576 ∧ SmAl n T :=
  ⟨by omega, fun i hi => by have := smf9_ge (fun i => (T i).n) n i hi; unfold smAl at h; omega⟩
set_option maxHeartbeats 4000000 in
theorem onlyRLaw (n : Nat) (T : Nat → Al) (a : Option Addr) (cap : Nat) (v : Int) (w : World) (hn : n ≤ 9223372036854775807) (hB : BigAl n T) (h : AlsAt w a n T) :
    Calls Try.prog 4 #[.slice a n cap, .int .i64 v] w fun e w' => e = .returned (.bool true) ∧ Below w.heap.size w w' := by
  have HA : Hid (AlsAt w a n T) := h
  clear h
  go_enter Try.func4, Try.ntmps4
  go_wp2_with fail
  refine (szActSS_any n T a cap 1048576 _ hn hB (by omega) (by omega) HA.out).mono ?_
  rintro e w1 ⟨hb1, r, rfl, hr⟩
  have HB1 : Hid (Below w.heap.size w w1) := hb1
  clear hb1
  rcases hr with rfl | ⟨hr0, hr1⟩
  · go_wp2_with fail
    go_ret
    exact ⟨rfl, HB1.out⟩
  obtain ⟨hnA, hSA⟩ := smallonlyR hr0 hr1
  have hng : ¬ r < 0 := by omega
  have HS : Hid (SmAl n T) := hSA
  clear hr1 hn hB hSA
  go_wp2_with fail
  refine (toActSS_any n T a cap _ hnA HS.out (HA.out.below HB1.out)).mono ?_
  rintro e w2 ⟨rfl, hb2, ho2⟩
  have HB2 : Hid (Below w.heap.size w w2) := below_then HB1.out hb2
  have H2 : Hid (AlsAt w2 (some ⟨w1.heap.size, 0, none⟩) n T) := ho2.at
  clear hb2 ho2 HB1
  go_wp2_with fail
  refine (specOr_any n T _ n v _ hnA HS.out H2.out).mono ?_
  rintro e w3 ⟨rfl, hw3⟩
  obtain rfl := hw3.symm
  clear H2
  generalize hC : oR n T v = C
  have HCC : Hid (oR n T v = C) := hC
  clear hC
  go_wp2_with fail
  refine (toActSS_any n T a cap _ hnA HS.out (HA.out.below HB2.out)).mono ?_
  rintro e w4 ⟨rfl, hb4, ho4⟩
  have HB4 : Hid (Below w.heap.size w w4) := below_then HB2.out hb4
  have H4 : Hid (AlsAt w4 (some ⟨w2.heap.size, 0, none⟩) n T) := ho4.at
  clear hb4 ho4 HB2
  go_wp2_with fail
  refine (implOr_any n T _ n v _ hnA HS.out H4.out).mono ?_
  rintro e w5 ⟨rfl, hb5⟩
  rw [HCC.out]
  have HB5 : Hid (Below w.heap.size w w5) := below_then HB4.out hb5
  replace H4 : Hid (AlsAt w5 (some ⟨w2.heap.size, 0, none⟩) n T) := H4.out.below hb5
  have hcc : (C != C) = false := by simp
  clear hb5 HB4 HCC
  go_wp2_with fail
  refine (toActSS_any n T a cap _ hnA HS.out (HA.out.below HB5.out)).mono ?_
  rintro e w6 ⟨rfl, hb6, ho6⟩
  have HB6 : Hid (Below w.heap.size w w6) := below_then HB5.out hb6
  have H6 : Hid (AlsAt w6 (some ⟨w5.heap.size, 0, none⟩) n T) := ho6.at
  replace H4 : Hid (AlsAt w6 (some ⟨w2.heap.size, 0, none⟩) n T) := H4.out.below hb6
  clear hb6 ho6 HB5
  go_wp2_with fail
  refine (eqActSS_any n T _ _ n n _ hnA HS.out H4.out H6.out).mono ?_
  rintro e w7 ⟨rfl, hb7⟩
  have HB7 : Hid (Below w.heap.size w w7) := below_then HB6.out hb7
  clear hb7
  go_wp2_with fail
  go_ret
  exact ⟨rfl, HB7.out⟩
end Go.Proofs.Ytcfenhnggccmmaa
