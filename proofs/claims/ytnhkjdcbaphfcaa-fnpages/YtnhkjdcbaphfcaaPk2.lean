/- PackPage with what its answer has room for; pages in the laws over disks. -/
import Derived.Test.YtnhkjdcbaphfcaaPk
import Derived.Test.YtnhkjdcbaphfcaaSp
namespace Go.Proofs.Ytnhkjdcbaphfcaa
open Go.RowKit Go.Deep
set_option linter.unusedVariables false
set_option maxRecDepth 20000

theorem pgb_48 {idn lsn : Int} {n : Nat} {K V : Nat → Int} (h : n ≤ 12) : (pgb idn lsn n K V).length = 48 := by
  simp only [pgb, fld, bdy, List.length_append, List.length_replicate, hd_len, cb_len, nb_len]; omega
theorem szPage_x (id lsn : Int) (n : Nat) (a : Option Addr) (cap : Nat) (x : Int) (w : World) (hn : n ≤ 9223372036854775807) (h0 : 0 ≤ x) (h1 : x ≤ 1048576) :
    Calls Try.prog 21 #[.agg #[.int .i64 id, .int .i64 lsn, .slice a n cap], .int .i64 x] w fun e w' => Below w.heap.size w w' ∧ ∃ r : Int, e = .returned (.int .i64 r) ∧ (r = -1 ∨ (0 ≤ r ∧ r = x - n)) := by
  by_cases h : x - (n : Int) < 0
  · go_enter Try.func21, Try.ntmps21
    go_wp2
    go_ret
    exact ⟨below_new _ _, _, rfl, .inl rfl⟩
  · go_enter Try.func21, Try.ntmps21
    go_wp2
    go_ret
    exact ⟨below_new _ _, _, rfl, .inr ⟨by omega, rfl⟩⟩
theorem markPage_x (id lsn : Int) (n : Nat) (K V : Nat → Int) (a : Option Addr) (cap lo hi : Nat) (m : Int) (w : World) (hn : n ≤ 8796093022208) (hm1 : 0 ≤ m) (hm2 : m ≤ 8796093022208) (h : Own w lo hi a n K V) :
    Calls Try.prog 25 #[.agg #[.int .i64 id, .int .i64 lsn, .slice a n cap], .int .i64 m] w fun e w' => e = .returned (.int .i64 (m + n * 2)) ∧ Writes lo hi w w' := by
  go_enter Try.func25, Try.ntmps25
  go_wp2_with fail
  refine (markCellS_any n K V a cap lo hi m _ hn hm1 hm2 (h.below ((Below.refl _ _).alloc (Nat.le_refl _) _))).mono ?_
  rintro e w1 ⟨rfl, hw, ho⟩
  go_wp2_with fail
  go_ret
  exact ⟨rfl, (Writes.of_below ((Below.refl _ _).alloc (Nat.le_refl _) _)).trans hw⟩
end Go.Proofs.Ytnhkjdcbaphfcaa
