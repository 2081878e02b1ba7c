/- Answers that are logs: equal, marked, held; spec.l3Count, spec.l3Flush. -/
import Derived.Test.YtjggplfhkejbbaaQLh
import Derived.Test.YtjggplfhkejbbaaQLi
namespace Go.Proofs.Ytjggplfhkejbbaa
open Go.RowKit Go.Deep
set_option linter.unusedVariables false
set_option maxRecDepth 20000

theorem heldLog_any (L : Lo) (a1 a2 : Option Addr) (c1 c2 : Nat) (m : Int) (w : World) (hn1 : L.n1 ≤ 1048576) (hn2 : L.n2 ≤ 1048576) (hm1 : 0 ≤ m) (hm2 : m ≤ 1048576) (h : LogAt w a1 a2 (mG m L)) :
    Calls Try.prog 79 #[.agg #[.slice a1 L.n1 c1, .slice a2 L.n2 c2], .int .i64 m] w fun e w' => e = .returned (.int .i64 (m + (L.n1 + L.n2 : Nat))) ∧ Below w.heap.size w w' := by
  obtain ⟨n, z, k, y⟩ := L
  unfold mG at h
  obtain ⟨hp, hl⟩ := h
  dsimp only at *
  have HP : Hid (BytesAt w a1 n (bk m)) := hp
  have HL : Hid (BytesAt w a2 k (bk (m + n))) := hl
  have hneg : ¬ (m + (n : Int) < 0) := by omega
  have hneg2 : ¬ (m + (n : Int) + (k : Int) < 0) := by omega
  clear hp hl
  go_enter Try.func79, Try.ntmps79
  go_wp2_with fail
  refine (heldByteS_any n a1 c1 m _ (by omega) hm1 (by omega) (HP.out.below (below_new _ _))).mono ?_
  rintro e w1 ⟨rfl, rfl⟩
  go_wp2_with fail
  refine (heldByteS_any k a2 c2 (m + n) _ (by omega) (by omega) (by omega) (HL.out.below (below_new _ _))).mono ?_
  rintro e w2 ⟨rfl, rfl⟩
  go_wp2_with fail
  go_ret
  exact ⟨ret_int (by omega), below_new _ _⟩
end Go.Proofs.Ytjggplfhkejbbaa
