/- Draws: spec.l1Source, l1Chance, l1Pick. -/
import Derived.Test.YtiflheclfgloaaaDoorDra
namespace Go.Proofs.YtiflheclfgloaaaDoor
open Go.RowKit Go.Deep
set_option linter.unusedVariables false
set_option maxRecDepth 20000

theorem l1Source_any (a : Option Addr) (k cap : Nat) (z : Nat → Int) (w : World) (hk : k ≤ 1048576) (hz : Byt k z) (h : BytesAt w a k z) :
    Calls Tryd.prog 30 #[.slice a k cap] w fun e w' => e = .returned (.pointer (some ⟨w.heap.size, 0, none⟩)) ∧ Below w.heap.size w w' ∧ w'.heap.size = w.heap.size + 1 ∧ Src w' w.heap.size a k cap z 0 := by
  have HX : Hid (∀ o : Obj, o = .cells #[.slice a k cap, .int .i64 0] 76 → Src (w.alloc o) w.heap.size a k cap z 0) := by
    rintro o rfl
    refine ⟨by simp [go_sem], by simp [go_sem], fun i => by simp [go_sem], h.below (below_new _ _), fun b off e => ?_, hz, hk⟩
    rcases h with h | ⟨b', off', e', hl, _⟩
    · exact .inl h
    · rw [e] at e'
      simp only [Option.some.injEq, Addr.mk.injEq, and_true] at e'
      exact .inr (by omega)
  clear h hz
  go_enter Tryd.func30, Tryd.ntmps30
  go_wp2_with fail
  go_ret
  exact ⟨rfl, below_new _ _, World.size_alloc _ _, HX.out _ rfl⟩
theorem l1Chance_any (S : Nat) (a : Option Addr) (k cap : Nat) (z : Nat → Int) (t : Nat) (n : Int) (w : World) (ht : t ≤ 1000000) (hn : n ≤ 1000000) (h : Src w S a k cap z t) :
    Calls Tryd.prog 38 #[.pointer (some ⟨S, 0, none⟩), .int .i64 n] w fun e w' => ∃ b : Bool, e = .returned (.bool b) ∧ Nx S a k cap z (t + 1) w w' := by
  have HS : Hid (Src w S a k cap z t) := h
  clear h
  go_enter Tryd.func38, Tryd.ntmps38
  go_wp2_with fail
  refine (l1Next_any S a k cap z t n w ht hn HS.out).mono ?_
  rintro e w1 ⟨v, rfl, -, hnx⟩
  have HN : Hid (Nx S a k cap z (t + 1) w w1) := hnx
  clear hnx
  go_wp2_with fail
  go_ret
  exact ⟨_, rfl, HN.out⟩
theorem l1Pick_any (S : Nat) (a : Option Addr) (k cap : Nat) (z : Nat → Int) (t : Nat) (b off m c : Nat) (F : Nat → Int) (w : World) (ht : t ≤ 1000000) (hm0 : 1 ≤ m) (hm : m ≤ 100) (hb : b ≠ S) (hl : b < w.heap.size) (hc : ∀ i, i < m → w.cell? ⟨b, off + i, none⟩ = some (.int .i64 (F i))) (h : Src w S a k cap z t) :
    Calls Tryd.prog 40 #[.pointer (some ⟨S, 0, none⟩), .slice (some ⟨b, off, none⟩) m c] w fun e w' => ∃ i : Nat, i < m ∧ e = .returned (.int .i64 (F i)) ∧ Nx S a k cap z (t + 1) w w' := by
  have HS : Hid (Src w S a k cap z t) := h
  have HC : Hid (∀ i, i < m → w.cell? ⟨b, off + i, none⟩ = some (.int .i64 (F i))) := hc
  clear h hc
  go_enter Tryd.func40, Tryd.ntmps40
  go_wp2_with fail
  refine (l1Next_any S a k cap z t (m : Int) w ht (by omega) HS.out).mono ?_
  rintro e w1 ⟨v, rfl, hv, hnx⟩
  have HN : Hid (Nx S a k cap z (t + 1) w w1) := hnx
  obtain ⟨hv0, hv1, -⟩ := hv
  obtain ⟨i, rfl⟩ : ∃ i : Nat, v = (i : Int) := ⟨v.toNat, by omega⟩
  have hi : i < m := by have := hv1 (by omega); omega
  have hi1 : (i : Int) < (m : Int) := by omega
  have hi0 : (0 : Int) ≤ (i : Int) := by omega
  have hx : w1.cell? ⟨b, off + i, none⟩ = some (.int .i64 (F i)) := (hnx.1.cell hl (by omega) _).trans (HC.out i hi)
  have HI : Hid (i < m) := hi
  clear hnx hv0 hv1 hi
  generalize hFi : F i = fi at *
  have HFI : Hid (F i = fi) := hFi
  clear hFi
  go_wp2_with fail
  go_ret
  exact ⟨i, HI.out, ret_int HFI.out.symm, HN.out⟩
end Go.Proofs.YtiflheclfgloaaaDoor
