/- Rows of versions: copied, equal, marked, held; answers that are chains. -/
import Derived.Test.YtjdodbiphijjgaaVa
namespace Go.Proofs.Ytjdodbiphijjgaa
open Go.RowKit Go.Deep
set_option linter.unusedVariables false
set_option maxRecDepth 20000

def toK (R : Nat → Vr) (k i : Nat) : Vr := if i < k then R i else zV
theorem toK_step (R : Nat → Vr) (k i : Nat) : (if i = k then R k else toK R k i) = toK R (k + 1) i := by
  unfold toK
  by_cases e : i = k
  · subst e; simp
  · rw [if_neg e]
    have : (i < k + 1) ↔ (i < k) := by omega
    simp only [this]
/-! ### equal -/
theorem eqVersion_same (t a : Int) (g : Bool) (v : Int) (w : World) :
    Calls Try.prog 41 #[.agg #[.int .i64 t, .int .i64 a, .bool g, .int .i64 v], .agg #[.int .i64 t, .int .i64 a, .bool g, .int .i64 v]] w fun e w' => e = .returned (.bool true) ∧ Below w.heap.size w w' := by
  have hb0 : ∀ o1 o2, Below w.heap.size w ((w.alloc o1).alloc o2) := fun o1 o2 => ((Below.refl _ _).alloc (Nat.le_refl _) _).alloc (by simp) _
  have e1 : (g != g) = false := by simp
  go_enter Try.func41, Try.ntmps41
  go_wp2_with fail
  go_ret
  exact ⟨rfl, hb0 _ _⟩
theorem eqVersionS_zero (a a' : Option Addr) (cap cap' : Nat) (w : World) : Calls Try.prog 39 #[.slice a 0 cap, .slice a' 0 cap'] w fun e w' => e = .returned (.bool true) ∧ Below w.heap.size w w' := by
  go_enter Try.func39, Try.ntmps39
  go_wp2_with fail
  go_loop [5] (fun i => i = .int .i64 0) (fun _ => 0)
  case atStart => exact rfl
  case round =>
    obtain rfl := hrel
    go_wp2_with fail
    go_ret
    exact ⟨rfl, Below.refl _ _⟩
theorem drewB6 {w1 w2 : World} (hb : Below w1.drew.heap.size w1.drew w2) : Below w1.heap.size w1 w2 := ((Below.refl _ _).drew).trans hb
set_option maxHeartbeats 2000000 in
theorem eqVersionS_some (n : Nat) (R : Nat → Vr) (b off cap b' off' cap' : Nat) (w : World) (hn : n ≤ 1048576) (hbl : b < w.heap.size) (hbl' : b' < w.heap.size) (hc : ∀ i, i < n → C4 w b (off + i * 4) (R i)) (hc' : ∀ i, i < n → C4 w b' (off' + i * 4) (R i)) :
    Calls Try.prog 39 #[.slice (some ⟨b, off, none⟩) n cap, .slice (some ⟨b', off', none⟩) n cap'] w fun e w' => e = .returned (.bool true) ∧ Below w.heap.size w w' := by
  have HC : Hid (∀ i, i < n → C4 w b (off + i * 4) (R i)) := hc
  have HC' : Hid (∀ i, i < n → C4 w b' (off' + i * 4) (R i)) := hc'
  have hne : ((n : Int) != (n : Int)) = false := by simp
  clear hc hc'
  go_enter Try.func39, Try.ntmps39
  go_wp2_with fail
  go_loopw [5] (fun i wr => ∃ k : Nat, k ≤ n ∧ i = .int .i64 k ∧ Hid (Below w.heap.size w wr)) (fun i _ => n - (intOf i).toNat)
  case atStart => exact ⟨0, Nat.zero_le _, rfl, Below.refl _ _⟩
  case round =>
    obtain ⟨k, hk, rfl, HB⟩ := hrel
    by_cases hlt : k < n
    · have hlt' : (k : Int) < (n : Int) := by omega
      have hk0 : (0 : Int) ≤ (k : Int) := by omega
      obtain ⟨x0, x1, x2, x3⟩ := (HC.out k hlt).block (HB.out.block _ hbl)
      obtain ⟨y0, y1, y2, y3⟩ := (HC'.out k hlt).block (HB.out.block _ hbl')
      generalize R k = r at *
      go_wp2_with fail
      go_region_law (first | (go_simp; go_at_call 41; refine (eqVersion_same r.t r.a r.g r.v _).mono ?_; rintro e w1 ⟨rfl, hb1⟩; have HB1 : Hid (Below w.heap.size w w1) := below_then HB.out (drewB6 hb1)))
      all_goals
        go_wp2_with fail
        go_roundw
        case rel => exact ⟨k + 1, hlt, by go_num, HB1⟩
        case measure => simp [intOf]; omega
    · have hnl : ¬ ((k : Int) < (n : Int)) := by omega
      go_wp2_with fail
      go_ret
      exact ⟨rfl, HB.out⟩
theorem eqVersionS_any (n : Nat) (R : Nat → Vr) (a a' : Option Addr) (cap cap' : Nat) (w : World) (hn : n ≤ 1048576) (h : VersAt w a n R) (h' : VersAt w a' n R) :
    Calls Try.prog 39 #[.slice a n cap, .slice a' n cap'] w fun e w' => e = .returned (.bool true) ∧ Below w.heap.size w w' := by
  rcases h with rfl | ⟨b, off, rfl, hl, hc⟩
  · exact eqVersionS_zero a a' cap cap' w
  · rcases h' with rfl | ⟨b', off', rfl, hl', hc'⟩
    · exact eqVersionS_zero _ a' cap cap' w
    · exact eqVersionS_some n R b off cap b' off' cap' w hn hl hl' hc hc'
end Go.Proofs.Ytjdodbiphijjgaa
