/- SumBytes: the walks. -/
import Derived.Test.YtldnfiadafmomaaBase
namespace Go.Proofs.Ytldnfiadafmomaa
open Go.RowKit Go.Deep

/-! ### spec.SumBytes -/
/-! ### impl.SumBytes -/
/-! ### laws.toByteS -/
set_option maxHeartbeats 400000 in
theorem toByteS_some (n : Nat) (z : Nat → Int) (b off cap : Nat) (w : World) (hn : n ≤ 140737488355328) (hbl : b < w.heap.size) (hc : ∀ i, i < n → w.cell? ⟨b, off + i, none⟩ = some (.int .u8 (z i))) :
    Calls Try.prog 32 #[.slice (some ⟨b, off, none⟩) n cap] w fun e w' =>
      e = .returned (.slice (some ⟨w.heap.size, 0, none⟩) n n) ∧ Below w.heap.size w w' ∧ w'.rowIs w.heap.size 5 n (fun i => .int .u8 (z i)) := by
  have hmk := run_make_row' (P := Try.prog) 55 5 (.int .u8 0) 1 Try.underlying55 info5 rfl .i64 .i64 n (by omega) (by omega)
  go_enter Try.func32, Try.ntmps32
  go_wp2
  go_loopw [4] (fun i wr => ∃ k : Nat, k ≤ n ∧ i = .int .i64 k ∧ Below w.heap.size w wr ∧ wr.rowIs w.heap.size 5 n (fun j => if j < k then .int .u8 (z j) else .int .u8 0)) (fun i _ => n - (intOf i).toNat)
  case atStart => exact ⟨0, Nat.zero_le _, rfl, (Below.refl _ _).alloc (Nat.le_refl _) _, (World.rowIs_made w _ n 5).congr (fun i _ => by simp)⟩
  case round =>
    obtain ⟨k, hk, rfl, hb, hrow⟩ := hrel
    by_cases hlt : k < n
    · have hcell : wr.cell? ⟨b, off + k, none⟩ = some (.int .u8 (z k)) := (hb.cell (p := ⟨b, off + k, none⟩) hbl).trans (hc k hlt)
      obtain ⟨v3, hv3⟩ : ∃ v, wr.cell? ⟨w.heap.size, k, none⟩ = some v := ⟨_, hrow.cell hlt⟩
      have hfz := hrow.frozen k
      clear hc hmk
      have HR : Hid (wr.rowIs w.heap.size 5 n (fun j => if j < k then .int .u8 (z j) else .int .u8 0)) := hrow
      have HB : Hid (Below w.heap.size w wr) := hb
      clear hrow hb
      go_wp2
      go_roundw
      case rel => exact ⟨k + 1, hlt, by go_num, HB.out.setCell (Nat.le_refl _) _, (HR.out.set k _).congr (fun i hi => by by_cases e : i = k <;> by_cases e2 : i < k <;> simp [e, e2] <;> omega)⟩
      case measure => simp [intOf]; omega
    · have hkn : k = n := by omega
      have HR : Hid (wr.rowIs w.heap.size 5 n (fun j => .int .u8 (z j))) := hrow.congr (fun i hi => by simp; omega)
      clear hc hmk hrow
      go_wp2
      go_ret
      exact ⟨rfl, hb, HR.out⟩
theorem toByteS_zero (z : Nat → Int) (a : Option Addr) (cap : Nat) (w : World) :
    Calls Try.prog 32 #[.slice a 0 cap] w fun e w' =>
      e = .returned (.slice (some ⟨w.heap.size, 0, none⟩) 0 0) ∧ Below w.heap.size w w' ∧ w'.rowIs w.heap.size 5 0 (fun i => .int .u8 (z i)) := by
  have hmk : ∀ w, (Instr.makeSlice 55 (.int .i64 0) (.int .i64 0)).run Try.prog w = .ok (.slice (some ⟨w.heap.size, 0, none⟩) 0 0) (w.alloc (.cells #[] 5)) := fun w => by
    have h := run_make_row' (P := Try.prog) 55 5 (.int .u8 0) 1 Try.underlying55 info5 rfl .i64 .i64 0 (by omega) (by omega) w
    rw [made_none] at h
    exact h
  go_enter Try.func32, Try.ntmps32
  go_wp2
  go_loop [4] (fun i => i = .int .i64 0) (fun _ => 0)
  case atStart => exact rfl
  case round =>
    obtain rfl := hrel
    go_wp2
    go_ret
    exact ⟨rfl, (Below.refl _ _).alloc (Nat.le_refl _) _, World.rowIs_alloc w #[] 5 _ (fun i hi => by simp at hi)⟩
theorem toByteS_any (n : Nat) (z : Nat → Int) (a : Option Addr) (cap : Nat) (w : World) (hn : n ≤ 140737488355328) (h : BytesAt w a n z) :
    Calls Try.prog 32 #[.slice a n cap] w fun e w' =>
      e = .returned (.slice (some ⟨w.heap.size, 0, none⟩) n n) ∧ Below w.heap.size w w' ∧ w'.rowIs w.heap.size 5 n (fun i => .int .u8 (z i)) := by
  rcases h with rfl | ⟨b, off, rfl, hbl, hc⟩
  · exact toByteS_zero z a cap w
  · exact toByteS_some n z b off cap w hn hbl hc

/-! ### laws.eqByteS: two rows of the same bytes -/
set_option maxHeartbeats 400000 in
theorem eqByteS_same (n : Nat) (z : Nat → Int) (b off cap b' off' cap' : Nat) (w : World) (hn : n ≤ 140737488355328) (hc : ∀ i, i < n → w.cell? ⟨b, off + i, none⟩ = some (.int .u8 (z i))) (hc' : ∀ i, i < n → w.cell? ⟨b', off' + i, none⟩ = some (.int .u8 (z i))) :
    Calls Try.prog 40 #[.slice (some ⟨b, off, none⟩) n cap, .slice (some ⟨b', off', none⟩) n cap'] w fun e w' => e = .returned (.bool true) ∧ ∃ m, w' = w.drewN m := by
  go_enter Try.func40, Try.ntmps40
  go_wp2
  go_loopw [5] (fun i wr => ∃ k : Nat, k ≤ n ∧ i = .int .i64 k ∧ ∃ m, wr = w.drewN m) (fun i _ => n - (intOf i).toNat)
  case atStart => exact ⟨0, Nat.zero_le _, rfl, 0, rfl⟩
  case round =>
    obtain ⟨k, hk, rfl, m, rfl⟩ := hrel
    by_cases hlt : k < n
    · have hcell := hc k hlt
      have hcell' := hc' k hlt
      have hlt' : (k : Int) < (n : Int) := by omega
      clear hc hc'
      go_wp2
      go_quiet (fail)
      go_wp2
      go_roundw
      case rel => exact ⟨k + 1, hlt, by go_num, _, rfl⟩
      case measure => simp [intOf]; omega
    · have hkn : k = n := by omega
      clear hc hc'
      go_wp2
      go_ret
      exact ⟨rfl, _, rfl⟩
end Go.Proofs.Ytldnfiadafmomaa
