/- Rows of versions: copied, equal, marked, held; answers that are chains. -/
import Derived.Test.YtaelpjjabkkhcaaGreatDoorVa
namespace Go.Proofs.YtaelpjjabkkhcaaGreatDoor
open Go.RowKit Go.Deep
set_option linter.unusedVariables false
set_option maxRecDepth 20000

def toK (R : Nat → Vr) (k i : Nat) : Vr := if i < k then R i else zV
theorem toK_step (R : Nat → Vr) (k i : Nat) : (if i = k then R k else toK R k i) = toK R (k + 1) i := by
  unfold toK
  by_cases e : i = k
  · subst e; simp
  · rw [if_neg e]
    have : (i < k + 1) ↔ (i < k) := by omega
    simp only [this]
set_option maxHeartbeats 1000000 in
theorem toVersionS_some (n : Nat) (R : Nat → Vr) (b off cap : Nat) (w : World) (hn : n ≤ 1048576) (hbl : b < w.heap.size) (hc : ∀ i, i < n → C4 w b (off + i * 4) (R i)) :
    Calls Tryz.prog 50 #[.slice (some ⟨b, off, none⟩) n cap] w fun e w' =>
      e = .returned (.slice (some ⟨w.heap.size, 0, none⟩) n n) ∧ Below w.heap.size w w' ∧ w.heap.size < w'.heap.size ∧ Row4 w' w.heap.size 0 n R := by
  have HC : Hid (∀ i, i < n → C4 w b (off + i * 4) (R i)) := hc
  have hmk := run_make_vers n hn
  clear hc
  go_enter Tryz.func50, Tryz.ntmps50
  go_wp2_with fail
  clear hmk
  go_loopw [4] (fun i wr => ∃ k : Nat, k ≤ n ∧ i = .int .i64 k ∧ Hid (Below w.heap.size w wr) ∧ w.heap.size < wr.heap.size ∧ Hid (Row4 wr w.heap.size 0 n (toK R k))) (fun i _ => n - (intOf i).toNat)
  case atStart => exact ⟨0, Nat.zero_le _, rfl, (Below.refl _ _).alloc (Nat.le_refl _) _, by simp, row4_congr (made_vers w n) (fun i _ => by simp [toK])⟩
  case round =>
    obtain ⟨k, hk0, rfl, HB, hsz, HR⟩ := hrel
    by_cases hlt : k < n
    · obtain ⟨x0, x1, x2, x3⟩ := (HC.out k hlt).block (HB.out.block _ hbl)
      obtain ⟨y0, y1, y2, y3⟩ := HR.out.1 k hlt
      have hf := HR.out.2
      have hlt' : (k : Int) < (n : Int) := by omega
      have hk1 : (0 : Int) ≤ (k : Int) := by omega
      generalize hr0 : toK R k k = r0 at *
      go_wp2_with fail
      refine (toVersion_any _ _ _ _ wr).mono ?_
      rintro e w1 ⟨rfl, hb1⟩
      have HR1 : Hid (Row4 w1 w.heap.size 0 n (toK R k)) := row4_block HR.out (hb1.block _ hsz)
      have HB1 : Hid (Below w.heap.size w w1) := below_then HB.out hb1
      have hs1 : w.heap.size < w1.heap.size := Nat.lt_of_lt_of_le hsz hb1.size
      replace y0 := cell_below y0 hb1
      replace y1 := cell_below y1 hb1
      replace y2 := cell_below y2 hb1
      replace y3 := cell_below y3 hb1
      replace hf := HR1.out.2
      rw [Nat.zero_add] at y0 y1 y2 y3
      clear x0 x1 x2 x3 hb1
      go_wp2_with fail
      go_roundw
      case rel => 
        have HS : Row4 (set4 w1 w.heap.size (0 + k * 4) (R k)) w.heap.size 0 n (toK R (k + 1)) := row4_congr (row4_set hlt HR1.out) (fun i _ => toK_step R k i)
        rw [Nat.zero_add] at HS
        exact ⟨k + 1, hlt, by go_num, set4_below (r := R k) (o := k * 4) HB1.out (Nat.le_refl _), by rw [show ((((w1.setCell ⟨w.heap.size, k * 4, none⟩ (.int .i64 (R k).t)).setCell ⟨w.heap.size, k * 4 + 1, none⟩ (.int .i64 (R k).a)).setCell ⟨w.heap.size, k * 4 + 2, none⟩ (.bool (R k).g)).setCell ⟨w.heap.size, k * 4 + 3, none⟩ (.int .i64 (R k).v)).heap.size = w1.heap.size from set4_size (r := R k) (o := k * 4)]; exact hs1, HS⟩
      case measure => simp [intOf]; omega
    · have hkn : k = n := by omega
      have HR1 : Hid (Row4 wr w.heap.size 0 n R) := row4_congr HR.out (fun i hi => by simp [toK, hkn, hi])
      have hnl : ¬ ((k : Int) < (n : Int)) := by omega
      go_wp2_with fail
      go_ret
      exact ⟨rfl, HB.out, hsz, HR1.out⟩
theorem toVersionS_zero (a : Option Addr) (cap : Nat) (w : World) :
    Calls Tryz.prog 50 #[.slice a 0 cap] w fun e w' => e = .returned (.slice (some ⟨w.heap.size, 0, none⟩) 0 0) ∧ Below w.heap.size w w' ∧ w.heap.size < w'.heap.size := by
  have hmk : ∀ w, (Instr.makeSlice 47 (.int .i64 0) (.int .i64 0)).run Tryz.prog w = .ok (.slice (some ⟨w.heap.size, 0, none⟩) 0 0) (w.alloc (.cells #[] 51)) := fun w => by
    have h := run_make_vers 0 (by omega) w
    rw [made_none] at h
    exact h
  go_enter Tryz.func50, Tryz.ntmps50
  go_wp2
  go_loop [4] (fun i => i = .int .i64 0) (fun _ => 0)
  case atStart => exact rfl
  case round =>
    obtain rfl := hrel
    go_wp2
    go_ret
    exact ⟨rfl, (Below.refl _ _).alloc (Nat.le_refl _) _, by simp⟩
theorem toVersionS_any (n : Nat) (R : Nat → Vr) (a : Option Addr) (cap : Nat) (w : World) (hn : n ≤ 1048576) (h : VersAt w a n R) :
    Calls Tryz.prog 50 #[.slice a n cap] w fun e w' => ∃ b,
      e = .returned (.slice (some ⟨b, 0, none⟩) n n) ∧ Below w.heap.size w w' ∧ Own4 w' w.heap.size w'.heap.size (some ⟨b, 0, none⟩) n R := by
  rcases h with rfl | ⟨b, off, rfl, hbl, hc⟩
  · refine (toVersionS_zero a cap w).mono ?_
    rintro e w' ⟨rfl, hb, _⟩
    exact ⟨_, rfl, hb, Nat.le_refl _, .inl rfl⟩
  · refine (toVersionS_some n R b off cap w hn hbl hc).mono ?_
    rintro e w' ⟨rfl, hb, hs, hr⟩
    exact ⟨_, rfl, hb, Nat.le_refl _, .inr ⟨_, 0, rfl, Nat.le_refl _, hs, hr⟩⟩
/-! ### equal -/
theorem eqVersion_same (t a : Int) (g : Bool) (v : Int) (w : World) :
    Calls Tryz.prog 90 #[.agg #[.int .i64 t, .int .i64 a, .bool g, .int .i64 v], .agg #[.int .i64 t, .int .i64 a, .bool g, .int .i64 v]] w fun e w' => e = .returned (.bool true) ∧ Below w.heap.size w w' := by
  have hb0 : ∀ o1 o2, Below w.heap.size w ((w.alloc o1).alloc o2) := fun o1 o2 => ((Below.refl _ _).alloc (Nat.le_refl _) _).alloc (by simp) _
  have e1 : (g != g) = false := by simp
  go_enter Tryz.func90, Tryz.ntmps90
  go_wp2_with fail
  go_ret
  exact ⟨rfl, hb0 _ _⟩
theorem eqVersionS_zero (a a' : Option Addr) (cap cap' : Nat) (w : World) : Calls Tryz.prog 66 #[.slice a 0 cap, .slice a' 0 cap'] w fun e w' => e = .returned (.bool true) ∧ Below w.heap.size w w' := by
  go_enter Tryz.func66, Tryz.ntmps66
  go_wp2_with fail
  go_loop [5] (fun i => i = .int .i64 0) (fun _ => 0)
  case atStart => exact rfl
  case round =>
    obtain rfl := hrel
    go_wp2_with fail
    go_ret
    exact ⟨rfl, Below.refl _ _⟩
theorem drewB6 {w1 w2 : World} (hb : Below w1.drew.heap.size w1.drew w2) : Below w1.heap.size w1 w2 := ((Below.refl _ _).drew).trans hb
set_option maxHeartbeats 2000000 in
theorem eqVersionS_some (n : Nat) (R : Nat → Vr) (b off cap b' off' cap' : Nat) (w : World) (hn : n ≤ 1048576) (hbl : b < w.heap.size) (hbl' : b' < w.heap.size) (hc : ∀ i, i < n → C4 w b (off + i * 4) (R i)) (hc' : ∀ i, i < n → C4 w b' (off' + i * 4) (R i)) :
    Calls Tryz.prog 66 #[.slice (some ⟨b, off, none⟩) n cap, .slice (some ⟨b', off', none⟩) n cap'] w fun e w' => e = .returned (.bool true) ∧ Below w.heap.size w w' := by
  have HC : Hid (∀ i, i < n → C4 w b (off + i * 4) (R i)) := hc
  have HC' : Hid (∀ i, i < n → C4 w b' (off' + i * 4) (R i)) := hc'
  have hne : ((n : Int) != (n : Int)) = false := by simp
  clear hc hc'
  go_enter Tryz.func66, Tryz.ntmps66
  go_wp2_with fail
  go_loopw [5] (fun i wr => ∃ k : Nat, k ≤ n ∧ i = .int .i64 k ∧ Hid (Below w.heap.size w wr)) (fun i _ => n - (intOf i).toNat)
  case atStart => exact ⟨0, Nat.zero_le _, rfl, Below.refl _ _⟩
  case round =>
    obtain ⟨k, hk, rfl, HB⟩ := hrel
    by_cases hlt : k < n
    · have hlt' : (k : Int) < (n : Int) := by omega
      have hk0 : (0 : Int) ≤ (k : Int) := by omega
      obtain ⟨x0, x1, x2, x3⟩ := (HC.out k hlt).block (HB.out.block _ hbl)
      obtain ⟨y0, y1, y2, y3⟩ := (HC'.out k hlt).block (HB.out.block _ hbl')
      generalize R k = r at *
      go_wp2_with fail
      go_region_law (first | (go_simp; go_at_call 90; refine (eqVersion_same r.t r.a r.g r.v _).mono ?_; rintro e w1 ⟨rfl, hb1⟩; have HB1 : Hid (Below w.heap.size w w1) := below_then HB.out (drewB6 hb1)))
      all_goals
        go_wp2_with fail
        go_roundw
        case rel => exact ⟨k + 1, hlt, by go_num, HB1⟩
        case measure => simp [intOf]; omega
    · have hnl : ¬ ((k : Int) < (n : Int)) := by omega
      go_wp2_with fail
      go_ret
      exact ⟨rfl, HB.out⟩
theorem eqVersionS_any (n : Nat) (R : Nat → Vr) (a a' : Option Addr) (cap cap' : Nat) (w : World) (hn : n ≤ 1048576) (h : VersAt w a n R) (h' : VersAt w a' n R) :
    Calls Tryz.prog 66 #[.slice a n cap, .slice a' n cap'] w fun e w' => e = .returned (.bool true) ∧ Below w.heap.size w w' := by
  rcases h with rfl | ⟨b, off, rfl, hl, hc⟩
  · exact eqVersionS_zero a a' cap cap' w
  · rcases h' with rfl | ⟨b', off', rfl, hl', hc'⟩
    · exact eqVersionS_zero _ a' cap cap' w
    · exact eqVersionS_some n R b off cap b' off' cap' w hn hl hl' hc hc'
end Go.Proofs.YtaelpjjabkkhcaaGreatDoor
