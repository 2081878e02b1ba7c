/- PageFault: its model, and the walks of spec.PageFault and impl.PageFault. -/
import Derived.Test.YtjdodbiphijjgaaBox
namespace Go.Proofs.Ytjdodbiphijjgaa
open Go.RowKit Go.Deep
set_option linter.unusedVariables false

def inB (v lo hi : Int) : Bool := decide (lo ≤ v) && decide (v ≤ hi)
theorem inB_iff {v lo hi : Int} : inB v lo hi = true ↔ lo ≤ v ∧ v ≤ hi := by simp [inB]
/-- The first fault of the cells from the i-th on, m of them. -/
def cff (K V : Nat → Int) : Nat → Nat → Int
  | 0, _ => 0
  | m + 1, i => if inB (K i) 0 31 = false ∨ inB (V i) 0 9999 = false then 3 else if 0 < i ∧ K i ≤ K (i - 1) then 1 else cff K V m (i + 1)
def pf (id lsn : Int) (n : Nat) (K V : Nat → Int) : Int :=
  if inB id 0 7 = false ∨ inB lsn 0 1000000 = false then 3 else if 12 < n then 2 else cff K V n 0
theorem cff_at {K V : Nat → Int} {n k : Nat} (h : k < n) : cff K V (n - k) k = if inB (K k) 0 31 = false ∨ inB (V k) 0 9999 = false then 3 else if 0 < k ∧ K k ≤ K (k - 1) then 1 else cff K V (n - (k + 1)) (k + 1) := by
  obtain ⟨m, hm⟩ : ∃ m, n - k = m + 1 := ⟨n - k - 1, by omega⟩
  rw [hm, cff, show n - (k + 1) = m by omega]

/-! ### the small tests -/
theorem l1In_any (v lo hi : Int) (w : World) : Calls Try.prog 22 #[.int .i64 v, .int .i64 lo, .int .i64 hi] w fun e w' => e = .returned (.bool (inB v lo hi)) ∧ w' = w := by
  unfold inB
  by_cases h1 : lo ≤ v
  · by_cases h2 : v ≤ hi
    · go_enter Try.func22, Try.ntmps22
      go_wp2
      go_ret
      exact ⟨ret_bool (by simp [h1, h2]), rfl⟩
    · have h3 : decide (v ≤ hi) = false := by simp; omega
      go_enter Try.func22, Try.ntmps22
      go_wp2
      go_ret
      exact ⟨ret_bool (by simp), rfl⟩
  · have h3 : decide (lo ≤ v) = false := by simp; omega
    go_enter Try.func22, Try.ntmps22
    go_wp2
    go_ret
    exact ⟨ret_bool (by simp), rfl⟩
theorem within_any (v lo hi : Int) (w : World) : Calls Try.prog 31 #[.int .i64 v, .int .i64 lo, .int .i64 hi] w fun e w' => e = .returned (.bool (inB v lo hi)) ∧ w' = w := by
  unfold inB
  by_cases h1 : lo ≤ v
  · by_cases h2 : v ≤ hi
    · go_enter Try.func31, Try.ntmps31
      go_wp2
      go_ret
      exact ⟨ret_bool (by simp [h1, h2]), rfl⟩
    · have h3 : decide (v ≤ hi) = false := by simp; omega
      go_enter Try.func31, Try.ntmps31
      go_wp2
      go_ret
      exact ⟨ret_bool (by simp), rfl⟩
  · have h3 : decide (lo ≤ v) = false := by simp; omega
    go_enter Try.func31, Try.ntmps31
    go_wp2
    go_ret
    exact ⟨ret_bool (by simp), rfl⟩
theorem l1Key_any (v : Int) (w : World) : Calls Try.prog 14 #[.int .i64 v] w fun e w' => e = .returned (.bool (inB v 0 31)) ∧ w' = w := by
  go_enter Try.func14, Try.ntmps14
  go_wp2_with (go_at_call 22; refine (l1In_any _ _ _ _).mono ?_; rintro e w' ⟨rfl, rfl⟩)
  go_ret
  exact ⟨rfl, rfl⟩
theorem l1Value_any (v : Int) (w : World) : Calls Try.prog 15 #[.int .i64 v] w fun e w' => e = .returned (.bool (inB v 0 9999)) ∧ w' = w := by
  go_enter Try.func15, Try.ntmps15
  go_wp2_with (go_at_call 22; refine (l1In_any _ _ _ _).mono ?_; rintro e w' ⟨rfl, rfl⟩)
  go_ret
  exact ⟨rfl, rfl⟩
theorem isKey_any (v : Int) (w : World) : Calls Try.prog 23 #[.int .i64 v] w fun e w' => e = .returned (.bool (inB v 0 31)) ∧ w' = w := by
  go_enter Try.func23, Try.ntmps23
  go_wp2_with (go_at_call 31; refine (within_any _ _ _ _).mono ?_; rintro e w' ⟨rfl, rfl⟩)
  go_ret
  exact ⟨rfl, rfl⟩
theorem isValue_any (v : Int) (w : World) : Calls Try.prog 24 #[.int .i64 v] w fun e w' => e = .returned (.bool (inB v 0 9999)) ∧ w' = w := by
  go_enter Try.func24, Try.ntmps24
  go_wp2_with (go_at_call 31; refine (within_any _ _ _ _).mono ?_; rintro e w' ⟨rfl, rfl⟩)
  go_ret
  exact ⟨rfl, rfl⟩

/-! ### impl.cellsFault -/
set_option maxHeartbeats 1000000 in
theorem cellsFault_some (n : Nat) (K V : Nat → Int) (b off cap : Nat) (w : World) (hn : n ≤ 140737488355328) (hbl : b < w.heap.size)
    (hk : ∀ i, i < n → w.cell? ⟨b, off + i * 2, none⟩ = some (.int .i64 (K i))) (hv : ∀ i, i < n → w.cell? ⟨b, off + i * 2 + 1, none⟩ = some (.int .i64 (V i))) :
    Calls Try.prog 17 #[.slice (some ⟨b, off, none⟩) n cap] w fun e w' => e = .returned (.int .i64 (cff K V n 0)) ∧ Below w.heap.size w w' := by
  go_enter Try.func17, Try.ntmps17
  go_wp2
  go_loopw [3, 4, 7] (fun _ _ i wr => ∃ k : Nat, k ≤ n ∧ i = .int .i64 k ∧ Hid (cff K V n 0 = cff K V (n - k) k) ∧ Below w.heap.size w wr) (fun _ _ i _ => n - (intOf i).toNat)
  case atStart => exact ⟨0, Nat.zero_le _, rfl, rfl, Below.refl _ _⟩
  case round =>
    obtain ⟨k, hk0, rfl, HC, hb⟩ := hrel
    by_cases hlt : k < n
    · have h1 : wr.cell? ⟨b, off + k * 2, none⟩ = some (.int .i64 (K k)) := (hb.cell (p := ⟨b, _, none⟩) hbl).trans (hk k hlt)
      have h2 : wr.cell? ⟨b, off + k * 2 + 1, none⟩ = some (.int .i64 (V k)) := (hb.cell (p := ⟨b, _, none⟩) hbl).trans (hv k hlt)
      have hbne : ¬ b = wr.heap.size := by have := hb.size; omega
      have hlt' : (k : Int) < (n : Int) := by omega
      have HB : Hid (Below w.heap.size w wr) := hb
      have HA : Hid (cff K V n 0 = _) := HC.out.trans (cff_at hlt)
      clear HC
      by_cases hc1 : inB (K k) 0 31 = true
      · by_cases hc2 : inB (V k) 0 9999 = true
        · rcases Nat.eq_zero_or_pos k with hk9 | hpos
          · have hd : decide (0 < k) = false := by simp; omega
            have HC : Hid (cff K V n 0 = cff K V (n - (k + 1)) (k + 1)) := by
              refine HA.out.trans ?_
              rw [if_neg (by simp [hc1, hc2]), if_neg (by omega)]
            clear hk hv hb HA hk9
            go_wp2_with (first | (go_at_call 23; refine (isKey_any _ _).mono ?_; rintro e w' ⟨rfl, rfl⟩) | (go_at_call 24; refine (isValue_any _ _).mono ?_; rintro e w' ⟨rfl, rfl⟩))
            go_quiet (fail)
            go_wp2
            go_roundw
            case rel => exact ⟨k + 1, hlt, by go_num, HC, by have hs := HB.out.size; repeat (first | exact HB.out | apply Below.drew | refine below_drewN ?_ _ | refine Below.alloc ?_ (by first | omega | (simp; omega)) _)⟩
            case measure => simp [intOf]; omega
          · obtain ⟨j, rfl⟩ : ∃ j, k = j + 1 := ⟨k - 1, by omega⟩
            have h3 : wr.cell? ⟨b, off + j * 2, none⟩ = some (.int .i64 (K j)) := (hb.cell (p := ⟨b, _, none⟩) hbl).trans (hk j (by omega))
            have hj1 : (j : Int) < (n : Int) := by omega
            have hj2 : j < n := by omega
            have h3a : ∀ o : Obj, (wr.alloc o).cell? ⟨b, off + j * 2, none⟩ = some (.int .i64 (K j)) := fun o => cell_alloc h3 o
            have hwj : IntKind.i64.wrap (j : Int) = (j : Int) := by rw [IntKind.wrap_i64]; omega
            by_cases hc3 : K (j + 1) ≤ K j
            · have HC : Hid (cff K V n 0 = 1) := by
                refine HA.out.trans ?_
                rw [if_neg (by simp [hc1, hc2]), if_pos ⟨by omega, by simpa using hc3⟩]
              clear hk hv hb HA
              go_wp2_with (first | (go_at_call 23; refine (isKey_any _ _).mono ?_; rintro e w' ⟨rfl, rfl⟩) | (go_at_call 24; refine (isValue_any _ _).mono ?_; rintro e w' ⟨rfl, rfl⟩))
              go_quiet (fail)
              go_wp2
              go_ret
              exact ⟨ret_int HC.out.symm, by have hs := HB.out.size; repeat (first | exact HB.out | apply Below.drew | refine below_drewN ?_ _ | refine Below.alloc ?_ (by first | omega | (simp; omega)) _)⟩
            · have HC : Hid (cff K V n 0 = cff K V (n - (j + 1 + 1)) (j + 1 + 1)) := by
                refine HA.out.trans ?_
                rw [if_neg (by simp [hc1, hc2]), if_neg (by simp; omega)]
              have hc4 : decide (K (j + 1) ≤ K j) = false := by simp; omega
              clear hk hv hb HA
              go_wp2_with (first | (go_at_call 23; refine (isKey_any _ _).mono ?_; rintro e w' ⟨rfl, rfl⟩) | (go_at_call 24; refine (isValue_any _ _).mono ?_; rintro e w' ⟨rfl, rfl⟩))
              go_quiet (fail)
              go_wp2
              go_roundw
              case rel => exact ⟨j + 1 + 1, hlt, by go_num, HC, by have hs := HB.out.size; repeat (first | exact HB.out | apply Below.drew | refine below_drewN ?_ _ | refine Below.alloc ?_ (by first | omega | (simp; omega)) _)⟩
              case measure => simp [intOf]; omega
        · have hc4 : inB (V k) 0 9999 = false := by simpa using hc2
          have HC : Hid (cff K V n 0 = 3) := by
            refine HA.out.trans ?_
            rw [if_pos (.inr hc4)]
          clear hk hv hb HA hc2
          go_wp2_with (first | (go_at_call 23; refine (isKey_any _ _).mono ?_; rintro e w' ⟨rfl, rfl⟩) | (go_at_call 24; refine (isValue_any _ _).mono ?_; rintro e w' ⟨rfl, rfl⟩))
          go_ret
          exact ⟨ret_int HC.out.symm, by have hs := HB.out.size; repeat (first | exact HB.out | apply Below.drew | refine below_drewN ?_ _ | refine Below.alloc ?_ (by first | omega | (simp; omega)) _)⟩
      · have hc4 : inB (K k) 0 31 = false := by simpa using hc1
        have HC : Hid (cff K V n 0 = 3) := by
          refine HA.out.trans ?_
          rw [if_pos (.inl hc4)]
        clear hk hv hb HA hc1
        go_wp2_with (first | (go_at_call 23; refine (isKey_any _ _).mono ?_; rintro e w' ⟨rfl, rfl⟩) | (go_at_call 24; refine (isValue_any _ _).mono ?_; rintro e w' ⟨rfl, rfl⟩))
        go_ret
        exact ⟨ret_int HC.out.symm, by have hs := HB.out.size; repeat (first | exact HB.out | apply Below.drew | refine below_drewN ?_ _ | refine Below.alloc ?_ (by first | omega | (simp; omega)) _)⟩
    · have HC2 : Hid (cff K V n 0 = 0) := by
        refine HC.out.trans ?_
        rw [show n - k = 0 by omega, cff]
      clear hk hv HC
      go_wp2
      go_ret
      exact ⟨ret_int HC2.out.symm, hb⟩
theorem cellsFault_zero (K V : Nat → Int) (a : Option Addr) (cap : Nat) (w : World) :
    Calls Try.prog 17 #[.slice a 0 cap] w fun e w' => e = .returned (.int .i64 (cff K V 0 0)) ∧ Below w.heap.size w w' := by
  go_enter Try.func17, Try.ntmps17
  go_wp2
  go_loop [3, 4, 7] (fun _ _ i => i = .int .i64 0) (fun _ _ _ => 0)
  case atStart => exact rfl
  case round =>
    obtain rfl := hrel
    go_wp2
    go_ret
    exact ⟨rfl, Below.refl _ _⟩
theorem cellsFault_any (n : Nat) (K V : Nat → Int) (a : Option Addr) (cap : Nat) (w : World) (hn : n ≤ 140737488355328) (h : CellsAt w a n K V) :
    Calls Try.prog 17 #[.slice a n cap] w fun e w' => e = .returned (.int .i64 (cff K V n 0)) ∧ Below w.heap.size w w' := by
  rcases h with rfl | ⟨b, off, rfl, hbl, hk, hv⟩
  · exact cellsFault_zero K V a cap w
  · exact cellsFault_some n K V b off cap w hn hbl hk hv
/-! ### impl.PageFault -/
end Go.Proofs.Ytjdodbiphijjgaa
