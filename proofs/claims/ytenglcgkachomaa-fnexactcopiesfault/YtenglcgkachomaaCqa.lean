/- Faults of copies: what they are; small walks. -/
import Derived.Test.YtenglcgkachomaaCpa
namespace Go.Proofs.Ytenglcgkachomaa
open Go.ChangeShapes Go.WideShapes Go.ChangeAt Go.RowKit Go.Deep Go.Joins
set_option linter.unusedVariables false
set_option maxRecDepth 20000

theorem isTxn_any (v : Int) (w : World) : Calls Try.prog 50 #[.int .i64 v] w fun e w' => e = .returned (.bool (inB v 1 999)) ∧ w' = w := by
  go_enter Try.func50, Try.ntmps50
  go_wp2_with (go_at_call 52; refine (within_any _ _ _ _).mono ?_; rintro e w' ⟨rfl, rfl⟩)
  go_ret
  exact ⟨rfl, rfl⟩
theorem isAt_any (v : Int) (w : World) : Calls Try.prog 51 #[.int .i64 v] w fun e w' => e = .returned (.bool (inB v 0 1000000)) ∧ w' = w := by
  go_enter Try.func51, Try.ntmps51
  go_wp2_with (go_at_call 52; refine (within_any _ _ _ _).mono ?_; rintro e w' ⟨rfl, rfl⟩)
  go_ret
  exact ⟨rfl, rfl⟩
theorem l5Txn_any (v : Int) (w : World) : Calls Try.prog 44 #[.int .i64 v] w fun e w' => e = .returned (.bool (inB v 1 999)) ∧ w' = w := by
  go_enter Try.func44, Try.ntmps44
  go_wp2_with (go_at_call 45; refine (l1In_any _ _ _ _).mono ?_; rintro e w' ⟨rfl, rfl⟩)
  go_ret
  exact ⟨rfl, rfl⟩
/-- From k on, f numbers: each is above the one before. -/
def rsf (F : Nat → Int) : Nat → Nat → Bool
  | 0, _ => true
  | f + 1, k => if 0 < k ∧ F k ≤ F (k - 1) then false else rsf F f (k + 1)
theorem rsf_at {F : Nat → Int} {n k : Nat} (h : k < n) : rsf F (n - k) k = if 0 < k ∧ F k ≤ F (k - 1) then false else rsf F (n - (k + 1)) (k + 1) := by
  have : n - k = (n - (k + 1)) + 1 := by omega
  rw [this, rsf]
set_option maxHeartbeats 1000000 in
theorem rises_any (n : Nat) (F : Nat → Int) (a : Option Addr) (cap : Nat) (w : World) (hn : n ≤ 1048576) (h : IntsAt w a n F) :
    Calls Try.prog 85 #[.slice a n cap] w fun e w' => e = .returned (.bool (rsf F n 0)) ∧ w' = w := by
  have H : Hid (IntsAt w a n F) := h
  clear h
  go_enter Try.func85, Try.ntmps85
  go_wp2_with fail
  go_loop [7] (fun i => ∃ k : Nat, k ≤ n ∧ i = .int .i64 k ∧ Hid (rsf F n 0 = rsf F (n - k) k)) (fun i => n - (intOf i).toNat)
  case atStart => exact ⟨0, Nat.zero_le _, rfl, rfl⟩
  case round =>
    obtain ⟨k, hk, rfl, HC⟩ := hrel
    by_cases hlt : k < n
    · rcases H.out with h | ⟨b, off, rfl, hl, hc⟩
      · omega
      have h0 := hc k hlt
      have hlt' : (k : Int) < (n : Int) := by omega
      have HD : Hid (rsf F n 0 = _) := HC.out.trans (rsf_at hlt)
      clear HC
      by_cases hk0 : k = 0
      · subst hk0
        have HC : Hid (rsf F n 0 = rsf F (n - (0 + 1)) (0 + 1)) := HD.out.trans (if_neg (by omega))
        clear HD hc
        rw [Nat.add_zero] at h0
        go_wp2_with fail
        go_round
        case rel => exact ⟨0 + 1, hlt, by go_num, HC⟩
        case measure => simp [intOf]; omega
      · have h1 := hc (k - 1) (by omega)
        have hp : (k : Int) > 0 := by omega
        have hp2 : (0 : Int) < (k : Int) := by omega
        have hw : IntKind.i64.wrap ((k : Int) - 1) = (k : Int) - 1 := by rw [IntKind.wrap_i64]; omega
        have hw3 : ((k : Int) - 1).toNat = k - 1 := by omega
        have i1 : (k : Int) - 1 < (n : Int) := by omega
        have i2 : 0 ≤ (k : Int) - 1 := by omega
        clear hc
        by_cases hle : F k ≤ F (k - 1)
        · have HC : Hid (rsf F n 0 = false) := HD.out.trans (if_pos ⟨by omega, hle⟩)
          clear HD
          go_wp2_with fail
          go_ret
          exact ⟨ret_bool HC.out.symm, rfl⟩
        · have HC : Hid (rsf F n 0 = rsf F (n - (k + 1)) (k + 1)) := HD.out.trans (if_neg (by omega))
          have hle' : decide (F k ≤ F (k - 1)) = false := by simp; omega
          clear HD
          go_wp2_with fail
          go_round
          case rel => exact ⟨k + 1, hlt, by go_num, HC⟩
          case measure => simp [intOf]; omega
    · have HC0 : Hid (rsf F n 0 = true) := by
        refine HC.out.trans ?_
        rw [show n - k = 0 by omega, rsf]
      clear HC
      go_wp2_with fail
      go_ret
      exact ⟨ret_bool HC0.out.symm, rfl⟩
set_option maxHeartbeats 1000000 in
theorem l9Cells_some (n : Nat) (K V : Nat → Int) (b off cap : Nat) (w : World) (hn : n ≤ 140737488355328) (hbl : b < w.heap.size)
    (hk : ∀ i, i < n → w.cell? ⟨b, off + i * 2, none⟩ = some (.int .i64 (K i))) (hv : ∀ i, i < n → w.cell? ⟨b, off + i * 2 + 1, none⟩ = some (.int .i64 (V i))) :
    Calls Try.prog 46 #[.slice (some ⟨b, off, none⟩) n cap] w fun e w' => e = .returned (.int .i64 (cff K V n 0)) ∧ Below w.heap.size w w' := by
  go_enter Try.func46, Try.ntmps46
  go_wp2
  go_loopw [3] (fun i wr => ∃ k : Nat, k ≤ n ∧ i = .int .i64 k ∧ Hid (cff K V n 0 = cff K V (n - k) k) ∧ Below w.heap.size w wr) (fun i _ => n - (intOf i).toNat)
  case atStart => exact ⟨0, Nat.zero_le _, rfl, rfl, Below.refl _ _⟩
  case round =>
    obtain ⟨k, hk0, rfl, HC, hb⟩ := hrel
    by_cases hlt : k < n
    · have h1 : wr.cell? ⟨b, off + k * 2, none⟩ = some (.int .i64 (K k)) := (hb.cell (p := ⟨b, _, none⟩) hbl).trans (hk k hlt)
      have h2 : wr.cell? ⟨b, off + k * 2 + 1, none⟩ = some (.int .i64 (V k)) := (hb.cell (p := ⟨b, _, none⟩) hbl).trans (hv k hlt)
      have hbne : ¬ b = wr.heap.size := by have := hb.size; omega
      have hlt' : (k : Int) < (n : Int) := by omega
      have HB : Hid (Below w.heap.size w wr) := hb
      have HA : Hid (cff K V n 0 = _) := HC.out.trans (cff_at hlt)
      clear HC
      by_cases hc1 : inB (K k) 0 31 = true
      · by_cases hc2 : inB (V k) 0 9999 = true
        · rcases Nat.eq_zero_or_pos k with hk9 | hpos
          · have hd : decide (0 < k) = false := by simp; omega
            have HC : Hid (cff K V n 0 = cff K V (n - (k + 1)) (k + 1)) := by
              refine HA.out.trans ?_
              rw [if_neg (by simp [hc1, hc2]), if_neg (by omega)]
            clear hk hv hb HA hk9
            go_wp2_with (first | (go_at_call 67; refine (l1Key_any _ _).mono ?_; rintro e w' ⟨rfl, rfl⟩) | (go_at_call 68; refine (l1Value_any _ _).mono ?_; rintro e w' ⟨rfl, rfl⟩))
            go_quiet (fail)
            go_wp2
            go_roundw
            case rel => exact ⟨k + 1, hlt, by go_num, HC, by have hs := HB.out.size; repeat (first | exact HB.out | apply Below.drew | refine below_drewN ?_ _ | refine Below.alloc ?_ (by first | omega | (simp; omega)) _)⟩
            case measure => simp [intOf]; omega
          · obtain ⟨j, rfl⟩ : ∃ j, k = j + 1 := ⟨k - 1, by omega⟩
            have h3 : wr.cell? ⟨b, off + j * 2, none⟩ = some (.int .i64 (K j)) := (hb.cell (p := ⟨b, _, none⟩) hbl).trans (hk j (by omega))
            have hj1 : (j : Int) < (n : Int) := by omega
            have hj2 : j < n := by omega
            have h3a : ∀ o : Obj, (wr.alloc o).cell? ⟨b, off + j * 2, none⟩ = some (.int .i64 (K j)) := fun o => cell_alloc h3 o
            have hwj : IntKind.i64.wrap (j : Int) = (j : Int) := by rw [IntKind.wrap_i64]; omega
            by_cases hc3 : K (j + 1) ≤ K j
            · have HC : Hid (cff K V n 0 = 1) := by
                refine HA.out.trans ?_
                rw [if_neg (by simp [hc1, hc2]), if_pos ⟨by omega, by simpa using hc3⟩]
              clear hk hv hb HA
              go_wp2_with (first | (go_at_call 67; refine (l1Key_any _ _).mono ?_; rintro e w' ⟨rfl, rfl⟩) | (go_at_call 68; refine (l1Value_any _ _).mono ?_; rintro e w' ⟨rfl, rfl⟩))
              go_quiet (fail)
              go_wp2
              go_ret
              exact ⟨ret_int HC.out.symm, by have hs := HB.out.size; repeat (first | exact HB.out | apply Below.drew | refine below_drewN ?_ _ | refine Below.alloc ?_ (by first | omega | (simp; omega)) _)⟩
            · have HC : Hid (cff K V n 0 = cff K V (n - (j + 1 + 1)) (j + 1 + 1)) := by
                refine HA.out.trans ?_
                rw [if_neg (by simp [hc1, hc2]), if_neg (by simp; omega)]
              have hc4 : decide (K (j + 1) ≤ K j) = false := by simp; omega
              clear hk hv hb HA
              go_wp2_with (first | (go_at_call 67; refine (l1Key_any _ _).mono ?_; rintro e w' ⟨rfl, rfl⟩) | (go_at_call 68; refine (l1Value_any _ _).mono ?_; rintro e w' ⟨rfl, rfl⟩))
              go_quiet (fail)
              go_wp2
              go_roundw
              case rel => exact ⟨j + 1 + 1, hlt, by go_num, HC, by have hs := HB.out.size; repeat (first | exact HB.out | apply Below.drew | refine below_drewN ?_ _ | refine Below.alloc ?_ (by first | omega | (simp; omega)) _)⟩
              case measure => simp [intOf]; omega
        · have hc4 : inB (V k) 0 9999 = false := by simpa using hc2
          have HC : Hid (cff K V n 0 = 3) := by
            refine HA.out.trans ?_
            rw [if_pos (.inr hc4)]
          clear hk hv hb HA hc2
          go_wp2_with (first | (go_at_call 67; refine (l1Key_any _ _).mono ?_; rintro e w' ⟨rfl, rfl⟩) | (go_at_call 68; refine (l1Value_any _ _).mono ?_; rintro e w' ⟨rfl, rfl⟩))
          go_ret
          exact ⟨ret_int HC.out.symm, by have hs := HB.out.size; repeat (first | exact HB.out | apply Below.drew | refine below_drewN ?_ _ | refine Below.alloc ?_ (by first | omega | (simp; omega)) _)⟩
      · have hc4 : inB (K k) 0 31 = false := by simpa using hc1
        have HC : Hid (cff K V n 0 = 3) := by
          refine HA.out.trans ?_
          rw [if_pos (.inl hc4)]
        clear hk hv hb HA hc1
        go_wp2_with (first | (go_at_call 67; refine (l1Key_any _ _).mono ?_; rintro e w' ⟨rfl, rfl⟩) | (go_at_call 68; refine (l1Value_any _ _).mono ?_; rintro e w' ⟨rfl, rfl⟩))
        go_ret
        exact ⟨ret_int HC.out.symm, by have hs := HB.out.size; repeat (first | exact HB.out | apply Below.drew | refine below_drewN ?_ _ | refine Below.alloc ?_ (by first | omega | (simp; omega)) _)⟩
    · have HC2 : Hid (cff K V n 0 = 0) := by
        refine HC.out.trans ?_
        rw [show n - k = 0 by omega, cff]
      clear hk hv HC
      go_wp2
      go_ret
      exact ⟨ret_int HC2.out.symm, hb⟩
theorem l9Cells_zero (K V : Nat → Int) (a : Option Addr) (cap : Nat) (w : World) :
    Calls Try.prog 46 #[.slice a 0 cap] w fun e w' => e = .returned (.int .i64 (cff K V 0 0)) ∧ Below w.heap.size w w' := by
  go_enter Try.func46, Try.ntmps46
  go_wp2
  go_loop [3] (fun i => i = .int .i64 0) (fun _ => 0)
  case atStart => exact rfl
  case round =>
    obtain rfl := hrel
    go_wp2
    go_ret
    exact ⟨rfl, Below.refl _ _⟩
theorem l9Cells_any (n : Nat) (K V : Nat → Int) (a : Option Addr) (cap : Nat) (w : World) (hn : n ≤ 140737488355328) (h : CellsAt w a n K V) :
    Calls Try.prog 46 #[.slice a n cap] w fun e w' => e = .returned (.int .i64 (cff K V n 0)) ∧ Below w.heap.size w w' := by
  rcases h with rfl | ⟨b, off, rfl, hbl, hk, hv⟩
  · exact l9Cells_zero K V a cap w
  · exact l9Cells_some n K V b off cap w hn hbl hk hv
theorem bool_or9 (b : Bool) : b = true ∨ b = false := by cases b <;> simp
/-- From k on, f numbers: each within bounds. -/
def alI (lo hi : Int) (F : Nat → Int) : Nat → Nat → Bool
  | 0, _ => true
  | f + 1, k => if inB (F k) lo hi = true then alI lo hi F f (k + 1) else false
theorem alI_at {lo hi : Int} {F : Nat → Int} {n k : Nat} (h : k < n) : alI lo hi F (n - k) k = if inB (F k) lo hi = true then alI lo hi F (n - (k + 1)) (k + 1) else false := by
  have : n - k = (n - (k + 1)) + 1 := by omega
  rw [this, alI]
def wrF (n : Nat) (F : Nat → Int) : Int := if alI 0 31 F n 0 = true then (if rsf F n 0 = true then 0 else 1) else 3
def ffy (f : Nat → Int) : Nat → Nat → Int
  | 0, _ => 0
  | m + 1, i => if f i = 0 then ffy f m (i + 1) else f i
theorem ffy_at (f : Nat → Int) {n k : Nat} (h : k < n) : ffy f (n - k) k = if f k = 0 then ffy f (n - (k + 1)) (k + 1) else f k := by
  obtain ⟨m, hm⟩ : ∃ m, n - k = m + 1 := ⟨n - k - 1, by omega⟩
  rw [hm, ffy, show n - (k + 1) = m by omega]
def cdIn (nx ck : Int) (t : Cd) : Bool := inB t.id 1 (nx - 1) && inB t.am 0 ck && inB t.st 1 3
def cdB1 (T : Nat → Cd) (k : Nat) : Bool := decide (0 < k) && decide ((T k).id ≤ (T (k - 1)).id)
def cdB2 (t : Cd) : Bool := (t.st != 1) && decide (0 < t.sn + t.wn + t.rn)
/-- The fault of the k-th. -/
def cdF (nx ck : Int) (T : Nat → Cd) (k : Nat) : Int :=
  if cdIn nx ck (T k) = true then (if (cdB1 T k || cdB2 (T k)) = true then 1 else if cff (T k).sK (T k).sV (T k).sn 0 = 0 then (if cff (T k).wK (T k).wV (T k).wn 0 = 0 then wrF (T k).rn (T k).rF else cff (T k).wK (T k).wV (T k).wn 0) else cff (T k).sK (T k).sV (T k).sn 0) else 3
def csF (t : Cs) : Int :=
  if (inB t.nx 1 999 && inB t.ck 0 1000000) = true then (if 20 < t.tn then 2 else if t.ln = 32 then (if alI 0 t.ck t.lF t.ln 0 = true then (if cff t.wK t.wV t.wn 0 = 0 then ffy (cdF t.nx t.ck t.tT) t.tn 0 else cff t.wK t.wV t.wn 0) else 3) else 1) else 3
theorem l1In_q9 (v lo hi : Int) (w : World) : Calls Try.prog 45 #[.int .i64 v, .int .i64 lo, .int .i64 hi] w fun e w' => e = .returned (.bool (inB v lo hi)) ∧ ∃ n, w' = w.drewN n := by
  refine (l1In_any v lo hi w).mono ?_
  rintro e w' ⟨rfl, rfl⟩
  exact ⟨rfl, 0, rfl⟩
/-! ### impl.wroteFault, impl.copiedHasForm -/
set_option maxHeartbeats 1000000 in
theorem wroteFault_any (n : Nat) (Z : Nat → Int) (a : Option Addr) (cap : Nat) (w : World) (hn : n ≤ 1048576) (h : IntsAt w a n Z) :
    Calls Try.prog 78 #[.slice a n cap] w fun e w' => e = .returned (.int .i64 (wrF n Z)) ∧ w' = w := by
  have H : Hid (IntsAt w a n Z) := h
  clear h
  generalize hC : wrF n Z = C
  have HE : Hid (C = if alI 0 31 Z n 0 = true then (if rsf Z n 0 = true then 0 else 1) else 3) := hC.symm
  clear hC
  go_enter Try.func78, Try.ntmps78
  go_wp2_with fail
  go_loop [4, 7] (fun _ i => ∃ k : Nat, k ≤ n ∧ i = .int .i64 k ∧ Hid (alI 0 31 Z n 0 = alI 0 31 Z (n - k) k)) (fun _ i => n - (intOf i).toNat)
  case atStart => exact ⟨0, Nat.zero_le _, rfl, rfl⟩
  case round =>
    obtain ⟨k, hk, rfl, HC⟩ := hrel
    by_cases hlt : k < n
    · rcases H.out with h | ⟨b, off, rfl, hl, hc⟩
      · omega
      have h0 := hc k hlt
      have hlt' : (k : Int) < (n : Int) := by omega
      have HD : Hid (alI 0 31 Z n 0 = _) := HC.out.trans (alI_at hlt)
      clear HC hc
      obtain hx | hx := bool_or9 (inB (Z k) 0 31)
      · have HC : Hid (alI 0 31 Z n 0 = alI 0 31 Z (n - (k + 1)) (k + 1)) := HD.out.trans (if_pos hx)
        clear HD
        go_wp2_with (go_at_call 75; refine (isKey_any _ _).mono ?_; rintro e w' ⟨rfl, rfl⟩; rw [hx])
        go_round
        case rel => exact ⟨k + 1, hlt, by go_num, HC⟩
        case measure => simp [intOf]; omega
      · have HC : Hid (C = 3) := by refine HE.out.trans (if_neg ?_); rw [HD.out, if_neg (by simp [hx])]; simp
        clear HD HE
        go_wp2_with (go_at_call 75; refine (isKey_any _ _).mono ?_; rintro e w' ⟨rfl, rfl⟩; rw [hx])
        go_ret
        exact ⟨ret_int HC.out.symm, rfl⟩
    · have HA : Hid (alI 0 31 Z n 0 = true) := by refine HC.out.trans ?_; rw [show n - k = 0 by omega, alI]
      have HE2 : Hid (C = if rsf Z n 0 = true then 0 else 1) := HE.out.trans (if_pos HA.out)
      have hnl : ¬ ((k : Int) < (n : Int)) := by omega
      clear HC HE HA
      obtain hx | hx := bool_or9 (rsf Z n 0)
      · have HC : Hid (C = 0) := HE2.out.trans (if_pos hx)
        clear HE2
        go_wp2_with fail
        refine (rises_any n Z a cap w hn H.out).mono ?_
        rintro e w' ⟨rfl, hw⟩
        rw [hx, hw]
        clear hw w'
        go_wp2_with fail
        go_ret
        exact ⟨ret_int HC.out.symm, rfl⟩
      · have HC : Hid (C = 1) := HE2.out.trans (if_neg (by simp [hx]))
        clear HE2
        go_wp2_with fail
        refine (rises_any n Z a cap w hn H.out).mono ?_
        rintro e w' ⟨rfl, hw⟩
        rw [hx, hw]
        clear hw w'
        go_wp2_with fail
        go_ret
        exact ⟨ret_int HC.out.symm, rfl⟩
set_option maxHeartbeats 1000000 in
theorem hasForm_any (t : Cd) (a0 a1 a2 : Option Addr) (c0 c1 c2 : Nat) (w : World) (hS : SmCd t) :
    Calls Try.prog 77 #[.agg #[.int .i64 t.id, .int .i64 t.am, .int .i64 t.st, .slice a0 t.sn c0, .slice a1 t.wn c1, .slice a2 t.rn c2]] w fun e w' => e = .returned (.bool (!cdB2 t)) ∧ Below w.heap.size w w' := by
  obtain ⟨h0, h1, h2⟩ := hS
  have HB : Hid (cdB2 t = ((t.st != 1) && decide (0 < t.sn + t.wn + t.rn))) := rfl
  generalize cdB2 t = C at *
  by_cases e1 : t.st = 1
  · have HC : Hid (C = false) := by show C = false; rw [HB.out]; simp [e1]
    have d1 : (t.st == 1) = true := by simpa using e1
    clear HB e1
    go_enter Try.func77, Try.ntmps77
    go_wp2_with fail
    go_ret
    exact ⟨ret_bool (by rw [HC.out]; rfl), below_new _ _⟩
  · have d1 : (t.st == 1) = false := by simpa using e1
    have hw1 : IntKind.i64.wrap ((t.sn : Int) + (t.wn : Int)) = (t.sn : Int) + (t.wn : Int) := by rw [IntKind.wrap_i64]; omega
    have hw2 : IntKind.i64.wrap ((t.sn : Int) + (t.wn : Int) + (t.rn : Int)) = (t.sn : Int) + (t.wn : Int) + (t.rn : Int) := by rw [IntKind.wrap_i64]; omega
    by_cases e2 : t.sn + t.wn + t.rn = 0
    · have HC : Hid (C = false) := by show C = false; rw [HB.out]; simp; omega
      have d2 : ((t.sn : Int) + (t.wn : Int) + (t.rn : Int) == 0) = true := by simp; omega
      clear HB e1 e2
      go_enter Try.func77, Try.ntmps77
      go_wp2_with fail
      go_ret
      exact ⟨ret_bool (by rw [HC.out]; rfl), below_new _ _⟩
    · have HC : Hid (C = true) := by show C = true; rw [HB.out]; simp; omega
      have d2 : ((t.sn : Int) + (t.wn : Int) + (t.rn : Int) == 0) = false := by simp; omega
      clear HB e1 e2
      go_enter Try.func77, Try.ntmps77
      go_wp2_with fail
      go_ret
      exact ⟨ret_bool (by rw [HC.out]; rfl), below_new _ _⟩
end Go.Proofs.Ytenglcgkachomaa
