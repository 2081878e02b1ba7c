/- A node's faults: their model, both sides. -/
import Derived.Test.YtbnehgpefjbheaaTnb
namespace Go.Proofs.Ytbnehgpefjbheaa
open Go.RowKit Go.Deep
set_option linter.unusedVariables false
set_option maxRecDepth 20000

/-- From k on, f numbers: each is above the one before. -/
def rsf (F : Nat → Int) : Nat → Nat → Bool
  | 0, _ => true
  | f + 1, k => if 0 < k ∧ F k ≤ F (k - 1) then false else rsf F f (k + 1)
theorem rsf_at {F : Nat → Int} {n k : Nat} (h : k < n) : rsf F (n - k) k = if 0 < k ∧ F k ≤ F (k - 1) then false else rsf F (n - (k + 1)) (k + 1) := by
  have : n - k = (n - (k + 1)) + 1 := by omega
  rw [this, rsf]
/-- From k on, f numbers: each is a place among m. -/
def inf (F : Nat → Int) (m : Nat) : Nat → Nat → Bool
  | 0, _ => true
  | f + 1, k => if inB (F k) 0 ((m : Int) - 1) = true then inf F m f (k + 1) else false
theorem inf_at {F : Nat → Int} {m n k : Nat} (h : k < n) : inf F m (n - k) k = if inB (F k) 0 ((m : Int) - 1) = true then inf F m (n - (k + 1)) (k + 1) else false := by
  have : n - k = (n - (k + 1)) + 1 := by omega
  rw [this, inf]
theorem inf_all {F : Nat → Int} {m : Nat} : ∀ f k, inf F m f k = true → ∀ i, k ≤ i → i < k + f → 0 ≤ F i ∧ F i < m
  | 0, k, _, i, h1, h2 => by omega
  | f + 1, k, h, i, h1, h2 => by
    rw [inf] at h
    by_cases e : inB (F k) 0 ((m : Int) - 1) = true
    · rw [if_pos e] at h
      by_cases d : i = k
      · subst d
        simp [inB] at e
        omega
      · exact inf_all f (k + 1) h i (by omega) (by omega)
    · rw [if_neg e] at h; simp at h
set_option maxHeartbeats 1000000 in
theorem rises_any (n : Nat) (F : Nat → Int) (a : Option Addr) (cap : Nat) (w : World) (hn : n ≤ 1048576) (h : IntsAt w a n F) :
    Calls Try.prog 77 #[.slice a n cap] w fun e w' => e = .returned (.bool (rsf F n 0)) ∧ w' = w := by
  have H : Hid (IntsAt w a n F) := h
  clear h
  go_enter Try.func77, Try.ntmps77
  go_wp2_with fail
  go_loop [7] (fun i => ∃ k : Nat, k ≤ n ∧ i = .int .i64 k ∧ Hid (rsf F n 0 = rsf F (n - k) k)) (fun i => n - (intOf i).toNat)
  case atStart => exact ⟨0, Nat.zero_le _, rfl, rfl⟩
  case round =>
    obtain ⟨k, hk, rfl, HC⟩ := hrel
    by_cases hlt : k < n
    · rcases H.out with h | ⟨b, off, rfl, hl, hc⟩
      · omega
      have h0 := hc k hlt
      have hlt' : (k : Int) < (n : Int) := by omega
      have HD : Hid (rsf F n 0 = _) := HC.out.trans (rsf_at hlt)
      clear HC
      by_cases hk0 : k = 0
      · subst hk0
        have HC : Hid (rsf F n 0 = rsf F (n - (0 + 1)) (0 + 1)) := HD.out.trans (if_neg (by omega))
        clear HD hc
        rw [Nat.add_zero] at h0
        go_wp2_with fail
        go_round
        case rel => exact ⟨0 + 1, hlt, by go_num, HC⟩
        case measure => simp [intOf]; omega
      · have h1 := hc (k - 1) (by omega)
        have hp : (k : Int) > 0 := by omega
        have hp2 : (0 : Int) < (k : Int) := by omega
        have hw : IntKind.i64.wrap ((k : Int) - 1) = (k : Int) - 1 := by rw [IntKind.wrap_i64]; omega
        have hw3 : ((k : Int) - 1).toNat = k - 1 := by omega
        have i1 : (k : Int) - 1 < (n : Int) := by omega
        have i2 : 0 ≤ (k : Int) - 1 := by omega
        clear hc
        by_cases hle : F k ≤ F (k - 1)
        · have HC : Hid (rsf F n 0 = false) := HD.out.trans (if_pos ⟨by omega, hle⟩)
          clear HD
          go_wp2_with fail
          go_ret
          exact ⟨ret_bool HC.out.symm, rfl⟩
        · have HC : Hid (rsf F n 0 = rsf F (n - (k + 1)) (k + 1)) := HD.out.trans (if_neg (by omega))
          have hle' : decide (F k ≤ F (k - 1)) = false := by simp; omega
          clear HD
          go_wp2_with fail
          go_round
          case rel => exact ⟨k + 1, hlt, by go_num, HC⟩
          case measure => simp [intOf]; omega
    · have HC0 : Hid (rsf F n 0 = true) := by
        refine HC.out.trans ?_
        rw [show n - k = 0 by omega, rsf]
      clear HC
      go_wp2_with fail
      go_ret
      exact ⟨ret_bool HC0.out.symm, rfl⟩
theorem isPlace_any (v : Int) (c : Nat) (w : World) (hc : c ≤ 1048576) : Calls Try.prog 48 #[.int .i64 v, .int .i64 c] w fun e w' => e = .returned (.bool (inB v 0 ((c : Int) - 1))) ∧ w' = w := by
  by_cases h : 0 ≤ v
  · by_cases h2 : v < c
    · go_enter Try.func48, Try.ntmps48
      go_wp2
      go_ret
      exact ⟨ret_bool (by simp [inB]; omega), rfl⟩
    · have h3 : decide (v < (c : Int)) = false := by simp; omega
      clear h2
      go_enter Try.func48, Try.ntmps48
      go_wp2
      go_ret
      exact ⟨ret_bool (by simp [inB] at *; omega), rfl⟩
  · have h3 : decide (0 ≤ v) = false := by simp; omega
    clear h
    go_enter Try.func48, Try.ntmps48
    go_wp2
    go_ret
    exact ⟨ret_bool (by simp [inB] at *; omega), rfl⟩
theorem l1In_q (v lo hi : Int) (w : World) : Calls Try.prog 43 #[.int .i64 v, .int .i64 lo, .int .i64 hi] w fun e w' => e = .returned (.bool (inB v lo hi)) ∧ ∃ n, w' = w.drewN n := by
  refine (l1In_any v lo hi w).mono ?_
  rintro e w' ⟨rfl, rfl⟩
  exact ⟨rfl, 0, rfl⟩
theorem rsf_one {F : Nat → Int} {n : Nat} (h : 0 < n) : rsf F n 0 = rsf F (n - 1) 1 := by
  have : n = (n - 1) + 1 := by omega
  rw [this, rsf, if_neg (by omega)]; simp
theorem quiet_facts {w w1 wr : World} (h : ∃ m, wr = w1.drewN m) (hb : Below w.heap.size w w1) : (∀ b o v, w1.cell? ⟨b, o, none⟩ = some v → wr.cell? ⟨b, o, none⟩ = some v) ∧ (∀ b o, wr.frozen? ⟨b, o, none⟩ = w1.frozen? ⟨b, o, none⟩) ∧ wr.heap.size = w1.heap.size ∧ Hid (Below w.heap.size w wr) := by
  obtain ⟨m, rfl⟩ := h
  exact ⟨fun _ _ _ h => h, fun _ _ => rfl, rfl, below_drewN hb _⟩
theorem quiet_more {w1 wr : World} {n : Nat} (h : ∃ m, wr = w1.drewN m) : Hid (∃ m, wr.drewN n = w1.drewN m) := by
  obtain ⟨m, rfl⟩ := h
  exact ⟨_, World.drewN_drewN ..⟩
/-- Has the node as many keys and kids as it must? -/
def cntB (t : Nd) : Bool := if t.lf = true then decide (t.kn ≤ 3) && decide (t.dn = 0) else decide (1 ≤ t.kn) && decide (t.kn ≤ 3) && decide (t.dn = t.kn + 1)
/-- The fault of a node of a tree of n nodes. -/
def ndF (n : Nat) (t : Nd) : Int := if cntB t = false then 1 else if inf t.K 10001 t.kn 0 = false then 3 else if inf t.D n t.dn 0 = false then 3 else if rsf t.K t.kn 0 = false then 1 else 0
theorem cntB_le {t : Nd} (h : cntB t = true) : t.kn ≤ 3 ∧ t.dn ≤ 4 := by
  unfold cntB at h
  split at h
  · simp at h; omega
  · simp at h; omega
set_option maxHeartbeats 1000000 in
theorem l4Counts_any (t : Nd) (b o : Nat) (ak ad : Option Addr) (ck cd : Nat) (w : World) (hk : t.kn ≤ 1048576) (hd : t.dn ≤ 1048576) (h : CNd w b o t ak ck ad cd) :
    Calls Try.prog 72 #[.pointer (some ⟨b, o, none⟩)] w fun e w' => e = .returned (.bool (cntB t)) ∧ ∃ m, w' = w.drewN m := by
  obtain ⟨q0, q1, q2⟩ := h
  obtain ⟨lf, kn, K, dn, D⟩ := t
  dsimp only at *
  cases lf
  · by_cases h1 : 1 ≤ kn
    · have d1 : decide ((1 : Int) ≤ (kn : Int)) = true := decide_eq_true (by omega)
      by_cases h3 : kn ≤ 3
      · have d3 : decide ((kn : Int) ≤ 3) = true := decide_eq_true (by omega)
        have HE : Hid (cntB ⟨false, kn, K, dn, D⟩ = ((dn : Int) == (kn : Int) + 1)) := by
          show cntB _ = _
          simp only [cntB, h1, h3]
          by_cases e : dn = kn + 1
          · subst e; simp
          · have e2 : ((dn : Int) == (kn : Int) + 1) = false := by simp; omega
            rw [e2]; simp [e]
        have hw : IntKind.i64.wrap ((kn : Int) + 1) = (kn : Int) + 1 := by rw [IntKind.wrap_i64]; omega
        clear h1 h3
        go_enter Try.func72, Try.ntmps72
        go_wp2_with fail
        go_quiet (fail)
        go_wp2_with fail
        go_ret
        exact ⟨ret_bool HE.out.symm, _, rfl⟩
      · have d3 : decide ((kn : Int) ≤ 3) = false := decide_eq_false (by omega)
        have HE : Hid (cntB ⟨false, kn, K, dn, D⟩ = false) := by simp [Hid, cntB, h3]
        clear h1 h3
        go_enter Try.func72, Try.ntmps72
        go_wp2_with fail
        go_quiet (fail)
        go_wp2_with fail
        go_ret
        exact ⟨ret_bool HE.out.symm, _, rfl⟩
    · have d1 : decide ((1 : Int) ≤ (kn : Int)) = false := decide_eq_false (by omega)
      have HE : Hid (cntB ⟨false, kn, K, dn, D⟩ = false) := by simp [Hid, cntB, h1]
      clear h1
      go_enter Try.func72, Try.ntmps72
      go_wp2_with fail
      go_quiet (fail)
      go_wp2_with fail
      go_ret
      exact ⟨ret_bool HE.out.symm, _, rfl⟩
  · by_cases h3 : kn ≤ 3
    · have d3 : decide ((kn : Int) ≤ 3) = true := decide_eq_true (by omega)
      have HE : Hid (cntB ⟨true, kn, K, dn, D⟩ = ((dn : Int) == 0)) := by
        show cntB _ = _
        simp only [cntB, h3]
        by_cases e : dn = 0
        · subst e; simp
        · have e2 : ((dn : Int) == 0) = false := by simp; omega
          rw [e2]; simp [e]
      go_enter Try.func72, Try.ntmps72
      go_wp2_with fail
      go_ret
      exact ⟨ret_bool HE.out.symm, 0, rfl⟩
    · have d3 : decide ((kn : Int) ≤ 3) = false := decide_eq_false (by omega)
      have HE : Hid (cntB ⟨true, kn, K, dn, D⟩ = false) := by simp [Hid, cntB, h3]
      clear h3
      go_enter Try.func72, Try.ntmps72
      go_wp2_with fail
      go_ret
      exact ⟨ret_bool HE.out.symm, 0, rfl⟩
theorem within_q (v lo hi : Int) (c : Bool) (w : World) (h : inB v lo hi = c) : Calls Try.prog 46 #[.int .i64 v, .int .i64 lo, .int .i64 hi] w fun e w' => e = .returned (.bool c) ∧ ∃ n, w' = w.drewN n := by
  refine (within_any v lo hi w).mono ?_
  rintro e w' ⟨rfl, rfl⟩
  exact ⟨by rw [h], 0, rfl⟩
set_option maxHeartbeats 1000000 in
theorem hasSoMany_any (t : Nd) (b o : Nat) (ak ad : Option Addr) (ck cd : Nat) (w : World) (hk : t.kn ≤ 1048576) (hd : t.dn ≤ 1048576) (h : CNd w b o t ak ck ad cd) :
    Calls Try.prog 75 #[.pointer (some ⟨b, o, none⟩)] w fun e w' => e = .returned (.bool (cntB t)) ∧ ∃ m, w' = w.drewN m := by
  obtain ⟨q0, q1, q2⟩ := h
  obtain ⟨lf, kn, K, dn, D⟩ := t
  dsimp only at *
  cases lf
  · cases h1 : inB (kn : Int) 1 3
    · have HE : Hid (cntB ⟨false, kn, K, dn, D⟩ = false) := by
        simp only [inB, Bool.and_eq_false_iff, decide_eq_false_iff_not] at h1
        show cntB _ = _
        simp only [cntB]
        simp
        omega
      go_enter Try.func75, Try.ntmps75
      go_wp2_with fail
      go_quiet (first | (go_at_call 46; exact Calls.quiet_of (within_q _ _ _ false _ h1)))
      go_wp2_with fail
      go_ret
      exact ⟨ret_bool HE.out.symm, _, rfl⟩
    · have HE : Hid (cntB ⟨false, kn, K, dn, D⟩ = ((dn : Int) == (kn : Int) + 1)) := by
        simp only [inB, Bool.and_eq_true, decide_eq_true_eq] at h1
        have a1 : 1 ≤ kn := by omega
        have a3 : kn ≤ 3 := by omega
        show cntB _ = _
        simp only [cntB, a1, a3]
        by_cases e : dn = kn + 1
        · subst e; simp
        · have e2 : ((dn : Int) == (kn : Int) + 1) = false := by simp; omega
          rw [e2]; simp [e]
      have hw : IntKind.i64.wrap ((kn : Int) + 1) = (kn : Int) + 1 := by rw [IntKind.wrap_i64]; omega
      go_enter Try.func75, Try.ntmps75
      go_wp2_with fail
      go_quiet (first | (go_at_call 46; exact Calls.quiet_of (within_q _ _ _ true _ h1)))
      go_wp2_with fail
      go_ret
      exact ⟨ret_bool HE.out.symm, _, rfl⟩
  · by_cases h3 : kn ≤ 3
    · have d3 : decide ((kn : Int) ≤ 3) = true := decide_eq_true (by omega)
      have HE : Hid (cntB ⟨true, kn, K, dn, D⟩ = ((dn : Int) == 0)) := by
        show cntB _ = _
        simp only [cntB, h3]
        by_cases e : dn = 0
        · subst e; simp
        · have e2 : ((dn : Int) == 0) = false := by simp; omega
          rw [e2]; simp [e]
      go_enter Try.func75, Try.ntmps75
      go_wp2_with fail
      go_ret
      exact ⟨ret_bool HE.out.symm, 0, rfl⟩
    · have d3 : decide ((kn : Int) ≤ 3) = false := decide_eq_false (by omega)
      have HE : Hid (cntB ⟨true, kn, K, dn, D⟩ = false) := by simp [Hid, cntB, h3]
      clear h3
      go_enter Try.func75, Try.ntmps75
      go_wp2_with fail
      go_ret
      exact ⟨ret_bool HE.out.symm, 0, rfl⟩
theorem l4Key_any (v : Int) (w : World) : Calls Try.prog 55 #[.int .i64 v] w fun e w' => e = .returned (.bool (inB v 0 10000)) ∧ w' = w := by
  go_enter Try.func55, Try.ntmps55
  go_wp2_with (go_at_call 43; refine (l1In_any _ _ _ _).mono ?_; rintro e w' ⟨rfl, rfl⟩)
  go_ret
  exact ⟨rfl, rfl⟩
theorem isTreeKey_any (v : Int) (w : World) : Calls Try.prog 76 #[.int .i64 v] w fun e w' => e = .returned (.bool (inB v 0 10000)) ∧ w' = w := by
  go_enter Try.func76, Try.ntmps76
  go_wp2_with (go_at_call 46; refine (within_any _ _ _ _).mono ?_; rintro e w' ⟨rfl, rfl⟩)
  go_ret
  exact ⟨rfl, rfl⟩
set_option maxHeartbeats 2000000 in
theorem nodeFault_any (n : Nat) (t : Nd) (b o : Nat) (ak ad : Option Addr) (ck cd : Nat) (w : World) (hn : n ≤ 1048576) (hk : t.kn ≤ 1048576) (hd : t.dn ≤ 1048576) (h : CNd w b o t ak ck ad cd) (hy : IntsAt w ak t.kn t.K) (hz : IntsAt w ad t.dn t.D) :
    Calls Try.prog 47 #[.pointer (some ⟨b, o, none⟩), .int .i64 n] w fun e w' => e = .returned (.int .i64 (ndF n t)) ∧ ∃ m, w' = w.drewN m := by
  have HC : Hid (CNd w b o t ak ck ad cd) := h
  have HY : Hid (IntsAt w ak t.kn t.K) := hy
  have HZ : Hid (IntsAt w ad t.dn t.D) := hz
  clear h hy hz
  go_enter Try.func47, Try.ntmps47
  go_wp2_with fail
  refine (hasSoMany_any t b o ak ad ck cd w hk hd HC.out).mono ?_
  rintro e w1 ⟨rfl, m1, rfl⟩
  cases hcnt : cntB t
  · have HE : Hid (ndF n t = 1) := if_pos hcnt
    go_wp2_with fail
    go_ret
    exact ⟨ret_int HE.out.symm, _, rfl⟩
  obtain ⟨hk3, hd4⟩ := cntB_le hcnt
  have HE0 : Hid (ndF n t = if inf t.K 10001 t.kn 0 = false then 3 else if inf t.D n t.dn 0 = false then 3 else if rsf t.K t.kn 0 = false then 1 else 0) := if_neg (by simp [hcnt])
  have HB : Hid (Below w.heap.size w (w.drewN m1)) := below_drewN (Below.refl _ _) _
  obtain ⟨W, hW⟩ : ∃ y, y = w.drewN m1 := ⟨_, rfl⟩
  have HC1 : Hid (CNd W b o t ak ck ad cd) := by rw [hW]; exact HC.out.block ((below_drewN (Below.refl _ _) m1 : Below w.heap.size w (w.drewN m1)).block _ (Go.block_lt_of_cell HC.out.1))
  have HY1 : Hid (IntsAt W ak t.kn t.K) := by rw [hW]; exact HY.out.below HB.out
  have HZ1 : Hid (IntsAt W ad t.dn t.D) := by rw [hW]; exact HZ.out.below HB.out
  have HW : Hid (W = w.drewN m1) := hW
  rw [← hW]
  clear hW HC HY HZ HB
  obtain ⟨q0, q1, q2⟩ := HC1.out
  generalize t.lf = lf at q0
  generalize hkn : t.kn = kn at *
  generalize hdn : t.dn = dn at *
  clear hkn hdn hcnt
  go_wp2_with fail
  go_loop [6, 17] (fun _ i => ∃ k : Nat, k ≤ kn ∧ i = .int .i64 k ∧ Hid (inf t.K 10001 kn 0 = inf t.K 10001 (kn - k) k)) (fun _ i => kn - (intOf i).toNat)
  case atStart => exact ⟨0, Nat.zero_le _, rfl, rfl⟩
  case round =>
    obtain ⟨k, hk0, rfl, HI⟩ := hrel
    by_cases hlt : k < kn
    · have hlt' : (k : Int) < (kn : Int) := by omega
      have hk0' : (0 : Int) ≤ (k : Int) := by omega
      rcases HY1.out with h | ⟨b1, o1, rfl, hl1, hc1⟩
      · omega
      have hx := hc1 k hlt
      have HD : Hid (inf t.K 10001 kn 0 = _) := HI.out.trans (inf_at hlt)
      clear HI hc1
      cases hin : inB (t.K k) 0 10000
      · have HI : Hid (inf t.K 10001 kn 0 = false) := HD.out.trans (if_neg (by show ¬ inB (t.K k) 0 10000 = true; rw [hin]; simp))
        have HE : Hid (ndF n t = 3) := HE0.out.trans (if_pos HI.out)
        clear HD HE0
        generalize t.K k = tk at *
        go_wp2_with (go_at_call 76; refine (isTreeKey_any _ _).mono ?_; rintro e w' ⟨rfl, hw⟩; have hw1 := hw.symm; clear hw; subst hw1; rw [hin])
        go_ret
        exact ⟨ret_int HE.out.symm, _, HW.out⟩
      · have HI : Hid (inf t.K 10001 kn 0 = inf t.K 10001 (kn - (k + 1)) (k + 1)) := HD.out.trans (if_pos hin)
        clear HD
        generalize t.K k = tk at *
        go_wp2_with (go_at_call 76; refine (isTreeKey_any _ _).mono ?_; rintro e w' ⟨rfl, hw⟩; have hw1 := hw.symm; clear hw; subst hw1; rw [hin])
        go_round
        case rel => exact ⟨k + 1, hlt, by go_num, HI⟩
        case measure => simp [intOf]; omega
    · have hnl : ¬ ((k : Int) < (kn : Int)) := by omega
      have HI0 : Hid (inf t.K 10001 kn 0 = true) := by
        refine HI.out.trans ?_
        rw [show kn - k = 0 by omega, inf]
      have HE1 : Hid (ndF n t = if inf t.D n dn 0 = false then 3 else if rsf t.K kn 0 = false then 1 else 0) := HE0.out.trans (if_neg (by rw [HI0.out]; simp))
      clear HI HI0 HE0
      go_wp2_with fail
      go_loop [8, 30] (fun _ i => ∃ j : Nat, j ≤ dn ∧ i = .int .i64 j ∧ Hid (inf t.D n dn 0 = inf t.D n (dn - j) j)) (fun _ i => dn - (intOf i).toNat)
      case atStart => exact ⟨0, Nat.zero_le _, rfl, rfl⟩
      case round =>
        obtain ⟨j, hj0, rfl, HI⟩ := hrel
        by_cases hjlt : j < dn
        · have hlt' : (j : Int) < (dn : Int) := by omega
          have hj0' : (0 : Int) ≤ (j : Int) := by omega
          rcases HZ1.out with h | ⟨b1, o1, rfl, hl1, hc1⟩
          · omega
          have hx := hc1 j hjlt
          have HD : Hid (inf t.D n dn 0 = _) := HI.out.trans (inf_at hjlt)
          clear HI hc1
          cases hin : inB (t.D j) 0 ((n : Int) - 1)
          · have HI : Hid (inf t.D n dn 0 = false) := HD.out.trans (if_neg (by rw [hin]; simp))
            have HE : Hid (ndF n t = 3) := HE1.out.trans (if_pos HI.out)
            clear HD HE1
            generalize t.D j = tk at *
            go_wp2_with (go_at_call 48; refine (isPlace_any _ n _ hn).mono ?_; rintro e w' ⟨rfl, hw⟩; have hw1 := hw.symm; clear hw; subst hw1; rw [hin])
            go_ret
            exact ⟨ret_int HE.out.symm, _, HW.out⟩
          · have HI : Hid (inf t.D n dn 0 = inf t.D n (dn - (j + 1)) (j + 1)) := HD.out.trans (if_pos hin)
            clear HD
            generalize t.D j = tk at *
            go_wp2_with (go_at_call 48; refine (isPlace_any _ n _ hn).mono ?_; rintro e w' ⟨rfl, hw⟩; have hw1 := hw.symm; clear hw; subst hw1; rw [hin])
            go_round
            case rel => exact ⟨j + 1, hjlt, by go_num, HI⟩
            case measure => simp [intOf]; omega
        · have hnl2 : ¬ ((j : Int) < (dn : Int)) := by omega
          have HI0 : Hid (inf t.D n dn 0 = true) := by
            refine HI.out.trans ?_
            rw [show dn - j = 0 by omega, inf]
          have HE2 : Hid (ndF n t = if rsf t.K kn 0 = false then 1 else 0) := HE1.out.trans (if_neg (by rw [HI0.out]; simp))
          clear HI HI0 HE1
          go_wp2_with fail
          refine (rises_any kn t.K ak ck W (by omega) HY1.out).mono ?_
          rintro e w' ⟨rfl, hw⟩
          have hw1 := hw.symm
          clear hw
          subst hw1
          cases hrs : rsf t.K kn 0
          · have HE : Hid (ndF n t = 1) := HE2.out.trans (if_pos hrs)
            clear HE2
            go_wp2_with fail
            go_ret
            exact ⟨ret_int HE.out.symm, _, HW.out⟩
          · have HE : Hid (ndF n t = 0) := HE2.out.trans (if_neg (by rw [hrs]; simp))
            clear HE2
            go_wp2_with fail
            go_ret
            exact ⟨ret_int HE.out.symm, _, HW.out⟩
end Go.Proofs.Ytbnehgpefjbheaa
