/- Overlap, both sides. -/
import Derived.Test.YtnmmnhfgkcdajaaHwa
namespace Go.Proofs.Ytnmmnhfgkcdajaa
open Go.RowKit Go.Deep
set_option linter.unusedVariables false
set_option maxRecDepth 20000

/-- The first place at which p is so, among the first n; -1: there is none. -/
def fst0 (p : Nat → Bool) : Nat → Int
  | 0 => -1
  | k + 1 => if fst0 p k ≠ -1 then fst0 p k else if p k then (k : Int) else -1
theorem fst0_spec (p : Nat → Bool) : ∀ n, (fst0 p n = -1 ∧ ∀ i, i < n → p i = false) ∨ ∃ k, k < n ∧ fst0 p n = (k : Int) ∧ p k = true ∧ ∀ i, i < k → p i = false
  | 0 => .inl ⟨rfl, fun i hi => by omega⟩
  | n + 1 => by
    rcases fst0_spec p n with ⟨h1, h2⟩ | ⟨k, h1, h2, h3, h4⟩
    · by_cases e : p n = true
      · right
        exact ⟨n, by omega, by simp only [fst0]; rw [if_neg (by simp [h1]), if_pos e], e, h2⟩
      · left
        refine ⟨by simp only [fst0]; rw [if_neg (by simp [h1]), if_neg e], fun i hi => ?_⟩
        by_cases q : i = n
        · subst q; simpa using e
        · exact h2 i (by omega)
    · right
      exact ⟨k, by omega, by simp only [fst0]; rw [if_pos (by rw [h2]; omega), h2], h3, h4⟩
theorem fst0_congr {p q : Nat → Bool} : ∀ {n : Nat}, (∀ i, i < n → p i = q i) → fst0 p n = fst0 q n
  | 0, _ => rfl
  | n + 1, h => by simp only [fst0]; rw [fst0_congr (n := n) fun i hi => h i (by omega), h n (by omega)]
theorem hopAt_fst (R : Nat → Hp) (h : Hp) : ∀ n, hopAt R h n = fst0 (fun i => hpE (R i) h) n
  | 0 => rfl
  | n + 1 => by simp only [hopAt, fst0]; rw [hopAt_fst R h n]
def plc (R : Nat → Hp) (k t : Int) (n : Nat) : Int := fst0 (fun i => (R i).k == k && (R i).t == t) n
theorem plc_hop {R : Nat → Hp} {n m : Nat} (h : hiF R n = 0) (hm : m ≤ n) {k : Int} (hk : k = 1 ∨ k = 4) (t : Int) : hopAt R ⟨k, t, 0, 0⟩ m = plc R k t m := by
  rw [hopAt_fst, plc]
  refine fst0_congr fun i hi => ?_
  have hf := (hpF_zero (hop_good h (show i < n by omega))).2.1
  generalize R i = r at *
  obtain ⟨a, b, c, d⟩ := r
  simp only [hpE]
  by_cases e : a = k
  · subst e
    have h2 : ¬ a = 2 := by omega
    have h3 : ¬ a = 3 := by omega
    simp [hpFm, h2, h3] at hf
    obtain ⟨rfl, rfl⟩ := hf
    cases (b == t) <;> simp
  · have e2 : (a == k) = false := by simpa using e
    rw [e2]; simp
theorem last_begin {R : Nat → Hp} : ∀ {k : Nat}, hiF R k = 0 → ∀ t, lastK R k t ≠ 0 → ∃ j, j < k ∧ (R j).k = 1 ∧ (R j).t = t
  | 0, _, t, h => by simp [lastK] at h
  | k + 1, h, t, hl => by
    have h0 := hiF_less h (Nat.le_succ k)
    have hg := hpF_zero (hop_good h (Nat.lt_succ_self k))
    simp only [lastK] at hl
    by_cases e : (R k).t = t
    · by_cases e1 : (R k).k = 1
      · exact ⟨k, by omega, e1, e⟩
      · have h3 := hg.2.2
        unfold mayF at h3
        rw [if_neg e1, e] at h3
        have h4 := inB_iff.1 h3
        obtain ⟨j, h5, h6⟩ := last_begin h0 t (by omega)
        exact ⟨j, by omega, h6⟩
    · rw [if_neg e] at hl
      obtain ⟨j, h5, h6⟩ := last_begin h0 t hl
      exact ⟨j, by omega, h6⟩
theorem com_begin {R : Nat → Hp} {n i : Nat} (h : hiF R n = 0) (hi : i < n) (hk : (R i).k = 4) : ∃ j, j < i ∧ (R j).k = 1 ∧ (R j).t = (R i).t := by
  have hg := hpF_zero (hop_good h hi)
  have h3 := hg.2.2
  unfold mayF at h3
  rw [if_neg (by omega)] at h3
  have h4 := inB_iff.1 h3
  exact last_begin (hiF_less h (by omega)) _ (by omega)
/-- The model's and the program's question of one of the two. -/
theorem began_eq {R : Nat → Hp} {n : Nat} (h : hiF R n = 0) (x : Int) (hx : 0 ≤ plc R 4 x n) (m : Nat) (hm : m ≤ n) : decide (0 ≤ hopAt R ⟨1, x, 0, 0⟩ m) = decide (plc R 1 x n < (m : Int)) := by
  rw [plc_hop h hm (.inl rfl)]
  have hb : ∃ j, j < n ∧ (R j).k = 1 ∧ (R j).t = x := by
    rcases fst0_spec (fun i => (R i).k == 4 && (R i).t == x) n with ⟨h1, _⟩ | ⟨k, h1, _, h3, _⟩
    · unfold plc at hx; rw [h1] at hx; omega
    · simp at h3
      obtain ⟨j, h4, h5, h6⟩ := com_begin h h1 h3.1
      exact ⟨j, by omega, h5, by rw [h6]; exact h3.2⟩
  obtain ⟨j, hj, e1, e2⟩ := hb
  have hp : (fun i => (R i).k == 1 && (R i).t == x) j = true := by simp [e1, e2]
  unfold plc
  generalize (fun i => (R i).k == 1 && (R i).t == x) = p at *
  rcases fst0_spec p n with ⟨_, h2⟩ | ⟨k, h1, h2, h3, h4⟩
  · rw [h2 j hj] at hp; simp at hp
  · rw [h2]
    rcases fst0_spec p m with ⟨g1, g2⟩ | ⟨l, g1, g2, g3, g4⟩
    · rw [g1]
      have : ¬ k < m := fun q => by rw [g2 k q] at h3; simp at h3
      simp; omega
    · rw [g2]
      have hkl : k = l := by
        rcases Nat.lt_trichotomy k l with q | q | q
        · rw [g4 k q] at h3; simp at h3
        · exact q
        · rw [h4 l q] at g3; simp at g3
      simp; omega
def ovI (R : Nat → Hp) (n : Nat) (x y : Int) : Bool := x != y && decide (0 ≤ plc R 4 x n) && decide (0 ≤ plc R 4 y n) && decide (plc R 1 x n < plc R 4 y n) && decide (plc R 1 y n < plc R 4 x n)
def ovB (R : Nat → Hp) (n : Nat) (x y : Int) : Bool := hsC R n == 0 && ovI R n x y
/-- What beganAhead answers. -/
def bgA (R : Nat → Hp) (n : Nat) (x y : Int) : Bool := decide (0 ≤ hopAt R ⟨4, y, 0, 0⟩ n) && decide (0 ≤ hopAt R ⟨1, x, 0, 0⟩ (hopAt R ⟨4, y, 0, 0⟩ n).toNat)
theorem plc_le (R : Nat → Hp) (k t : Int) (n : Nat) : plc R k t n < n ∨ plc R k t n = -1 := by
  unfold plc
  rcases fst0_spec (fun i => (R i).k == k && (R i).t == t) n with ⟨h1, _⟩ | ⟨k, h1, h2, _⟩
  · exact .inr h1
  · left; rw [h2]; omega
theorem ov_eq {R : Nat → Hp} {n : Nat} (h : hiF R n = 0) {x y : Int} (hxy : x ≠ y) : (bgA R n x y && bgA R n y x) = ovI R n x y := by
  have hb : (x != y) = true := by simp [hxy]
  unfold bgA ovI
  rw [plc_hop h (Nat.le_refl _) (.inr rfl) y, plc_hop h (Nat.le_refl _) (.inr rfl) x, hb]
  have hx := plc_le R 4 x n
  have hy := plc_le R 4 y n
  by_cases h1 : 0 ≤ plc R 4 x n
  · by_cases h2 : 0 ≤ plc R 4 y n
    · rw [began_eq h x h1 _ (by omega), began_eq h y h2 _ (by omega)]
      rw [Int.toNat_of_nonneg h1, Int.toNat_of_nonneg h2]
      simp [h1, h2]
    · simp [h2]
  · simp [h1]
theorem HopsAt.take {w : World} {a : Option Addr} {n m : Nat} {R : Nat → Hp} (h : HopsAt w a n R) (hm : m ≤ n) : HopsAt w a m R := by
  rcases h with h | ⟨b, off, ha, hl, hc⟩
  · exact .inl (by omega)
  · exact .inr ⟨b, off, ha, hl, fun i hi => hc i (by omega)⟩
/-! ### the model -/
set_option maxHeartbeats 4000000 in
theorem l10Place_any (n : Nat) (R : Nat → Hp) (a : Option Addr) (cap : Nat) (kd t : Int) (w : World) (hn : n ≤ 1048576) (h : HopsAt w a n R) :
    Calls Try.prog 45 #[.slice a n cap, .int .i64 kd, .int .i64 t] w fun e w' => e = .returned (.int .i64 (plc R kd t n)) ∧ w' = w := by
  have HX : Hid (HopsAt w a n R) := h
  clear h
  go_enter Try.func45, Try.ntmps45
  go_wp2_with fail
  go_loop [7] (fun i => ∃ k : Nat, k ≤ n ∧ i = .int .i64 k ∧ Hid (∀ i, i < k → ((R i).k == kd && (R i).t == t) = false)) (fun i => n - (intOf i).toNat)
  case atStart => exact ⟨0, Nat.zero_le _, rfl, fun i hi => by omega⟩
  case round =>
    obtain ⟨k, hk, rfl, HN⟩ := hrel
    by_cases hlt : k < n
    · have hlt' : (k : Int) < (n : Int) := by omega
      have hk0 : (0 : Int) ≤ (k : Int) := by omega
      rcases HX.out with h | ⟨bb, off, rfl, hl, hcc⟩
      · omega
      obtain ⟨x0, x1, x2, x3⟩ := hcc k hlt
      clear hcc
      have HY : Hid (((R k).k == kd && (R k).t == t) = true → plc R kd t n = (k : Int)) := fun e => by
        unfold plc
        rcases fst0_spec (fun i => (R i).k == kd && (R i).t == t) n with ⟨_, h2⟩ | ⟨l, h1, h2, h3, h4⟩
        · have := h2 k hlt; rw [e] at this; simp at this
        · rw [h2]
          rcases Nat.lt_trichotomy k l with q | q | q
          · have := h4 k q; rw [e] at this; simp at this
          · omega
          · have := HN.out l q; rw [h3] at this; simp at this
      have HM : Hid (((R k).k == kd && (R k).t == t) = false → ∀ i, i < k + 1 → ((R i).k == kd && (R i).t == t) = false) := fun e i hi => by
        by_cases q : i = k
        · subst q; exact e
        · exact HN.out i (by omega)
      generalize R k = r at *
      obtain h1 | h1 := boolor (r.k == kd) <;> obtain h2 | h2 := boolor (r.t == t)
      case inl.inl =>
        have HE : Hid (plc R kd t n = (k : Int)) := HY.out (by rw [h1, h2]; rfl)
        clear HY HM
        go_wp2_with fail
        go_ret
        exact ⟨ret_int HE.out.symm, rfl⟩
      all_goals
        have HE : Hid (∀ i, i < k + 1 → ((R i).k == kd && (R i).t == t) = false) := HM.out (by rw [h1, h2]; rfl)
        clear HY HM
        go_wp2_with fail
        go_round
        case rel => exact ⟨k + 1, hlt, by go_num, HE⟩
        case measure => simp [intOf]; omega
    · have hkn : k = n := by omega
      have hnl : ¬ ((k : Int) < (n : Int)) := by omega
      have HE : Hid (plc R kd t n = -1) := by
        show plc R kd t n = -1
        unfold plc
        rcases fst0_spec (fun i => (R i).k == kd && (R i).t == t) n with ⟨h1, _⟩ | ⟨l, h1, _, h3, _⟩
        · exact h1
        · have := HN.out l (by omega); rw [h3] at this; simp at this
      go_wp2_with fail
      go_ret
      exact ⟨ret_int HE.out.symm, rfl⟩
set_option maxHeartbeats 4000000 in
theorem l10Overlap_any (n : Nat) (R : Nat → Hp) (a : Option Addr) (cap : Nat) (x y : Int) (w : World) (hn : n ≤ 1048576) (h : HopsAt w a n R) :
    Calls Try.prog 39 #[.slice a n cap, .int .i64 x, .int .i64 y] w fun e w' => e = .returned (.bool (ovI R n x y)) ∧ w' = w := by
  have HX : Hid (HopsAt w a n R) := h
  have HQ : Hid (∀ z1 z2 z3 z4 z5 : Bool, (x != y) = z1 → decide (0 ≤ plc R 4 x n) = z2 → decide (0 ≤ plc R 4 y n) = z3 → decide (plc R 1 x n < plc R 4 y n) = z4 → decide (plc R 1 y n < plc R 4 x n) = z5 → ovI R n x y = (z1 && z2 && z3 && z4 && z5)) := fun _ _ _ _ _ h1 h2 h3 h4 h5 => by rw [ovI, h1, h2, h3, h4, h5]
  clear h
  have HP : Hid (∀ kd t w, HopsAt w a n R → Calls Try.prog 45 #[.slice a n cap, .int .i64 kd, .int .i64 t] w fun e w' => e = .returned (.int .i64 (plc R kd t n)) ∧ w' = w) := fun kd t w h => l10Place_any n R a cap kd t w hn h
  obtain h1 | h1 := boolor (x != y) <;> obtain h2 | h2 := boolor (decide (0 ≤ plc R 4 x n)) <;> obtain h3 | h3 := boolor (decide (0 ≤ plc R 4 y n)) <;> obtain h4 | h4 := boolor (decide (plc R 1 x n < plc R 4 y n)) <;> obtain h5 | h5 := boolor (decide (plc R 1 y n < plc R 4 x n))
  all_goals
    have HE : Hid (ovI R n x y = _) := HQ.out _ _ _ _ _ h1 h2 h3 h4 h5
    clear HQ
    go_enter Try.func39, Try.ntmps39
    go_wp2_with (first | (go_at_call 45; refine (HP.out _ _ _ HX.out).mono ?_; rintro e w' ⟨rfl, hq⟩; have hq2 := hq.symm; clear hq; subst hq2))
    go_ret
    exact ⟨ret_bool (by rw [HE.out]; rfl), rfl⟩
theorem specOv_any (n : Nat) (R : Nat → Hp) (a : Option Addr) (x y : Int) (w : World) (hn : n ≤ 1048576) (h : HopsAt w a n R) :
    Calls Try.prog 17 #[.slice a n n, .int .i64 x, .int .i64 y] w fun e w' => e = .returned (.bool (ovB R n x y)) ∧ Below w.heap.size w w' := by
  have HX : Hid (HopsAt w a n R) := h
  have HQ : Hid (∀ z : Bool, (hsC R n == 0) = z → ovB R n x y = (z && ovI R n x y)) := fun _ h1 => by rw [ovB, h1]
  clear h
  obtain h1 | h1 := boolor (hsC R n == 0)
  all_goals
    have HE : Hid (ovB R n x y = _) := HQ.out _ h1
    clear HQ
    go_enter Try.func17, Try.ntmps17
    go_wp2_with fail
    refine (specHf_any n R a _ hn HX.out).mono ?_
    rintro e w1 ⟨rfl, hb1⟩
    have HX1 : Hid (HopsAt w1 a n R) := HX.out.below hb1
    go_wp2_with (first | (go_at_call 39; refine (l10Overlap_any n R a n x y _ hn HX1.out).mono ?_; rintro e w' ⟨rfl, hq⟩; have hq2 := hq.symm; clear hq; subst hq2))
    go_ret
    exact ⟨ret_bool (by rw [HE.out]; rfl), hb1⟩
/-! ### the program -/
set_option maxHeartbeats 4000000 in
theorem beganAhead_any (n : Nat) (R : Nat → Hp) (a : Option Addr) (x y : Int) (w : World) (hn : n ≤ 1048576) (hle : hopAt R ⟨4, y, 0, 0⟩ n ≤ n) (h : HopsAt w a n R) :
    Calls Try.prog 47 #[.slice a n n, .int .i64 x, .int .i64 y] w fun e w' => e = .returned (.bool (bgA R n x y)) ∧ Below w.heap.size w w' := by
  have HX : Hid (HopsAt w a n R) := h
  clear h
  by_cases h0 : 0 ≤ hopAt R ⟨4, y, 0, 0⟩ n
  · obtain ⟨m, hm⟩ : ∃ m : Nat, hopAt R ⟨4, y, 0, 0⟩ n = (m : Int) := ⟨(hopAt R ⟨4, y, 0, 0⟩ n).toNat, by omega⟩
    have hmn : m ≤ n := by omega
    have hmn' : (m : Int) ≤ (n : Int) := by omega
    have hm0 : (0 : Int) ≤ (m : Int) := by omega
    have HE : Hid (bgA R n x y = decide (0 ≤ hopAt R ⟨1, x, 0, 0⟩ m)) := by show bgA R n x y = _; simp [bgA, hm]
    have HQ : Hid (∀ w, HopsAt w a n R → Calls Try.prog 64 #[.slice a n n, .agg #[.int .i64 4, .int .i64 y, .int .i64 0, .int .i64 0]] w fun e w' => e = .returned (.int .i64 (m : Int)) ∧ Below w.heap.size w w') := fun w h => by
      have h9 := index_any n R a n ⟨4, y, 0, 0⟩ w hn h
      rw [hm] at h9
      exact h9
    clear hm h0 hle
    go_enter Try.func47, Try.ntmps47
    go_wp2_with fail
    refine (HQ.out _ HX.out).mono ?_
    rintro e w1 ⟨rfl, hb1⟩
    have HX1 : Hid (HopsAt w1 a m R) := (HX.out.below hb1).take hmn
    go_wp2_with fail
    refine (contains_any m R a _ ⟨1, x, 0, 0⟩ _ (by omega) HX1.out).mono ?_
    rintro e w2 ⟨rfl, hb2⟩
    have hB := below_then hb1 hb2
    clear hb1 hb2
    generalize hq : decide (0 ≤ hopAt R ⟨1, x, 0, 0⟩ m) = q at *
    go_wp2_with fail
    go_ret
    exact ⟨ret_bool HE.out.symm, hB⟩
  · have HE : Hid (bgA R n x y = false) := by show bgA R n x y = _; simp [bgA, h0]
    have h1 : decide (0 ≤ hopAt R ⟨4, y, 0, 0⟩ n) = false := by simpa using h0
    go_enter Try.func47, Try.ntmps47
    go_wp2_with fail
    refine (index_any n R a n ⟨4, y, 0, 0⟩ _ hn HX.out).mono ?_
    rintro e w1 ⟨rfl, hb1⟩
    go_wp2_with fail
    go_ret
    exact ⟨ret_bool HE.out.symm, hb1⟩
theorem hopAt_le (R : Nat → Hp) (h : Hp) (n : Nat) : hopAt R h n ≤ n := by
  rw [hopAt_fst]
  rcases fst0_spec (fun i => hpE (R i) h) n with ⟨h1, _⟩ | ⟨k, h1, h2, _⟩
  · rw [h1]; omega
  · rw [h2]; omega
set_option maxHeartbeats 4000000 in
theorem overlapIn_any (n : Nat) (R : Nat → Hp) (a : Option Addr) (x y : Int) (w : World) (hn : n ≤ 1048576) (hhi : hiF R n = 0) (h : HopsAt w a n R) :
    Calls Try.prog 41 #[.slice a n n, .int .i64 x, .int .i64 y] w fun e w' => e = .returned (.bool (ovI R n x y)) ∧ Below w.heap.size w w' := by
  have HX : Hid (HopsAt w a n R) := h
  clear h
  have HA : Hid (∀ x y w, HopsAt w a n R → Calls Try.prog 47 #[.slice a n n, .int .i64 x, .int .i64 y] w fun e w' => e = .returned (.bool (bgA R n x y)) ∧ Below w.heap.size w w') := fun x y w h => beganAhead_any n R a x y w hn (hopAt_le R _ n) h
  obtain h2 | h2 := boolor (x != y)
  · have HQ : Hid (∀ z1 z2 : Bool, bgA R n x y = z1 → bgA R n y x = z2 → ovI R n x y = (z1 && z2)) := fun z1 z2 e1 e2 => by
      have := ov_eq hhi (x := x) (y := y) (by simpa using h2)
      rw [← this, e1, e2]
    clear hhi
    obtain h3 | h3 := boolor (bgA R n x y) <;> obtain h4 | h4 := boolor (bgA R n y x)
    all_goals
      have HE : Hid (ovI R n x y = _) := HQ.out _ _ h3 h4
      clear HQ
      go_enter Try.func41, Try.ntmps41
      go_wp2_with fail
      refine (HA.out x y _ HX.out).mono ?_
      rintro e w2 ⟨rfl, hB⟩
      have HX2 : Hid (HopsAt w2 a n R) := HX.out.below hB
      rw [h3]
      go_wp2_with (first | (go_at_call 47; refine (HA.out y x _ HX2.out).mono ?_; rintro e w3 ⟨rfl, hb3⟩; replace hB := below_then hB hb3; clear hb3))
      go_ret
      exact ⟨ret_bool (by rw [HE.out]; first | rfl | (rw [h4])), hB⟩
  · have HE : Hid (ovI R n x y = false) := by
      have : x = y := by simpa using h2
      show ovI R n x y = false; simp [ovI, this]
    clear hhi
    go_enter Try.func41, Try.ntmps41
    go_wp2_with fail
    go_ret
    exact ⟨ret_bool HE.out.symm, Below.refl _ _⟩
set_option maxHeartbeats 4000000 in
theorem implOv_any (n : Nat) (R : Nat → Hp) (a : Option Addr) (x y : Int) (w : World) (hn : n ≤ 1048576) (hw : HpW n R) (h : HopsAt w a n R) :
    Calls Try.prog 18 #[.slice a n n, .int .i64 x, .int .i64 y] w fun e w' => e = .returned (.bool (ovB R n x y)) ∧ Below w.heap.size w w' := by
  have HX : Hid (HopsAt w a n R) := h
  have HW : Hid (HpW n R) := hw
  clear h hw
  obtain h1 | h1 := boolor (hsC R n == 0)
  · have hz : hsC R n = 0 := by simpa using h1
    have hhi : Hid (hiF R n = 0) := by show hiF R n = 0; rw [← hsC_few (hs_few hz)]; exact hz
    have HE : Hid (ovB R n x y = ovI R n x y) := by show ovB R n x y = _; simp [ovB, hz]
    clear hz
    go_enter Try.func18, Try.ntmps18
    go_wp2_with fail
    refine (implHf_any n R a n _ hn HW.out HX.out).mono ?_
    rintro e w1 ⟨rfl, hB⟩
    have HX2 : Hid (HopsAt w1 a n R) := HX.out.below hB
    go_wp2_with (first | (go_at_call 41; refine (overlapIn_any n R a x y _ hn hhi.out HX2.out).mono ?_; rintro e w3 ⟨rfl, hb3⟩; replace hB := below_then hB hb3; clear hb3))
    go_ret
    exact ⟨ret_bool (by rw [HE.out]), hB⟩
  · have HE : Hid (ovB R n x y = false) := by show ovB R n x y = false; simp only [ovB, h1, Bool.false_and]
    go_enter Try.func18, Try.ntmps18
    go_wp2_with fail
    refine (implHf_any n R a n _ hn HW.out HX.out).mono ?_
    rintro e w1 ⟨rfl, hb1⟩
    go_wp2_with fail
    go_ret
    exact ⟨ret_bool HE.out.symm, hb1⟩
end Go.Proofs.Ytnmmnhfgkcdajaa
