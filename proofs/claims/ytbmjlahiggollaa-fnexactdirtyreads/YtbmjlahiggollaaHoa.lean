/- Overlap, both sides. -/
import Derived.Test.YtbmjlahiggollaaHwa
namespace Go.Proofs.Ytbmjlahiggollaa
open Go.RowKit Go.Deep
set_option linter.unusedVariables false
set_option maxRecDepth 20000

/-- The first place at which p is so, among the first n; -1: there is none. -/
def fst0 (p : Nat → Bool) : Nat → Int
  | 0 => -1
  | k + 1 => if fst0 p k ≠ -1 then fst0 p k else if p k then (k : Int) else -1
theorem fst0_spec (p : Nat → Bool) : ∀ n, (fst0 p n = -1 ∧ ∀ i, i < n → p i = false) ∨ ∃ k, k < n ∧ fst0 p n = (k : Int) ∧ p k = true ∧ ∀ i, i < k → p i = false
  | 0 => .inl ⟨rfl, fun i hi => by omega⟩
  | n + 1 => by
    rcases fst0_spec p n with ⟨h1, h2⟩ | ⟨k, h1, h2, h3, h4⟩
    · by_cases e : p n = true
      · right
        exact ⟨n, by omega, by simp only [fst0]; rw [if_neg (by simp [h1]), if_pos e], e, h2⟩
      · left
        refine ⟨by simp only [fst0]; rw [if_neg (by simp [h1]), if_neg e], fun i hi => ?_⟩
        by_cases q : i = n
        · subst q; simpa using e
        · exact h2 i (by omega)
    · right
      exact ⟨k, by omega, by simp only [fst0]; rw [if_pos (by rw [h2]; omega), h2], h3, h4⟩
theorem fst0_congr {p q : Nat → Bool} : ∀ {n : Nat}, (∀ i, i < n → p i = q i) → fst0 p n = fst0 q n
  | 0, _ => rfl
  | n + 1, h => by simp only [fst0]; rw [fst0_congr (n := n) fun i hi => h i (by omega), h n (by omega)]
theorem hopAt_fst (R : Nat → Hp) (h : Hp) : ∀ n, hopAt R h n = fst0 (fun i => hpE (R i) h) n
  | 0 => rfl
  | n + 1 => by simp only [hopAt, fst0]; rw [hopAt_fst R h n]
def plc (R : Nat → Hp) (k t : Int) (n : Nat) : Int := fst0 (fun i => (R i).k == k && (R i).t == t) n
theorem plc_hop {R : Nat → Hp} {n m : Nat} (h : hiF R n = 0) (hm : m ≤ n) {k : Int} (hk : k = 1 ∨ k = 4) (t : Int) : hopAt R ⟨k, t, 0, 0⟩ m = plc R k t m := by
  rw [hopAt_fst, plc]
  refine fst0_congr fun i hi => ?_
  have hf := (hpF_zero (hop_good h (show i < n by omega))).2.1
  generalize R i = r at *
  obtain ⟨a, b, c, d⟩ := r
  simp only [hpE]
  by_cases e : a = k
  · subst e
    have h2 : ¬ a = 2 := by omega
    have h3 : ¬ a = 3 := by omega
    simp [hpFm, h2, h3] at hf
    obtain ⟨rfl, rfl⟩ := hf
    cases (b == t) <;> simp
  · have e2 : (a == k) = false := by simpa using e
    rw [e2]; simp
theorem last_begin {R : Nat → Hp} : ∀ {k : Nat}, hiF R k = 0 → ∀ t, lastK R k t ≠ 0 → ∃ j, j < k ∧ (R j).k = 1 ∧ (R j).t = t
  | 0, _, t, h => by simp [lastK] at h
  | k + 1, h, t, hl => by
    have h0 := hiF_less h (Nat.le_succ k)
    have hg := hpF_zero (hop_good h (Nat.lt_succ_self k))
    simp only [lastK] at hl
    by_cases e : (R k).t = t
    · by_cases e1 : (R k).k = 1
      · exact ⟨k, by omega, e1, e⟩
      · have h3 := hg.2.2
        unfold mayF at h3
        rw [if_neg e1, e] at h3
        have h4 := inB_iff.1 h3
        obtain ⟨j, h5, h6⟩ := last_begin h0 t (by omega)
        exact ⟨j, by omega, h6⟩
    · rw [if_neg e] at hl
      obtain ⟨j, h5, h6⟩ := last_begin h0 t hl
      exact ⟨j, by omega, h6⟩
theorem com_begin {R : Nat → Hp} {n i : Nat} (h : hiF R n = 0) (hi : i < n) (hk : (R i).k = 4) : ∃ j, j < i ∧ (R j).k = 1 ∧ (R j).t = (R i).t := by
  have hg := hpF_zero (hop_good h hi)
  have h3 := hg.2.2
  unfold mayF at h3
  rw [if_neg (by omega)] at h3
  have h4 := inB_iff.1 h3
  exact last_begin (hiF_less h (by omega)) _ (by omega)
/-- The model's and the program's question of one of the two. -/
theorem began_eq {R : Nat → Hp} {n : Nat} (h : hiF R n = 0) (x : Int) (hx : 0 ≤ plc R 4 x n) (m : Nat) (hm : m ≤ n) : decide (0 ≤ hopAt R ⟨1, x, 0, 0⟩ m) = decide (plc R 1 x n < (m : Int)) := by
  rw [plc_hop h hm (.inl rfl)]
  have hb : ∃ j, j < n ∧ (R j).k = 1 ∧ (R j).t = x := by
    rcases fst0_spec (fun i => (R i).k == 4 && (R i).t == x) n with ⟨h1, _⟩ | ⟨k, h1, _, h3, _⟩
    · unfold plc at hx; rw [h1] at hx; omega
    · simp at h3
      obtain ⟨j, h4, h5, h6⟩ := com_begin h h1 h3.1
      exact ⟨j, by omega, h5, by rw [h6]; exact h3.2⟩
  obtain ⟨j, hj, e1, e2⟩ := hb
  have hp : (fun i => (R i).k == 1 && (R i).t == x) j = true := by simp [e1, e2]
  unfold plc
  generalize (fun i => (R i).k == 1 && (R i).t == x) = p at *
  rcases fst0_spec p n with ⟨_, h2⟩ | ⟨k, h1, h2, h3, h4⟩
  · rw [h2 j hj] at hp; simp at hp
  · rw [h2]
    rcases fst0_spec p m with ⟨g1, g2⟩ | ⟨l, g1, g2, g3, g4⟩
    · rw [g1]
      have : ¬ k < m := fun q => by rw [g2 k q] at h3; simp at h3
      simp; omega
    · rw [g2]
      have hkl : k = l := by
        rcases Nat.lt_trichotomy k l with q | q | q
        · rw [g4 k q] at h3; simp at h3
        · exact q
        · rw [h4 l q] at g3; simp at g3
      simp; omega
def ovI (R : Nat → Hp) (n : Nat) (x y : Int) : Bool := x != y && decide (0 ≤ plc R 4 x n) && decide (0 ≤ plc R 4 y n) && decide (plc R 1 x n < plc R 4 y n) && decide (plc R 1 y n < plc R 4 x n)
def ovB (R : Nat → Hp) (n : Nat) (x y : Int) : Bool := hsC R n == 0 && ovI R n x y
/-- What beganAhead answers. -/
def bgA (R : Nat → Hp) (n : Nat) (x y : Int) : Bool := decide (0 ≤ hopAt R ⟨4, y, 0, 0⟩ n) && decide (0 ≤ hopAt R ⟨1, x, 0, 0⟩ (hopAt R ⟨4, y, 0, 0⟩ n).toNat)
theorem plc_le (R : Nat → Hp) (k t : Int) (n : Nat) : plc R k t n < n ∨ plc R k t n = -1 := by
  unfold plc
  rcases fst0_spec (fun i => (R i).k == k && (R i).t == t) n with ⟨h1, _⟩ | ⟨k, h1, h2, _⟩
  · exact .inr h1
  · left; rw [h2]; omega
theorem ov_eq {R : Nat → Hp} {n : Nat} (h : hiF R n = 0) {x y : Int} (hxy : x ≠ y) : (bgA R n x y && bgA R n y x) = ovI R n x y := by
  have hb : (x != y) = true := by simp [hxy]
  unfold bgA ovI
  rw [plc_hop h (Nat.le_refl _) (.inr rfl) y, plc_hop h (Nat.le_refl _) (.inr rfl) x, hb]
  have hx := plc_le R 4 x n
  have hy := plc_le R 4 y n
  by_cases h1 : 0 ≤ plc R 4 x n
  · by_cases h2 : 0 ≤ plc R 4 y n
    · rw [began_eq h x h1 _ (by omega), began_eq h y h2 _ (by omega)]
      rw [Int.toNat_of_nonneg h1, Int.toNat_of_nonneg h2]
      simp [h1, h2]
    · simp [h2]
  · simp [h1]
theorem HopsAt.take {w : World} {a : Option Addr} {n m : Nat} {R : Nat → Hp} (h : HopsAt w a n R) (hm : m ≤ n) : HopsAt w a m R := by
  rcases h with h | ⟨b, off, ha, hl, hc⟩
  · exact .inl (by omega)
  · exact .inr ⟨b, off, ha, hl, fun i hi => hc i (by omega)⟩
/-! ### the model -/
set_option maxHeartbeats 4000000 in
theorem l10Place_any (n : Nat) (R : Nat → Hp) (a : Option Addr) (cap : Nat) (kd t : Int) (w : World) (hn : n ≤ 1048576) (h : HopsAt w a n R) :
    Calls Try.prog 16 #[.slice a n cap, .int .i64 kd, .int .i64 t] w fun e w' => e = .returned (.int .i64 (plc R kd t n)) ∧ w' = w := by
  have HX : Hid (HopsAt w a n R) := h
  clear h
  go_enter Try.func16, Try.ntmps16
  go_wp2_with fail
  go_loop [7] (fun i => ∃ k : Nat, k ≤ n ∧ i = .int .i64 k ∧ Hid (∀ i, i < k → ((R i).k == kd && (R i).t == t) = false)) (fun i => n - (intOf i).toNat)
  case atStart => exact ⟨0, Nat.zero_le _, rfl, fun i hi => by omega⟩
  case round =>
    obtain ⟨k, hk, rfl, HN⟩ := hrel
    by_cases hlt : k < n
    · have hlt' : (k : Int) < (n : Int) := by omega
      have hk0 : (0 : Int) ≤ (k : Int) := by omega
      rcases HX.out with h | ⟨bb, off, rfl, hl, hcc⟩
      · omega
      obtain ⟨x0, x1, x2, x3⟩ := hcc k hlt
      clear hcc
      have HY : Hid (((R k).k == kd && (R k).t == t) = true → plc R kd t n = (k : Int)) := fun e => by
        unfold plc
        rcases fst0_spec (fun i => (R i).k == kd && (R i).t == t) n with ⟨_, h2⟩ | ⟨l, h1, h2, h3, h4⟩
        · have := h2 k hlt; rw [e] at this; simp at this
        · rw [h2]
          rcases Nat.lt_trichotomy k l with q | q | q
          · have := h4 k q; rw [e] at this; simp at this
          · omega
          · have := HN.out l q; rw [h3] at this; simp at this
      have HM : Hid (((R k).k == kd && (R k).t == t) = false → ∀ i, i < k + 1 → ((R i).k == kd && (R i).t == t) = false) := fun e i hi => by
        by_cases q : i = k
        · subst q; exact e
        · exact HN.out i (by omega)
      generalize R k = r at *
      obtain h1 | h1 := boolor (r.k == kd) <;> obtain h2 | h2 := boolor (r.t == t)
      case inl.inl =>
        have HE : Hid (plc R kd t n = (k : Int)) := HY.out (by rw [h1, h2]; rfl)
        clear HY HM
        go_wp2_with fail
        go_ret
        exact ⟨ret_int HE.out.symm, rfl⟩
      all_goals
        have HE : Hid (∀ i, i < k + 1 → ((R i).k == kd && (R i).t == t) = false) := HM.out (by rw [h1, h2]; rfl)
        clear HY HM
        go_wp2_with fail
        go_round
        case rel => exact ⟨k + 1, hlt, by go_num, HE⟩
        case measure => simp [intOf]; omega
    · have hkn : k = n := by omega
      have hnl : ¬ ((k : Int) < (n : Int)) := by omega
      have HE : Hid (plc R kd t n = -1) := by
        show plc R kd t n = -1
        unfold plc
        rcases fst0_spec (fun i => (R i).k == kd && (R i).t == t) n with ⟨h1, _⟩ | ⟨l, h1, _, h3, _⟩
        · exact h1
        · have := HN.out l (by omega); rw [h3] at this; simp at this
      go_wp2_with fail
      go_ret
      exact ⟨ret_int HE.out.symm, rfl⟩
/-! ### the program -/
theorem hopAt_le (R : Nat → Hp) (h : Hp) (n : Nat) : hopAt R h n ≤ n := by
  rw [hopAt_fst]
  rcases fst0_spec (fun i => hpE (R i) h) n with ⟨h1, _⟩ | ⟨k, h1, h2, _⟩
  · rw [h1]; omega
  · rw [h2]; omega
end Go.Proofs.Ytbmjlahiggollaa
