/- WritersOf, both sides; a hop that is looked for. -/
import Derived.Test.YtnmmnhfgkcdajaaHca
namespace Go.Proofs.Ytnmmnhfgkcdajaa
open Go.RowKit Go.Deep
set_option linter.unusedVariables false
set_option maxRecDepth 20000

def hpE (r h : Hp) : Bool := r.k == h.k && r.t == h.t && r.y == h.y && r.o == h.o
theorem hpE_iff {r h : Hp} : hpE r h = true ↔ r = h := by
  constructor
  · intro e
    cases r; cases h; simp [hpE] at e; simp [e]
  · rintro rfl; simp [hpE]
/-- The first place of a hop among the first n; -1: it is not there. -/
def hopAt (R : Nat → Hp) (h : Hp) : Nat → Int
  | 0 => -1
  | k + 1 => if hopAt R h k ≠ -1 then hopAt R h k else if hpE (R k) h then (k : Int) else -1
theorem hopAt_none {R : Nat → Hp} {h : Hp} : ∀ {n : Nat}, (∀ i, i < n → R i ≠ h) → hopAt R h n = -1
  | 0, _ => rfl
  | n + 1, e => by
    simp only [hopAt]
    rw [if_neg (by simp [hopAt_none (n := n) fun i hi => e i (by omega)]), if_neg (fun q => e n (by omega) (hpE_iff.1 q))]
theorem hopAt_first {R : Nat → Hp} {h : Hp} {k : Nat} (e : ∀ i, i < k → R i ≠ h) (hk : R k = h) : ∀ n, k < n → hopAt R h n = (k : Int)
  | 0, hn => by omega
  | n + 1, hn => by
    simp only [hopAt]
    by_cases q : k = n
    · subst q
      rw [if_neg (by simp [hopAt_none e]), if_pos (hpE_iff.2 hk)]
    · have ih := hopAt_first e hk n (by omega)
      rw [if_pos (by rw [ih]; omega), ih]
theorem hop_eq {r h : Hp} (h1 : (h.k == r.k) = true) (h2 : (h.t == r.t) = true) (h3 : (h.y == r.y) = true) (h4 : (h.o == r.o) = true) : r = h := by
  cases r; cases h; simp_all
set_option maxHeartbeats 4000000 in
theorem index_some (n : Nat) (R : Nat → Hp) (b off cap : Nat) (h : Hp) (w : World) (hn : n ≤ 1048576) (hbl : b < w.heap.size) (hc : ∀ i, i < n → CH w b (off + i * 4) (R i)) :
    Calls Try.prog 64 #[.slice (some ⟨b, off, none⟩) n cap, .agg #[.int .i64 h.k, .int .i64 h.t, .int .i64 h.y, .int .i64 h.o]] w fun e w' => e = .returned (.int .i64 (hopAt R h n)) ∧ Below w.heap.size w w' := by
  have HC : Hid (∀ i, i < n → CH w b (off + i * 4) (R i)) := hc
  have BX := Box4.new w (.int .i64 h.k) (.int .i64 h.t) (.int .i64 h.y) (.int .i64 h.o) 50
  have HBX : Hid (Box4 (w.alloc (.cells #[.int .i64 h.k, .int .i64 h.t, .int .i64 h.y, .int .i64 h.o] 50)) w.heap.size (.int .i64 h.k) (.int .i64 h.t) (.int .i64 h.y) (.int .i64 h.o)) := BX
  clear hc BX
  go_enter Try.func64, Try.ntmps64
  go_wp2_with fail
  go_loopw [5, 8] (fun _ i wr => ∃ k : Nat, k ≤ n ∧ i = .int .i64 k ∧ Hid (∀ i, i < k → R i ≠ h) ∧ Hid (Below w.heap.size w wr) ∧ Hid (Box4 wr w.heap.size (.int .i64 h.k) (.int .i64 h.t) (.int .i64 h.y) (.int .i64 h.o))) (fun _ i _ => n - (intOf i).toNat)
  case atStart => exact ⟨0, Nat.zero_le _, rfl, fun i hi => by omega, below_new _ _, HBX⟩
  case round =>
    clear HBX
    obtain ⟨k, hk, rfl, HN, HB, HX⟩ := hrel
    by_cases hlt : k < n
    · have hlt' : (k : Int) < (n : Int) := by omega
      have hk0 : (0 : Int) ≤ (k : Int) := by omega
      obtain ⟨x0, x1, x2, x3⟩ := (HC.out k hlt).block (HB.out.block _ hbl)
      obtain ⟨y0, y1, y2, y3⟩ := HX.out
      have HE : Hid (R k = h → hopAt R h n = (k : Int)) := fun e => hopAt_first HN.out e n hlt
      have HM : Hid (R k ≠ h → ∀ i, i < k + 1 → R i ≠ h) := fun e i hi => by
        by_cases q : i = k
        · subst q; exact e
        · exact HN.out i (by omega)
      generalize R k = r at *
      obtain h1 | h1 := boolor (h.k == r.k) <;> obtain h2 | h2 := boolor (h.t == r.t) <;> obtain h3 | h3 := boolor (h.y == r.y) <;> obtain h4 | h4 := boolor (h.o == r.o)
      case inl.inl.inl.inl =>
        have HE2 := HE.out (hop_eq h1 h2 h3 h4)
        have HE3 : Hid (hopAt R h n = (k : Int)) := HE2
        clear HE HM HE2
        go_wp2_with fail
        go_quiet (fail)
        go_wp2_with fail
        go_ret
        exact ⟨ret_int HE3.out.symm, below_drewN HB.out _⟩
      all_goals
        have HM2 : Hid (∀ i, i < k + 1 → R i ≠ h) := HM.out (fun e => by subst e; simp_all)
        clear HE HM
        go_wp2_with fail
        go_quiet (fail)
        go_wp2_with fail
        go_roundw
        case rel => exact ⟨k + 1, hlt, by go_num, HM2, below_drewN HB.out _, HX.out.below (below_drewN (Below.refl _ _) _)⟩
        case measure => simp [intOf]; omega
    · have hkn : k = n := by omega
      have hnl : ¬ ((k : Int) < (n : Int)) := by omega
      have HE : Hid (hopAt R h n = -1) := by rw [← hkn]; exact hopAt_none HN.out
      go_wp2_with fail
      go_ret
      exact ⟨ret_int HE.out.symm, HB.out⟩
theorem index_any (n : Nat) (R : Nat → Hp) (a : Option Addr) (cap : Nat) (h : Hp) (w : World) (hn : n ≤ 1048576) (hh : HopsAt w a n R) :
    Calls Try.prog 64 #[.slice a n cap, .agg #[.int .i64 h.k, .int .i64 h.t, .int .i64 h.y, .int .i64 h.o]] w fun e w' => e = .returned (.int .i64 (hopAt R h n)) ∧ Below w.heap.size w w' := by
  rcases hh with rfl | ⟨b, off, rfl, hbl, hc⟩
  · go_enter Try.func64, Try.ntmps64
    go_wp2_with fail
    go_loopw [5, 8] (fun _ i wr => i = .int .i64 0 ∧ Below w.heap.size w wr) (fun _ _ _ => 0)
    case atStart => exact ⟨rfl, below_new _ _⟩
    case round =>
      obtain ⟨rfl, hB⟩ := hrel
      go_wp2_with fail
      go_ret
      exact ⟨rfl, hB⟩
  · exact index_some n R b off cap h w hn hbl hc
theorem contains_any (n : Nat) (R : Nat → Hp) (a : Option Addr) (cap : Nat) (h : Hp) (w : World) (hn : n ≤ 1048576) (hh : HopsAt w a n R) :
    Calls Try.prog 57 #[.slice a n cap, .agg #[.int .i64 h.k, .int .i64 h.t, .int .i64 h.y, .int .i64 h.o]] w fun e w' => e = .returned (.bool (decide (0 ≤ hopAt R h n))) ∧ Below w.heap.size w w' := by
  have HH : Hid (HopsAt w a n R) := hh
  clear hh
  go_enter Try.func57, Try.ntmps57
  go_wp2_with fail
  refine (index_any n R a cap h _ hn (HH.out.below (below_new _ _))).mono ?_
  rintro e w1 ⟨rfl, hb1⟩
  have hB := below_then (below_new _ _) hb1
  clear hb1
  generalize hq : hopAt R h n = q at *
  go_wp2_with fail
  go_ret
  exact ⟨ret_bool (by rw [hq]), hB⟩
/-! ### who wrote a key -/
def wrB (R : Nat → Hp) (t y : Int) : Nat → Bool
  | 0 => false
  | k + 1 => wrB R t y k || ((R k).k == 3 && (R k).t == t && (R k).y == y)
theorem wrB_iff {R : Nat → Hp} {t y : Int} : ∀ {n : Nat}, wrB R t y n = true ↔ ∃ i, i < n ∧ (R i).k = 3 ∧ (R i).t = t ∧ (R i).y = y
  | 0 => by simp [wrB]
  | n + 1 => by
    simp only [wrB, Bool.or_eq_true, wrB_iff (n := n), Bool.and_eq_true, beq_iff_eq]
    constructor
    · rintro (⟨i, h, e⟩ | ⟨⟨e1, e2⟩, e3⟩)
      · exact ⟨i, by omega, e⟩
      · exact ⟨n, by omega, e1, e2, e3⟩
    · rintro ⟨i, h, e1, e2, e3⟩
      by_cases q : i = n
      · subst q; exact .inr ⟨⟨e1, e2⟩, e3⟩
      · exact .inl ⟨i, by omega, e1, e2, e3⟩
theorem hopAt_iff {R : Nat → Hp} {h : Hp} : ∀ {n : Nat}, 0 ≤ hopAt R h n ↔ ∃ i, i < n ∧ R i = h
  | 0 => by simp [hopAt]
  | n + 1 => by
    simp only [hopAt]
    have ih := hopAt_iff (R := R) (h := h) (n := n)
    by_cases q : hopAt R h n = -1
    · rw [if_neg (by simp [q])]
      have hno : ¬ ∃ i, i < n ∧ R i = h := by rw [← ih, q]; omega
      by_cases e : hpE (R n) h = true
      · rw [if_pos e]
        exact ⟨fun _ => ⟨n, by omega, hpE_iff.1 e⟩, fun _ => by omega⟩
      · rw [if_neg e]
        refine ⟨fun x => by omega, ?_⟩
        rintro ⟨i, h1, h2⟩
        by_cases z : i = n
        · subst z; exact absurd (hpE_iff.2 h2) e
        · exact absurd ⟨i, by omega, h2⟩ hno
    · rw [if_pos q]
      constructor
      · intro x
        obtain ⟨i, h1, h2⟩ := ih.1 x
        exact ⟨i, by omega, h2⟩
      · intro _
        by_cases x : 0 ≤ hopAt R h n
        · exact x
        · exfalso
          have hno : ∀ i, i < n → R i ≠ h := fun i hi e => x (ih.2 ⟨i, hi, e⟩)
          exact q (hopAt_none hno)
theorem hop_good {R : Nat → Hp} {n i : Nat} (h : hiF R n = 0) (hi : i < n) : hpF (R i) (lastK R i (R i).t) = 0 := by
  have h1 := hiF_less h (show i + 1 ≤ n by omega)
  have h0 := hiF_less h (show i ≤ n by omega)
  simp only [hiF] at h1
  rw [if_neg (by simp [h0])] at h1
  exact h1
theorem wrB_at {R : Nat → Hp} {n : Nat} (h : hiF R n = 0) (t y : Int) : decide (0 ≤ hopAt R ⟨3, t, y, 0⟩ n) = wrB R t y n := by
  have e : (0 ≤ hopAt R ⟨3, t, y, 0⟩ n) ↔ wrB R t y n = true := by
    rw [hopAt_iff, wrB_iff]
    constructor
    · rintro ⟨i, h1, h2⟩
      exact ⟨i, h1, by rw [h2], by rw [h2], by rw [h2]⟩
    · rintro ⟨i, h1, h2, h3, h4⟩
      refine ⟨i, h1, ?_⟩
      have hf := (hpF_zero (hop_good h h1)).2.1
      generalize R i = r at *
      obtain ⟨a, b, c, d⟩ := r
      simp only at h2 h3 h4
      subst h2 h3 h4
      simp [hpFm] at hf
      rw [hf]
  cases hq : wrB R t y n
  · simp only [decide_eq_false_iff_not]; rw [e, hq]; simp
  · simp only [decide_eq_true_eq]; rw [e, hq]
def wrL (R : Nat → Hp) (n : Nat) (y : Int) (l : List Int) : List Int := l.filter (fun t => wrB R t y n)
theorem wrL_len (R : Nat → Hp) (n : Nat) (y : Int) (l : List Int) : (wrL R n y l).length ≤ l.length := List.length_filter_le _ _
def wrC (R : Nat → Hp) (n : Nat) (y : Int) : Int := if hsC R n ≠ 0 then hsC R n else if inB y 0 31 = false then 3 else 0
theorem wrC_zero {R : Nat → Hp} {n : Nat} {y : Int} (h : wrC R n y = 0) : hsC R n = 0 ∧ inB y 0 31 = true := by
  unfold wrC at h
  split at h
  · omega
  · split at h
    · omega
    · rename_i h1 h2
      exact ⟨by omega, by simpa using h2⟩
theorem wrC_bad {R : Nat → Hp} {n : Nat} {y : Int} (h : hsC R n ≠ 0) : wrC R n y = hsC R n := by simp [wrC, h]
theorem wrC_key {R : Nat → Hp} {n : Nat} {y : Int} (h : hsC R n = 0) (h2 : inB y 0 31 = false) : wrC R n y = 3 := by simp [wrC, h, h2]
theorem wrC_ok {R : Nat → Hp} {n : Nat} {y : Int} (h : hsC R n = 0) (h2 : inB y 0 31 = true) : wrC R n y = 0 := by simp [wrC, h, h2]
theorem take_next {l : List Int} {k : Nat} (h : k < l.length) : l.take (k + 1) = l.take k ++ [zI l k] := by
  rw [List.take_add_one, zI, List.getD_eq_getElem?_getD]
  simp [List.getElem?_eq_getElem h]
theorem wrL_yes {R : Nat → Hp} {n : Nat} {y : Int} {l : List Int} {k : Nat} (h : k < l.length) (e : wrB R (zI l k) y n = true) : wrL R n y (l.take (k + 1)) = wrL R n y (l.take k) ++ [zI l k] := by
  rw [take_next h]; simp [wrL, e]
theorem wrL_no {R : Nat → Hp} {n : Nat} {y : Int} {l : List Int} {k : Nat} (h : k < l.length) (e : wrB R (zI l k) y n = false) : wrL R n y (l.take (k + 1)) = wrL R n y (l.take k) := by
  rw [take_next h]; simp [wrL, e]
theorem wrL_take (R : Nat → Hp) (n : Nat) (y : Int) (l : List Int) (k : Nat) : (wrL R n y (l.take k)).length ≤ l.length :=
  Nat.le_trans (wrL_len R n y _) (by simp; omega)
set_option maxHeartbeats 4000000 in
theorem l10Wrote_any (n : Nat) (R : Nat → Hp) (a : Option Addr) (cap : Nat) (t y : Int) (w : World) (hn : n ≤ 1048576) (h : HopsAt w a n R) :
    Calls Try.prog 55 #[.slice a n cap, .int .i64 t, .int .i64 y] w fun e w' => e = .returned (.bool (wrB R t y n)) ∧ w' = w := by
  have HX : Hid (HopsAt w a n R) := h
  clear h
  go_enter Try.func55, Try.ntmps55
  go_wp2_with fail
  go_loop [7] (fun i => ∃ k : Nat, k ≤ n ∧ i = .int .i64 k ∧ Hid (wrB R t y k = false)) (fun i => n - (intOf i).toNat)
  case atStart => exact ⟨0, Nat.zero_le _, rfl, rfl⟩
  case round =>
    obtain ⟨k, hk, rfl, HN⟩ := hrel
    by_cases hlt : k < n
    · have hlt' : (k : Int) < (n : Int) := by omega
      have hk0 : (0 : Int) ≤ (k : Int) := by omega
      rcases HX.out with h | ⟨bb, off, rfl, hl, hcc⟩
      · omega
      obtain ⟨x0, x1, x2, x3⟩ := hcc k hlt
      clear hcc
      have HY : Hid (∀ z1 z2 z3 : Bool, ((R k).k == 3) = z1 → ((R k).t == t) = z2 → ((R k).y == y) = z3 → wrB R t y (k + 1) = (z1 && z2 && z3)) := fun _ _ _ h1 h2 h3 => by
        simp only [wrB, HN.out, h1, h2, h3, Bool.false_or]
      have HYES : Hid ((R k).k = 3 → (R k).t = t → (R k).y = y → wrB R t y n = true) := fun h1 h2 h3 => wrB_iff.2 ⟨k, hlt, h1, h2, h3⟩
      generalize R k = r at *
      obtain h1 | h1 := boolor (r.k == 3) <;> obtain h2 | h2 := boolor (r.t == t) <;> obtain h3 | h3 := boolor (r.y == y)
      case inl.inl.inl =>
        have HE : Hid (wrB R t y n = true) := HYES.out (by simpa using h1) (by simpa using h2) (by simpa using h3)
        clear HY HYES
        go_wp2_with fail
        go_ret
        exact ⟨ret_bool HE.out.symm, rfl⟩
      all_goals
        have HE : Hid (wrB R t y (k + 1) = false) := HY.out _ _ _ h1 h2 h3
        clear HY HYES
        go_wp2_with fail
        go_round
        case rel => exact ⟨k + 1, hlt, by go_num, HE⟩
        case measure => simp [intOf]; omega
    · have hkn : k = n := by omega
      have hnl : ¬ ((k : Int) < (n : Int)) := by omega
      have HE : Hid (wrB R t y n = false) := by rw [← hkn]; exact HN
      go_wp2_with fail
      go_ret
      exact ⟨ret_bool HE.out.symm, rfl⟩
end Go.Proofs.Ytnmmnhfgkcdajaa
