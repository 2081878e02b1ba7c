/- The fault of a history: as a function; the small tests of the program; what a transaction did, by the model. -/
import Derived.Test.YtdgginfagbmooaaDoorHop
namespace Go.Proofs.YtdgginfagbmooaaDoor
open Go.RowKit Go.Deep
set_option linter.unusedVariables false
set_option maxRecDepth 20000

/-- The Kind of the last hop that t has among the first k; 0: it has none. -/
def lastK (R : Nat → Hp) : Nat → Int → Int
  | 0, _ => 0
  | k + 1, t => if (R k).t = t then (R k).k else lastK R k t
def hpIn (h : Hp) : Bool := inB h.k 1 5 && inB h.t 2 999 && inB h.y 0 31 && inB h.o 0 999
def hpFm (h : Hp) : Bool := if h.k = 2 then true else if h.k = 3 then h.o == 0 else h.y == 0 && h.o == 0
def mayF (k l : Int) : Bool := if k = 1 then l == 0 else inB l 1 3
/-- The fault of a hop whose transaction's last hop ahead has the Kind l. -/
def hpF (h : Hp) (l : Int) : Int := if hpIn h = false then 3 else if hpFm h = false then 1 else if mayF h.k l = false then 10 else 0
/-- The first fault of the first k hops. -/
def hiF (R : Nat → Hp) : Nat → Int
  | 0 => 0
  | k + 1 => if hiF R k ≠ 0 then hiF R k else hpF (R k) (lastK R k (R k).t)
def hsC (R : Nat → Hp) (n : Nat) : Int := if 400 < n then 2 else hiF R n
theorem hiF_stay {R : Nat → Hp} {k : Nat} (h : hiF R k ≠ 0) : ∀ n, k ≤ n → hiF R n = hiF R k
  | 0, hn => by rw [show k = 0 by omega]
  | n + 1, hn => by
    by_cases e : k = n + 1
    · rw [e]
    · have ih := hiF_stay h n (by omega)
      simp only [hiF]
      rw [if_pos (by rw [ih]; exact h), ih]
theorem hiF_at {R : Nat → Hp} {k n : Nat} (h0 : hiF R k = 0) (hk : k < n) (h : hpF (R k) (lastK R k (R k).t) ≠ 0) : hiF R n = hpF (R k) (lastK R k (R k).t) := by
  have e : hiF R (k + 1) = hpF (R k) (lastK R k (R k).t) := by simp only [hiF]; rw [if_neg (by simp [h0])]
  rw [hiF_stay (by rw [e]; exact h) n hk, e]
theorem hiF_next {R : Nat → Hp} {k : Nat} (h0 : hiF R k = 0) (h : hpF (R k) (lastK R k (R k).t) = 0) : hiF R (k + 1) = 0 := by simp only [hiF]; rw [if_neg (by simp [h0]), h]
/-- What a transaction did: 0 nothing, 1 begun, 2 ended. -/
def stK (R : Nat → Hp) : Nat → Int → Int
  | 0, _ => 0
  | k + 1, t => if (R k).t = t then (if (R k).k = 4 ∨ (R k).k = 5 then 2 else if (R k).k = 1 then 1 else stK R k t) else stK R k t
theorem hiF_less {R : Nat → Hp} {n k : Nat} (h : hiF R n = 0) (hk : k ≤ n) : hiF R k = 0 := by
  by_cases e : hiF R k = 0
  · exact e
  · have := hiF_stay e n hk; rw [h] at this; exact this.symm
theorem hpF_zero {h : Hp} {l : Int} (e : hpF h l = 0) : hpIn h = true ∧ hpFm h = true ∧ mayF h.k l = true := by
  unfold hpF at e
  split at e
  · omega
  · split at e
    · omega
    · split at e
      · omega
      · simp_all
theorem st_last {R : Nat → Hp} : ∀ {k : Nat}, hiF R k = 0 → ∀ t, (stK R k t = 0 ∧ lastK R k t = 0) ∨ (stK R k t = 1 ∧ 1 ≤ lastK R k t ∧ lastK R k t ≤ 3) ∨ (stK R k t = 2 ∧ 4 ≤ lastK R k t)
  | 0, _, t => .inl ⟨rfl, rfl⟩
  | k + 1, h, t => by
    have h0 := hiF_less h (Nat.le_succ k)
    have ih := st_last h0 t
    have hz : hpF (R k) (lastK R k (R k).t) = 0 := by
      have h1 := h
      simp only [hiF] at h1
      rw [if_neg (by simp [h0])] at h1
      exact h1
    obtain ⟨g1, g2, g3⟩ := hpF_zero hz
    simp only [stK, lastK]
    by_cases e : (R k).t = t
    · rw [if_pos e, if_pos e]
      rw [e] at g3
      simp only [hpIn, Bool.and_eq_true, inB_iff] at g1
      unfold mayF at g3
      by_cases e1 : (R k).k = 1
      · rw [if_neg (by omega), if_pos e1]; right; left; omega
      · rw [if_neg e1] at g3
        have g4 := inB_iff.1 g3
        by_cases e2 : (R k).k = 4 ∨ (R k).k = 5
        · rw [if_pos e2]; right; right; omega
        · rw [if_neg e2, if_neg e1]; right; left
          rcases ih with ⟨_, i2⟩ | ⟨i1, i2⟩ | ⟨_, i2⟩
          · omega
          · exact ⟨i1, by omega⟩
          · omega
    · rw [if_neg e, if_neg e]; exact ih
/-- The model's question, by the program's. -/
theorem may_st {R : Nat → Hp} {k : Nat} (h : hiF R k = 0) (kd t : Int) : (mayF kd (lastK R k t) = false) ↔ ((kd = 1 ∧ stK R k t ≠ 0) ∨ (kd ≠ 1 ∧ stK R k t ≠ 1)) := by
  unfold mayF
  rcases st_last h t with ⟨a, b⟩ | ⟨a, b, c⟩ | ⟨a, b⟩ <;> by_cases e : kd = 1 <;> simp [e, a, inB] <;> omega
/-! ### the program's small tests -/
theorem boolor (b : Bool) : b = true ∨ b = false := by cases b <;> simp
set_option maxHeartbeats 2000000 in
theorem hopInBounds_any (h : Hp) (w : World) : Calls Tryd.prog 22 #[.agg #[.int .i64 h.k, .int .i64 h.t, .int .i64 h.y, .int .i64 h.o]] w fun e w' => e = .returned (.bool (hpIn h)) ∧ Below w.heap.size w w' := by
  have HI : Hid (∀ x1 x2 x3 x4 : Bool, inB h.k 1 5 = x1 → inB h.t 2 999 = x2 → inB h.y 0 31 = x3 → inB h.o 0 999 = x4 → hpIn h = (x1 && x2 && x3 && x4)) := fun _ _ _ _ h1 h2 h3 h4 => by rw [hpIn, h1, h2, h3, h4]
  obtain h1 | h1 := boolor (inB h.k 1 5) <;> obtain h2 | h2 := boolor (inB h.t 2 999) <;> obtain h3 | h3 := boolor (inB h.y 0 31) <;> obtain h4 | h4 := boolor (inB h.o 0 999)
  all_goals
    have HE : Hid (hpIn h = _) := HI.out _ _ _ _ h1 h2 h3 h4
    clear HI
    go_enter Tryd.func22, Tryd.ntmps22
    go_wp2_with (first | (go_at_call 27; refine (within_any _ _ _ _).mono ?_; rintro e w' ⟨rfl, rfl⟩) | (go_at_call 28; refine (isKey_any _ _).mono ?_; rintro e w' ⟨rfl, rfl⟩))
    go_ret
    exact ⟨ret_bool (by rw [HE.out]; rfl), below_new _ _⟩
set_option maxHeartbeats 2000000 in
theorem hopHasForm_any (h : Hp) (w : World) : Calls Tryd.prog 23 #[.agg #[.int .i64 h.k, .int .i64 h.t, .int .i64 h.y, .int .i64 h.o]] w fun e w' => e = .returned (.bool (hpFm h)) ∧ Below w.heap.size w w' := by
  obtain ⟨k, t, y, o⟩ := h
  have HI : Hid (∀ x1 x2 x3 x4 : Bool, (k == 2) = x1 → (k == 3) = x2 → (y == 0) = x3 → (o == 0) = x4 → hpFm ⟨k, t, y, o⟩ = if x1 then true else if x2 then x4 else x3 && x4) := fun _ _ _ _ h1 h2 h3 h4 => by
    subst h1 h2 h3 h4; simp only [hpFm, beq_iff_eq]
  dsimp only
  obtain h1 | h1 := boolor (k == 2) <;> obtain h2 | h2 := boolor (k == 3) <;> obtain h3 | h3 := boolor (y == 0) <;> obtain h4 | h4 := boolor (o == 0)
  all_goals
    have HE : Hid (hpFm ⟨k, t, y, o⟩ = _) := HI.out _ _ _ _ h1 h2 h3 h4
    clear HI
    go_enter Tryd.func23, Tryd.ntmps23
    go_wp2_with fail
    go_ret
    exact ⟨ret_bool (by rw [HE.out]; rfl), below_new _ _⟩
theorem mayFollow_any (k l : Int) (w : World) : Calls Tryd.prog 24 #[.int .i64 k, .int .i64 l] w fun e w' => e = .returned (.bool (mayF k l)) ∧ w' = w := by
  have HI : Hid (mayF k l = if (k == 1) = true then (l == 0) else inB l 1 3) := by show mayF k l = _; simp only [mayF, beq_iff_eq]
  obtain h1 | h1 := boolor (k == 1)
  all_goals
    have HE : Hid (mayF k l = _) := HI.out.trans (by rw [h1])
    clear HI
    go_enter Tryd.func24, Tryd.ntmps24
    go_wp2_with (first | (go_at_call 27; refine (within_any _ _ _ _).mono ?_; rintro e w' ⟨rfl, rfl⟩))
    go_ret
    exact ⟨ret_bool (by rw [HE.out]; rfl), rfl⟩
set_option maxHeartbeats 2000000 in
theorem hopFault_any (h : Hp) (l : Int) (w : World) : Calls Tryd.prog 19 #[.agg #[.int .i64 h.k, .int .i64 h.t, .int .i64 h.y, .int .i64 h.o], .int .i64 l] w fun e w' => e = .returned (.int .i64 (hpF h l)) ∧ Below w.heap.size w w' := by
  have HI : Hid (∀ x1 x2 x3 : Bool, hpIn h = x1 → hpFm h = x2 → mayF h.k l = x3 → hpF h l = if x1 = false then 3 else if x2 = false then 1 else if x3 = false then 10 else 0) := fun _ _ _ h1 h2 h3 => by rw [hpF, h1, h2, h3]
  obtain h1 | h1 := boolor (hpIn h) <;> obtain h2 | h2 := boolor (hpFm h) <;> obtain h3 | h3 := boolor (mayF h.k l)
  all_goals
    have HE : Hid (hpF h l = _) := HI.out _ _ _ h1 h2 h3
    clear HI
    go_enter Tryd.func19, Tryd.ntmps19
    have hb0 : Below w.heap.size w (w.alloc (.cells #[.int .i64 h.k, .int .i64 h.t, .int .i64 h.y, .int .i64 h.o] 34)) := below_new _ _
    have BX := Box4.new w (.int .i64 h.k) (.int .i64 h.t) (.int .i64 h.y) (.int .i64 h.o) 34
    go_wp2_with fail
    refine (hopInBounds_any h _).mono ?_
    rintro e w1 ⟨rfl, hb1⟩
    replace BX := BX.below hb1
    have hB := below_then hb0 hb1
    clear hb0 hb1
    obtain ⟨c0, c1, c2, c3⟩ := BX
    go_wp2_with (first | (go_at_call 23; refine (hopHasForm_any h _).mono ?_; rintro e w2 ⟨rfl, hb2⟩; replace hB := below_then hB hb2; replace c0 := cell_below c0 hb2; replace c1 := cell_below c1 hb2; replace c2 := cell_below c2 hb2; replace c3 := cell_below c3 hb2; clear hb2) | (go_at_call 24; refine (mayFollow_any _ _ _).mono ?_; rintro e w3 ⟨rfl, rfl⟩))
    go_ret
    exact ⟨ret_int (by rw [HE.out]; rfl), hB⟩
/-! ### what a transaction did, by the model -/
theorem ste_eq {R : Nat → Hp} {k : Nat} {t : Int} (e : (R k).t = t) (h : (R k).k = 4 ∨ (R k).k = 5) : stK R (k + 1) t = 2 := by simp only [stK]; rw [if_pos e, if_pos h]
set_option maxHeartbeats 2000000 in
theorem l10State_some (n : Nat) (R : Nat → Hp) (b off cap : Nat) (t : Int) (w : World) (hn : n ≤ 1048576) (hbl : b < w.heap.size) (hc : ∀ i, i < n → CH w b (off + i * 4) (R i)) :
    Calls Tryd.prog 18 #[.slice (some ⟨b, off, none⟩) n cap, .int .i64 t] w fun e w' => e = .returned (.int .i64 (stK R n t)) ∧ w' = w := by
  have HC : Hid (∀ i, i < n → CH w b (off + i * 4) (R i)) := hc
  clear hc
  go_enter Tryd.func18, Tryd.ntmps18
  go_wp2_with fail
  go_loop [5, 6] (fun s i => ∃ k : Nat, k ≤ n ∧ i = .int .i64 k ∧ s = .int .i64 (stK R k t)) (fun _ i => n - (intOf i).toNat)
  case atStart => exact ⟨0, Nat.zero_le _, rfl, rfl⟩
  case round =>
    obtain ⟨k, hk0, rfl, rfl⟩ := hrel
    by_cases hlt : k < n
    · obtain ⟨x0, x1, x2, x3⟩ := HC.out k hlt
      have hlt' : (k : Int) < (n : Int) := by omega
      have hk1 : (0 : Int) ≤ (k : Int) := by omega
      have HS : Hid (∀ y1 y2 y3 y4 : Bool, ((R k).t != t) = y1 → ((R k).k == 1) = y2 → ((R k).k == 4) = y3 → ((R k).k == 5) = y4 → stK R (k + 1) t = if y1 then stK R k t else if y3 || y4 then 2 else if y2 then 1 else stK R k t) := fun _ _ _ _ h1 h2 h3 h4 => by
        subst h1 h2 h3 h4
        simp only [stK]
        by_cases e1 : (R k).t = t <;> by_cases e2 : (R k).k = 1 <;> by_cases e3 : (R k).k = 4 <;> by_cases e4 : (R k).k = 5 <;> simp [e1, e2, e3, e4]
      obtain h1 | h1 := boolor ((R k).t != t)
      · have HE : Hid (stK R (k + 1) t = stK R k t) := (HS.out _ _ _ _ h1 rfl rfl rfl).trans (by simp)
        clear HS
        generalize hsv : stK R k t = sv at *
        go_wp2_with fail
        go_round
        case rel => exact ⟨k + 1, hlt, by go_num, by rw [HE.out]⟩
        case measure => simp [intOf]; omega
      · obtain h2 | h2 := boolor ((R k).k == 1) <;> obtain h3 | h3 := boolor ((R k).k == 4) <;> obtain h4 | h4 := boolor ((R k).k == 5)
        all_goals
          have HE : Hid (stK R (k + 1) t = _) := (HS.out _ _ _ _ h1 h2 h3 h4)
          clear HS
          generalize hsv : stK R k t = sv at *
          generalize hsu : stK R (k + 1) t = su at *
          go_wp2_with fail
          go_round
          case rel => exact ⟨k + 1, hlt, by go_num, by rw [hsu, HE.out]; rfl⟩
          case measure => simp [intOf]; omega
    · have hkn : k = n := by omega
      have hnl : ¬ ((k : Int) < (n : Int)) := by omega
      have HE : Hid (stK R k t = stK R n t) := by rw [hkn]; rfl
      go_wp2_with fail
      go_ret
      exact ⟨rfl, rfl⟩
end Go.Proofs.YtdgginfagbmooaaDoor
