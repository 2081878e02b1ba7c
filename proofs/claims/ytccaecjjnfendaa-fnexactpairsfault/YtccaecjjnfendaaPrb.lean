/- PairsFault: its model; pairs held against each other; both PairsFaults. -/
import Derived.Test.YtccaecjjnfendaaPra
import Derived.Deep.RegionLaw
namespace Go.Proofs.Ytccaecjjnfendaa
open Go.RowKit Go.Deep
set_option linter.unusedVariables false
set_option maxRecDepth 20000

/-- Does the pair (v, k) stand ahead of (v', k')? -/
def bhd (v k v' k' : Int) : Bool := if v = v' then decide (k < k') else decide (v < v')
/-- cmp.Compare of two numbers, and of two pairs. -/
def cpi (a b : Int) : Int := if a < b then -1 else if b < a then 1 else 0
def cpp (v k v' k' : Int) : Int := if cpi v v' = 0 then cpi k k' else cpi v v'
theorem cpp_bhd (v k v' k' : Int) : decide (0 ≤ cpp v k v' k') = !bhd v k v' k' := by
  unfold cpp bhd cpi
  by_cases h1 : v < v'
  · have h2 : v ≠ v' := by omega
    simp [h1, h2]
  · by_cases h2 : v' < v
    · have h3 : v ≠ v' := by omega
      simp [h1, h2, h3]
    · have h3 : v = v' := by omega
      subst h3
      by_cases h4 : k < k'
      · simp [h4]
      · by_cases h5 : k' < k
        · simp [h4, h5]
        · simp [h4, h5]
/-- The first fault of pairs (K: values, V: keys) from the i-th on, m of them. -/
def prF (K V : Nat → Int) : Nat → Nat → Int
  | 0, _ => 0
  | m + 1, i => if inB (K i) 0 9999 = false ∨ inB (V i) 0 31 = false then 3 else if 0 < i ∧ bhd (K (i - 1)) (V (i - 1)) (K i) (V i) = false then 1 else prF K V m (i + 1)
def prC (n : Nat) (K V : Nat → Int) : Int := if 400 < n then 2 else prF K V n 0
theorem prF_at {K V : Nat → Int} {n k : Nat} (h : k < n) : prF K V (n - k) k = if inB (K k) 0 9999 = false ∨ inB (V k) 0 31 = false then 3 else if 0 < k ∧ bhd (K (k - 1)) (V (k - 1)) (K k) (V k) = false then 1 else prF K V (n - (k + 1)) (k + 1) := by
  obtain ⟨m, hm⟩ : ∃ m, n - k = m + 1 := ⟨n - k - 1, by omega⟩
  rw [hm, prF, show n - (k + 1) = m by omega]

theorem l8Behind_any (v k v' k' : Int) (w : World) : Calls Try.prog 11 #[.agg #[.int .i64 v, .int .i64 k], .agg #[.int .i64 v', .int .i64 k']] w fun e w' => e = .returned (.bool (bhd v k v' k')) ∧ Below w.heap.size w w' := by
  by_cases h : v = v'
  · have he : bhd v k v' k' = decide (k < k') := if_pos h
    rw [he]
    go_enter Try.func11, Try.ntmps11
    go_wp2
    go_ret
    exact ⟨rfl, ((Below.refl _ _).alloc (Nat.le_refl _) _).alloc (by simp) _⟩
  · have he : bhd v k v' k' = decide (v < v') := if_neg h
    rw [he]
    go_enter Try.func11, Try.ntmps11
    go_wp2
    go_ret
    exact ⟨rfl, ((Below.refl _ _).alloc (Nat.le_refl _) _).alloc (by simp) _⟩
theorem isNaN_any (a : Int) (w : World) : Calls Try.prog 22 #[.int .i64 a] w fun e w' => e = .returned (.bool false) ∧ w' = w := by
  go_enter Try.func22, Try.ntmps22
  go_wp2
  go_ret
  exact ⟨by simp, rfl⟩
theorem compare_any (a b : Int) (w : World) : Calls Try.prog 20 #[.int .i64 a, .int .i64 b] w fun e w' => e = .returned (.int .i64 (cpi a b)) ∧ w' = w := by
  by_cases h1 : a < b
  · have he : cpi a b = -1 := if_pos h1
    rw [he]
    go_enter Try.func20, Try.ntmps20
    go_wp2_with (go_at_call 22; refine (isNaN_any _ _).mono ?_; rintro e w' ⟨rfl, rfl⟩)
    go_ret
    exact ⟨rfl, rfl⟩
  · by_cases h2 : b < a
    · have he : cpi a b = 1 := (if_neg h1).trans (if_pos h2)
      rw [he]
      go_enter Try.func20, Try.ntmps20
      go_wp2_with (go_at_call 22; refine (isNaN_any _ _).mono ?_; rintro e w' ⟨rfl, rfl⟩)
      go_ret
      exact ⟨rfl, rfl⟩
    · have he : cpi a b = 0 := (if_neg h1).trans (if_neg h2)
      rw [he]
      go_enter Try.func20, Try.ntmps20
      go_wp2_with (go_at_call 22; refine (isNaN_any _ _).mono ?_; rintro e w' ⟨rfl, rfl⟩)
      go_ret
      exact ⟨rfl, rfl⟩
set_option maxHeartbeats 1000000 in
theorem or_two (a b : Int) (g c : Nat) (w : World) (h0 : w.cell? ⟨g, 0, none⟩ = some (.int .i64 a)) (h1 : w.cell? ⟨g, 1, none⟩ = some (.int .i64 b)) :
    Calls Try.prog 19 #[.slice (some ⟨g, 0, none⟩) 2 c] w fun e w' => e = .returned (.int .i64 (if a = 0 then b else a)) ∧ w' = w := by
  go_enter Try.func19, Try.ntmps19
  go_wp2
  go_loop [5, 8] (fun _ i => i = .int .i64 0 ∨ i = .int .i64 1 ∧ a = 0 ∨ i = .int .i64 2 ∧ a = 0 ∧ b = 0) (fun _ i => 2 - (intOf i).toNat)
  case atStart => exact .inl rfl
  case round =>
    rcases hrel with rfl | ⟨rfl, ha⟩ | ⟨rfl, ha, hb⟩
    · by_cases ha : a = 0
      · go_wp2
        go_round
        case rel => exact .inr (.inl ⟨rfl, ha⟩)
        case measure => simp [intOf]
      · have hna : (a != 0) = true := by simpa using ha
        go_wp2
        go_ret
        first | exact ⟨rfl, rfl⟩ | exact ⟨ret_int (by rw [if_neg ha]), rfl⟩
    · by_cases hb : b = 0
      · go_wp2
        go_round
        case rel => exact .inr (.inr ⟨rfl, ha, hb⟩)
        case measure => simp [intOf]
      · have hnb : (b != 0) = true := by simpa using hb
        go_wp2
        go_ret
        first | exact ⟨rfl, rfl⟩ | exact ⟨ret_int (by rw [if_pos ha]), rfl⟩
    · go_wp2
      go_ret
      first | exact ⟨rfl, rfl⟩ | exact ⟨ret_int (by rw [if_pos ha, hb]), rfl⟩
theorem isPair_any (v k : Int) (w : World) : Calls Try.prog 13 #[.agg #[.int .i64 v, .int .i64 k]] w fun e w' => e = .returned (.bool (inB v 0 9999 && inB k 0 31)) ∧ Below w.heap.size w w' := by
  cases hv : inB v 0 9999
  · go_enter Try.func13, Try.ntmps13
    go_wp2_with (first | (go_at_call 17; refine (isValue_any _ _).mono ?_; rintro e w' ⟨rfl, rfl⟩; rw [hv]) | (go_at_call 18; refine (isKey_any _ _).mono ?_; rintro e w' ⟨rfl, rfl⟩))
    go_ret
    exact ⟨rfl, (Below.refl _ _).alloc (Nat.le_refl _) _⟩
  · go_enter Try.func13, Try.ntmps13
    go_wp2_with (first | (go_at_call 17; refine (isValue_any _ _).mono ?_; rintro e w' ⟨rfl, rfl⟩; rw [hv]) | (go_at_call 18; refine (isKey_any _ _).mono ?_; rintro e w' ⟨rfl, rfl⟩))
    go_ret
    exact ⟨by simp, (Below.refl _ _).alloc (Nat.le_refl _) _⟩
set_option maxHeartbeats 2000000 in
theorem comparePairs_any (v k v' k' : Int) (w : World) : Calls Try.prog 14 #[.agg #[.int .i64 v, .int .i64 k], .agg #[.int .i64 v', .int .i64 k']] w fun e w' => e = .returned (.int .i64 (cpp v k v' k')) ∧ Below w.heap.size w w' := by
  have he : cpp v k v' k' = if cpi v v' = 0 then cpi k k' else cpi v v' := rfl
  have HE : Hid (cpp v k v' k' = if cpi v v' = 0 then cpi k k' else cpi v v') := he
  clear he
  go_enter Try.func14, Try.ntmps14
  go_wp2_with fail
  obtain ⟨W, hW⟩ : ∃ y, y = (w.alloc (.cells #[.int .i64 v, .int .i64 k] 31)).alloc (.cells #[.int .i64 v', .int .i64 k'] 31) := ⟨_, rfl⟩
  have c0 : W.cell? ⟨w.heap.size, 0, none⟩ = some (.int .i64 v) := by rw [hW]; simp [go_sem]
  have c1 : W.cell? ⟨w.heap.size, 1, none⟩ = some (.int .i64 k) := by rw [hW]; simp [go_sem]
  have c2 : W.cell? ⟨w.heap.size + 1, 0, none⟩ = some (.int .i64 v') := by rw [hW]; simp [go_sem]
  have c3 : W.cell? ⟨w.heap.size + 1, 1, none⟩ = some (.int .i64 k') := by rw [hW]; simp [go_sem]
  have HB : Hid (Below w.heap.size w W) := by rw [hW]; exact ((Below.refl _ _).alloc (Nat.le_refl _) _).alloc (by simp) _
  rw [← hW]
  clear hW
  generalize w.heap.size + 1 = B at *
  go_region_held3 (fun w' => w'.cell? ⟨w.heap.size, 0, none⟩ = some (.int .i64 v) ∧ w'.cell? ⟨w.heap.size, 1, none⟩ = some (.int .i64 k) ∧ w'.cell? ⟨B, 0, none⟩ = some (.int .i64 v') ∧ w'.cell? ⟨B, 1, none⟩ = some (.int .i64 k')) (go_keep)
    (first | (go_at_call 20; refine (compare_any _ _ _).mono ?_; rintro e w' ⟨rfl, rfl⟩) | (go_at_call 19; refine (or_two (cpi v v') (cpi k k') _ _ _ (by simp [go_sem]) (by simp [go_sem])).mono ?_; rintro e w' ⟨rfl, rfl⟩; rw [← HE.out]))
  go_wp2_with fail
  go_ret
  exact ⟨rfl, by have hs := HB.out.size; repeat (first | with_reducible exact HB.out | with_reducible apply Below.drew | with_reducible refine Below.alloc ?_ (by first | omega | (simp <;> omega)) _)⟩
end Go.Proofs.Ytccaecjjnfendaa
