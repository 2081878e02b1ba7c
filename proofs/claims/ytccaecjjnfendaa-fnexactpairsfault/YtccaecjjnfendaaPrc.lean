/- Both PairsFaults. -/
import Derived.Test.YtccaecjjnfendaaPrb
namespace Go.Proofs.Ytccaecjjnfendaa
open Go.RowKit Go.Deep
set_option linter.unusedVariables false
set_option maxRecDepth 20000

theorem any_skipP {P : Program} {md : Region.Mode} {ops : Array Oper} {Q : Exit → Act → World → Prop} {fuel : Nat} {listed : Array Bool} {a : Act} {w : World} (i : Nat) (d : Option Tmp) (hd : (ops[i]?).map (fun o => o.dst) = some d)
    (hs : Region.noSelect ops = true) (hf : Region.free md ops listed i = true) (hr : (Region.ready md ops listed).contains i = true)
    (hw : (ops[i]?).map (fun o => Region.wanted o (yielded ops a.tmps)) = some false) (hQ : ∀ c a w, Q (.panic c) (a.put d undef) w → Q (.panic c) a w)
    (h : wpAny P md ops Q fuel (listed.setIfInBounds i true) (a.put d undef) w) : wpAny P md ops Q (fuel + 1) listed a w := by
  obtain ⟨o, ho, rfl⟩ := Option.map_eq_some_iff.1 hd
  obtain ⟨o', ho', hw'⟩ := Option.map_eq_some_iff.1 hw
  obtain rfl : o = o' := by rw [ho] at ho'; exact Option.some.inj ho'
  exact wpAny_take ho hs hf hr hQ (.inr ⟨hw', rfl⟩) h

set_option maxHeartbeats 8000000 in
theorem specPrf_some (n : Nat) (K V : Nat → Int) (b off cap : Nat) (w : World) (hn : n ≤ 400) (hbl : b < w.heap.size) (hk : ∀ i, i < n → w.cell? ⟨b, off + i * 2, none⟩ = some (.int .i64 (K i))) (hv0 : ∀ i, i < n → w.cell? ⟨b, off + i * 2 + 1, none⟩ = some (.int .i64 (V i))) :
    Calls Try.prog 5 #[.slice (some ⟨b, off, none⟩) n cap] w fun e w' => e = .returned (.int .i64 (prF K V n 0)) ∧ Below w.heap.size w w' := by
  have HK : Hid (∀ i, i < n → w.cell? ⟨b, off + i * 2, none⟩ = some (.int .i64 (K i))) := hk
  have HV : Hid (∀ i, i < n → w.cell? ⟨b, off + i * 2 + 1, none⟩ = some (.int .i64 (V i))) := hv0
  have hn' : ¬ ((400 : Int) < (n : Int)) := by omega
  clear hk hv0
  go_enter Try.func5, Try.ntmps5
  go_wp2_with fail
  go_loopw [3] (fun i wr => ∃ k : Nat, k ≤ n ∧ i = .int .i64 k ∧ Hid (prF K V n 0 = prF K V (n - k) k) ∧ Hid (Below w.heap.size w wr)) (fun i _ => n - (intOf i).toNat)
  case atStart => exact ⟨0, Nat.zero_le _, rfl, rfl, Below.refl _ _⟩
  case round =>
    obtain ⟨k, hk0, rfl, HE, HB⟩ := hrel
    by_cases hlt : k < n
    · have hbw : b < wr.heap.size := Nat.lt_of_lt_of_le hbl HB.out.size
      have h1 : wr.cell? ⟨b, off + k * 2, none⟩ = some (.int .i64 (K k)) := (HB.out.cell (p := ⟨b, _, none⟩) hbl).trans (HK.out k hlt)
      have h2 : wr.cell? ⟨b, off + k * 2 + 1, none⟩ = some (.int .i64 (V k)) := (HB.out.cell (p := ⟨b, _, none⟩) hbl).trans (HV.out k hlt)
      have HA : Hid (prF K V n 0 = _) := HE.out.trans (prF_at hlt)
      have hlt' : (k : Int) < (n : Int) := by omega
      cases hv : inB (K k) 0 9999
      · have HR : Hid (prF K V n 0 = 3) := HA.out.trans (if_pos (.inl hv))
        clear HA HE
        have hkk : inB (V k) 0 31 = inB (V k) 0 31 := rfl
        go_wp2_with (first | (go_at_call 9; refine (l1Value_any _ _).mono ?_; rintro e w' ⟨rfl, hw⟩; have hw1 := hw.symm; clear hw; subst hw1; rw [hv]) | (go_at_call 10; refine (l1Key_any _ _).mono ?_; rintro e w' ⟨rfl, hw⟩; have hw1 := hw.symm; clear hw; subst hw1) | fail)
        go_ret
        exact ⟨ret_int HR.out.symm, HB.out⟩
      cases hkk : inB (V k) 0 31
      · have HR : Hid (prF K V n 0 = 3) := HA.out.trans (if_pos (.inr hkk))
        clear HA HE
        go_wp2_with (first | (go_at_call 9; refine (l1Value_any _ _).mono ?_; rintro e w' ⟨rfl, hw⟩; have hw1 := hw.symm; clear hw; subst hw1; rw [hv]) | (go_at_call 10; refine (l1Key_any _ _).mono ?_; rintro e w' ⟨rfl, hw⟩; have hw1 := hw.symm; clear hw; subst hw1; rw [hkk]) | fail)
        go_ret
        exact ⟨ret_int HR.out.symm, HB.out⟩
      have HA2 : Hid (prF K V n 0 = _) := HA.out.trans (if_neg (by simp [hv, hkk]))
      clear HA HE
      rcases Nat.eq_zero_or_pos k with hk9 | hpos
      · subst hk9
        have HE : Hid (prF K V n 0 = prF K V (n - (0 + 1)) (0 + 1)) := HA2.out.trans (if_neg (by simp))
        clear HA2
        simp only [Nat.zero_mul, Nat.add_zero] at h1 h2
        go_wp2_with (first | (go_at_call 9; refine (l1Value_any _ _).mono ?_; rintro e w' ⟨rfl, hw⟩; have hw1 := hw.symm; clear hw; subst hw1; rw [hv]) | (go_at_call 10; refine (l1Key_any _ _).mono ?_; rintro e w' ⟨rfl, hw⟩; have hw1 := hw.symm; clear hw; subst hw1; rw [hkk]) | fail)
        refine wp_region_any (by kernel_rfl) ?_
        change wpAny _ _ _ _ _ _ _ (World.drew _)
        refine wpAny_take (i := 0) (v := .int .i64 0) rfl (by kernel_rfl) (by kernel_rfl) (by kernel_rfl) (fun _ _ _ h => h) (Or.inl ⟨by kernel_rfl, by intro w; go_simp⟩) ?_
        refine wpAny_take (i := 1) (v := .bool false) rfl (by kernel_rfl) (by kernel_rfl) (by kernel_rfl) (fun _ _ _ h => h) (Or.inl ⟨by kernel_rfl, by intro w; go_simp⟩) ?_
        refine wpAny_take (i := 2) (v := .bool false) rfl (by kernel_rfl) (by kernel_rfl) (by kernel_rfl) (fun _ _ _ h => h) (Or.inl ⟨by kernel_rfl, by intro w; go_simp⟩) ?_
        refine any_skipP 3 (some 32) (by kernel_rfl) (by kernel_rfl) (by kernel_rfl) (by kernel_rfl) (by kernel_rfl) (fun _ _ _ h => h) ?_
        refine any_skipP 4 (some 33) (by kernel_rfl) (by kernel_rfl) (by kernel_rfl) (by kernel_rfl) (by kernel_rfl) (fun _ _ _ h => h) ?_
        refine any_skipP 5 (some 34) (by kernel_rfl) (by kernel_rfl) (by kernel_rfl) (by kernel_rfl) (by kernel_rfl) (fun _ _ _ h => h) ?_
        refine any_skipP 6 (some 35) (by kernel_rfl) (by kernel_rfl) (by kernel_rfl) (by kernel_rfl) (by kernel_rfl) (fun _ _ _ h => h) ?_
        refine any_skipP 7 (some 36) (by kernel_rfl) (by kernel_rfl) (by kernel_rfl) (by kernel_rfl) (by kernel_rfl) (fun _ _ _ h => h) ?_
        refine any_skipP 8 (some 37) (by kernel_rfl) (by kernel_rfl) (by kernel_rfl) (by kernel_rfl) (by kernel_rfl) (fun _ _ _ h => h) ?_
        refine any_skipP 9 (some 38) (by kernel_rfl) (by kernel_rfl) (by kernel_rfl) (by kernel_rfl) (by kernel_rfl) (fun _ _ _ h => h) ?_
        refine any_skipP 10 (some 39) (by kernel_rfl) (by kernel_rfl) (by kernel_rfl) (by kernel_rfl) (by kernel_rfl) (fun _ _ _ h => h) ?_
        refine any_skipP 11 (some 40) (by kernel_rfl) (by kernel_rfl) (by kernel_rfl) (by kernel_rfl) (by kernel_rfl) (fun _ _ _ h => h) ?_
        refine any_skipP 12 (some 41) (by kernel_rfl) (by kernel_rfl) (by kernel_rfl) (by kernel_rfl) (by kernel_rfl) (fun _ _ _ h => h) ?_
        refine any_skipP 13 (some 42) (by kernel_rfl) (by kernel_rfl) (by kernel_rfl) (by kernel_rfl) (by kernel_rfl) (fun _ _ _ h => h) ?_
        refine wpAny_take (i := 14) (v := .bool false) rfl (by kernel_rfl) (by kernel_rfl) (by kernel_rfl) (fun _ _ _ h => h) (Or.inl ⟨by kernel_rfl, by intro w; go_simp⟩) ?_
        refine wpAny_done (by kernel_rfl) ?_ _
        go_simp
        go_wp2_with fail
        go_roundw
        case rel => exact ⟨1, hlt, rfl, HE, (HB.out).drew⟩
        case measure => simp [intOf]; omega
      · obtain ⟨j, rfl⟩ : ∃ j, k = j + 1 := ⟨k - 1, by omega⟩
        have h3 : wr.cell? ⟨b, off + j * 2, none⟩ = some (.int .i64 (K j)) := (HB.out.cell (p := ⟨b, _, none⟩) hbl).trans (HK.out j (by omega))
        have h4 : wr.cell? ⟨b, off + j * 2 + 1, none⟩ = some (.int .i64 (V j)) := (HB.out.cell (p := ⟨b, _, none⟩) hbl).trans (HV.out j (by omega))
        have hj1 : (j : Int) < (n : Int) := by omega
        have hj2 : (0 : Int) ≤ (j : Int) := by omega
        have hj3 : (0 : Int) < (j : Int) + 1 := by omega
        have hj4 : (j : Int) + 1 < (n : Int) := by omega
        have hj5 : (0 : Int) ≤ (j : Int) + 1 := by omega
        have hwj : IntKind.i64.wrap (j : Int) = (j : Int) := by rw [IntKind.wrap_i64]; omega
        have hwj1 : IntKind.i64.wrap ((j : Int) + 1) = (j : Int) + 1 := by rw [IntKind.wrap_i64]; omega
        have hd : decide ((0 : Int) < (j : Int) + 1) = true := decide_eq_true hj3
        go_wp2_with (first | (go_at_call 9; refine (l1Value_any _ _).mono ?_; rintro e w' ⟨rfl, hw⟩; have hw1 := hw.symm; clear hw; subst hw1; rw [hv]) | (go_at_call 10; refine (l1Key_any _ _).mono ?_; rintro e w' ⟨rfl, hw⟩; have hw1 := hw.symm; clear hw; subst hw1; rw [hkk]) | fail)
        clear hv hkk
        have hb0 : Below wr.heap.size wr wr.drew := (Below.refl _ _).drew
        cases hq : bhd (K j) (V j) (K (j + 1)) (V (j + 1))
        all_goals
          go_region_held3 (fun w' => Below wr.heap.size wr w' ∧ w'.cell? ⟨b, off + j * 2, none⟩ = some (.int .i64 (K j)) ∧ w'.cell? ⟨b, off + j * 2 + 1, none⟩ = some (.int .i64 (V j)) ∧ w'.cell? ⟨b, off + (j + 1) * 2, none⟩ = some (.int .i64 (K (j + 1))) ∧ w'.cell? ⟨b, off + (j + 1) * 2 + 1, none⟩ = some (.int .i64 (V (j + 1)))) (go_keep)
            (first | (go_at_call 11; refine (l8Behind_any (K j) (V j) (K (j + 1)) (V (j + 1)) _).mono ?_; rintro e wq ⟨rfl, hbq⟩; rw [hq]; have hU := below_then (w := wr) (by simp [*]) hbq; have hU0 := cell_below (B := b) (o := off + j * 2) (v := .int .i64 (K j)) (by simp [*]) hbq; have hU1 := cell_below (B := b) (o := off + j * 2 + 1) (v := .int .i64 (V j)) (by simp [*]) hbq; have hU2 := cell_below (B := b) (o := off + (j + 1) * 2) (v := .int .i64 (K (j + 1))) (by simp [*]) hbq; have hU3 := cell_below (B := b) (o := off + (j + 1) * 2 + 1) (v := .int .i64 (V (j + 1))) (by simp [*]) hbq))
          go_wp2_with fail
        · have HR : Hid (prF K V n 0 = 1) := HA2.out.trans (if_pos ⟨by omega, hq⟩)
          clear HA2
          go_ret
          exact ⟨ret_int HR.out.symm, below_then HB.out (by assumption)⟩
        · have HE : Hid (prF K V n 0 = prF K V (n - (j + 1 + 1)) (j + 1 + 1)) := HA2.out.trans (if_neg (by simp [hq]))
          clear HA2
          go_roundw
          case rel => exact ⟨j + 1 + 1, hlt, by go_num, HE, below_then HB.out (by assumption)⟩
          case measure => simp [intOf]; omega
    · have hkn : k = n := by omega
      subst hkn
      have HZ : Hid (prF K V k 0 = 0) := by have := HE.out; rw [Nat.sub_self] at this; exact this
      clear HE
      go_wp2_with fail
      go_ret
      exact ⟨ret_int HZ.out.symm, HB.out⟩
theorem specPrf_zero (K V : Nat → Int) (a : Option Addr) (cap : Nat) (w : World) :
    Calls Try.prog 5 #[.slice a 0 cap] w fun e w' => e = .returned (.int .i64 (prF K V 0 0)) ∧ Below w.heap.size w w' := by
  go_enter Try.func5, Try.ntmps5
  go_wp2_with fail
  go_loop [3] (fun i => i = .int .i64 0) (fun _ => 0)
  case atStart => exact rfl
  case round =>
    obtain rfl := hrel
    go_wp2_with fail
    go_ret
    exact ⟨rfl, Below.refl _ _⟩
theorem specPrf_any (n : Nat) (K V : Nat → Int) (a : Option Addr) (cap : Nat) (w : World) (hn0 : n ≤ 1048576) (h : CellsAt w a n K V) :
    Calls Try.prog 5 #[.slice a n cap] w fun e w' => e = .returned (.int .i64 (prC n K V)) ∧ Below w.heap.size w w' := by
  by_cases hn : n ≤ 400
  · have he : prC n K V = prF K V n 0 := if_neg (by omega)
    rw [he]
    rcases h with rfl | ⟨b, off, rfl, hl, hk, hv⟩
    · exact specPrf_zero K V a cap w
    · exact specPrf_some n K V b off cap w hn hl hk hv
  · have he : prC n K V = 2 := if_pos (by omega)
    have hgt : (400 : Int) < (n : Int) := by omega
    rw [he]
    go_enter Try.func5, Try.ntmps5
    go_wp2_with fail
    go_ret
    exact ⟨rfl, Below.refl _ _⟩
set_option maxHeartbeats 8000000 in
theorem implPrf_some (n : Nat) (K V : Nat → Int) (b off cap : Nat) (w : World) (hn : n ≤ 400) (hbl : b < w.heap.size) (hk : ∀ i, i < n → w.cell? ⟨b, off + i * 2, none⟩ = some (.int .i64 (K i))) (hv0 : ∀ i, i < n → w.cell? ⟨b, off + i * 2 + 1, none⟩ = some (.int .i64 (V i))) :
    Calls Try.prog 7 #[.slice (some ⟨b, off, none⟩) n cap] w fun e w' => e = .returned (.int .i64 (prF K V n 0)) ∧ Below w.heap.size w w' := by
  have HK : Hid (∀ i, i < n → w.cell? ⟨b, off + i * 2, none⟩ = some (.int .i64 (K i))) := hk
  have HV : Hid (∀ i, i < n → w.cell? ⟨b, off + i * 2 + 1, none⟩ = some (.int .i64 (V i))) := hv0
  have hn' : ¬ ((400 : Int) < (n : Int)) := by omega
  clear hk hv0
  go_enter Try.func7, Try.ntmps7
  go_wp2_with fail
  go_loopw [3, 4, 10] (fun p q i wr => ∃ k : Nat, k ≤ n ∧ i = .int .i64 k ∧ Hid (prF K V n 0 = prF K V (n - k) k) ∧ Hid (Below w.heap.size w wr)) (fun p q i _ => n - (intOf i).toNat)
  case atStart => exact ⟨0, Nat.zero_le _, rfl, rfl, Below.refl _ _⟩
  case round =>
    obtain ⟨k, hk0, rfl, HE, HB⟩ := hrel
    by_cases hlt : k < n
    · have hbw : b < wr.heap.size := Nat.lt_of_lt_of_le hbl HB.out.size
      have h1 : wr.cell? ⟨b, off + k * 2, none⟩ = some (.int .i64 (K k)) := (HB.out.cell (p := ⟨b, _, none⟩) hbl).trans (HK.out k hlt)
      have h2 : wr.cell? ⟨b, off + k * 2 + 1, none⟩ = some (.int .i64 (V k)) := (HB.out.cell (p := ⟨b, _, none⟩) hbl).trans (HV.out k hlt)
      have HA : Hid (prF K V n 0 = _) := HE.out.trans (prF_at hlt)
      have hlt' : (k : Int) < (n : Int) := by omega
      cases hp : (inB (K k) 0 9999 && inB (V k) 0 31)
      · have HR : Hid (prF K V n 0 = 3) := HA.out.trans (if_pos (by cases h9 : inB (K k) 0 9999 <;> simp_all))
        clear HA HE
        go_wp2_with (go_at_call 13; refine (isPair_any _ _ _).mono ?_; rintro e wq ⟨rfl, hbq⟩; rw [hp]; have HBQ : Hid (Below w.heap.size w wq) := below_then (below_then HB.out (below_new _ _)) hbq; have g0 : wq.cell? ⟨wr.heap.size, 0, none⟩ = some (.int .i64 (K k)) := cell_below (by simp [go_sem]) hbq; have g1 : wq.cell? ⟨wr.heap.size, 1, none⟩ = some (.int .i64 (V k)) := cell_below (by simp [go_sem]) hbq; clear hbq h1 h2)
        go_ret
        exact ⟨ret_int HR.out.symm, HBQ.out⟩
      have HA2 : Hid (prF K V n 0 = _) := HA.out.trans (if_neg (by simp only [Bool.and_eq_true] at hp; simp [hp.1, hp.2]))
      clear HA HE
      rcases Nat.eq_zero_or_pos k with hk9 | hpos
      · subst hk9
        have HE : Hid (prF K V n 0 = prF K V (n - (0 + 1)) (0 + 1)) := HA2.out.trans (if_neg (by simp))
        clear HA2
        simp only [Nat.zero_mul, Nat.add_zero] at h1 h2
        go_wp2_with (go_at_call 13; refine (isPair_any _ _ _).mono ?_; rintro e wq ⟨rfl, hbq⟩; rw [hp]; have HBQ : Hid (Below w.heap.size w wq) := below_then (below_then HB.out (below_new _ _)) hbq; have g0 : wq.cell? ⟨wr.heap.size, 0, none⟩ = some (.int .i64 (K 0)) := cell_below (by simp [go_sem]) hbq; have g1 : wq.cell? ⟨wr.heap.size, 1, none⟩ = some (.int .i64 (V 0)) := cell_below (by simp [go_sem]) hbq; clear hbq h1 h2)
        refine wp_region_any (by kernel_rfl) ?_
        change wpAny _ _ _ _ _ _ _ (World.drew _)
        refine wpAny_take (i := 0) (v := .int .i64 0) rfl (by kernel_rfl) (by kernel_rfl) (by kernel_rfl) (fun _ _ _ h => h) (Or.inl ⟨by kernel_rfl, by intro w; go_simp⟩) ?_
        refine wpAny_take (i := 1) (v := .bool false) rfl (by kernel_rfl) (by kernel_rfl) (by kernel_rfl) (fun _ _ _ h => h) (Or.inl ⟨by kernel_rfl, by intro w; go_simp⟩) ?_
        refine wpAny_take (i := 2) (v := .bool false) rfl (by kernel_rfl) (by kernel_rfl) (by kernel_rfl) (fun _ _ _ h => h) (Or.inl ⟨by kernel_rfl, by intro w; go_simp⟩) ?_
        refine any_skipP 3 (some 21) (by kernel_rfl) (by kernel_rfl) (by kernel_rfl) (by kernel_rfl) (by kernel_rfl) (fun _ _ _ h => h) ?_
        refine any_skipP 4 (some 22) (by kernel_rfl) (by kernel_rfl) (by kernel_rfl) (by kernel_rfl) (by kernel_rfl) (fun _ _ _ h => h) ?_
        refine any_skipP 5 (some 23) (by kernel_rfl) (by kernel_rfl) (by kernel_rfl) (by kernel_rfl) (by kernel_rfl) (fun _ _ _ h => h) ?_
        refine any_skipP 6 (some 24) (by kernel_rfl) (by kernel_rfl) (by kernel_rfl) (by kernel_rfl) (by kernel_rfl) (fun _ _ _ h => h) ?_
        refine any_skipP 7 (some 25) (by kernel_rfl) (by kernel_rfl) (by kernel_rfl) (by kernel_rfl) (by kernel_rfl) (fun _ _ _ h => h) ?_
        refine any_skipP 8 (some 26) (by kernel_rfl) (by kernel_rfl) (by kernel_rfl) (by kernel_rfl) (by kernel_rfl) (fun _ _ _ h => h) ?_
        refine any_skipP 9 (some 27) (by kernel_rfl) (by kernel_rfl) (by kernel_rfl) (by kernel_rfl) (by kernel_rfl) (fun _ _ _ h => h) ?_
        refine any_skipP 10 (some 28) (by kernel_rfl) (by kernel_rfl) (by kernel_rfl) (by kernel_rfl) (by kernel_rfl) (fun _ _ _ h => h) ?_
        refine wpAny_take (i := 11) (v := .bool false) rfl (by kernel_rfl) (by kernel_rfl) (by kernel_rfl) (fun _ _ _ h => h) (Or.inl ⟨by kernel_rfl, by intro w; go_simp⟩) ?_
        refine wpAny_done (by kernel_rfl) ?_ _
        go_simp
        go_wp2_with fail
        go_roundw
        case rel => exact ⟨1, hlt, rfl, HE, (HBQ.out).drew⟩
        case measure => simp [intOf]; omega
      · obtain ⟨j, rfl⟩ : ∃ j, k = j + 1 := ⟨k - 1, by omega⟩
        have hj1 : (j : Int) < (n : Int) := by omega
        have hj2 : (0 : Int) ≤ (j : Int) := by omega
        have hj3 : (0 : Int) < (j : Int) + 1 := by omega
        have hj4 : (j : Int) + 1 < (n : Int) := by omega
        have hj5 : (0 : Int) ≤ (j : Int) + 1 := by omega
        have hwj : IntKind.i64.wrap (j : Int) = (j : Int) := by rw [IntKind.wrap_i64]; omega
        have hwj1 : IntKind.i64.wrap ((j : Int) + 1) = (j : Int) + 1 := by rw [IntKind.wrap_i64]; omega
        have hd : decide ((0 : Int) < (j : Int) + 1) = true := decide_eq_true hj3
        go_wp2_with (go_at_call 13; refine (isPair_any _ _ _).mono ?_; rintro e wq ⟨rfl, hbq⟩; rw [hp]; have HBQ : Hid (Below w.heap.size w wq) := below_then (below_then HB.out (below_new _ _)) hbq; have g0 : wq.cell? ⟨wr.heap.size, 0, none⟩ = some (.int .i64 (K (j + 1))) := cell_below (by simp [go_sem]) hbq; have g1 : wq.cell? ⟨wr.heap.size, 1, none⟩ = some (.int .i64 (V (j + 1))) := cell_below (by simp [go_sem]) hbq; clear hbq h1 h2)
        have h3 : wq.cell? ⟨b, off + j * 2, none⟩ = some (.int .i64 (K j)) := (HBQ.out.cell (p := ⟨b, _, none⟩) hbl).trans (HK.out j (by omega))
        have h4 : wq.cell? ⟨b, off + j * 2 + 1, none⟩ = some (.int .i64 (V j)) := (HBQ.out.cell (p := ⟨b, _, none⟩) hbl).trans (HV.out j (by omega))
        clear hp
        have hb0 : Below wq.heap.size wq wq.drew := (Below.refl _ _).drew
        have hcb := cpp_bhd (K j) (V j) (K (j + 1)) (V (j + 1))
        have HCB : Hid (decide (0 ≤ cpp (K j) (V j) (K (j + 1)) (V (j + 1))) = !bhd (K j) (V j) (K (j + 1)) (V (j + 1))) := hcb
        clear hcb
        go_region_held3 (fun w' => Below wq.heap.size wq w' ∧ w'.cell? ⟨b, off + j * 2, none⟩ = some (.int .i64 (K j)) ∧ w'.cell? ⟨b, off + j * 2 + 1, none⟩ = some (.int .i64 (V j)) ∧ w'.cell? ⟨wr.heap.size, 0, none⟩ = some (.int .i64 (K (j + 1))) ∧ w'.cell? ⟨wr.heap.size, 1, none⟩ = some (.int .i64 (V (j + 1)))) (go_keep)
          (first | (go_at_call 14; refine (comparePairs_any (K j) (V j) (K (j + 1)) (V (j + 1)) _).mono ?_; rintro e wp ⟨rfl, hbp⟩; have hU := below_then (w := wq) (by simp [*]) hbp; have hU0 := cell_below (B := b) (o := off + j * 2) (v := .int .i64 (K j)) (by simp [*]) hbp; have hU1 := cell_below (B := b) (o := off + j * 2 + 1) (v := .int .i64 (V j)) (by simp [*]) hbp; have hU2 := cell_below (B := wr.heap.size) (o := 0) (v := .int .i64 (K (j + 1))) (by simp [*]) hbp; have hU3 := cell_below (B := wr.heap.size) (o := 1) (v := .int .i64 (V (j + 1))) (by simp [*]) hbp))
        cases hq : bhd (K j) (V j) (K (j + 1)) (V (j + 1))
        · have hd2 : decide (0 ≤ cpp (K j) (V j) (K (j + 1)) (V (j + 1))) = true := by rw [HCB.out, hq]; rfl
          have hd3 : 0 ≤ cpp (K j) (V j) (K (j + 1)) (V (j + 1)) := of_decide_eq_true hd2
          have HR : Hid (prF K V n 0 = 1) := HA2.out.trans (if_pos ⟨by omega, hq⟩)
          clear HA2
          go_wp2_with fail
          go_ret
          exact ⟨ret_int HR.out.symm, below_then HBQ.out (by assumption)⟩
        · have hd2 : decide (0 ≤ cpp (K j) (V j) (K (j + 1)) (V (j + 1))) = false := by rw [HCB.out, hq]; rfl
          have hd3 : ¬ 0 ≤ cpp (K j) (V j) (K (j + 1)) (V (j + 1)) := of_decide_eq_false hd2
          have HE : Hid (prF K V n 0 = prF K V (n - (j + 1 + 1)) (j + 1 + 1)) := HA2.out.trans (if_neg (by simp [hq]))
          clear HA2
          go_wp2_with fail
          go_roundw
          case rel => exact ⟨j + 1 + 1, hlt, by go_num, HE, below_then HBQ.out (by assumption)⟩
          case measure => simp [intOf]; omega
    · have hkn : k = n := by omega
      subst hkn
      have HZ : Hid (prF K V k 0 = 0) := by have := HE.out; rw [Nat.sub_self] at this; exact this
      clear HE
      go_wp2_with fail
      go_ret
      exact ⟨ret_int HZ.out.symm, HB.out⟩
theorem implPrf_zero (K V : Nat → Int) (a : Option Addr) (cap : Nat) (w : World) :
    Calls Try.prog 7 #[.slice a 0 cap] w fun e w' => e = .returned (.int .i64 (prF K V 0 0)) ∧ Below w.heap.size w w' := by
  go_enter Try.func7, Try.ntmps7
  go_wp2_with fail
  go_loop [3, 4, 10] (fun p q i => i = .int .i64 0) (fun _ _ _ => 0)
  case atStart => exact rfl
  case round =>
    obtain rfl := hrel
    go_wp2_with fail
    go_ret
    exact ⟨rfl, Below.refl _ _⟩
theorem implPrf_any (n : Nat) (K V : Nat → Int) (a : Option Addr) (cap : Nat) (w : World) (hn0 : n ≤ 1048576) (h : CellsAt w a n K V) :
    Calls Try.prog 7 #[.slice a n cap] w fun e w' => e = .returned (.int .i64 (prC n K V)) ∧ Below w.heap.size w w' := by
  by_cases hn : n ≤ 400
  · have he : prC n K V = prF K V n 0 := if_neg (by omega)
    rw [he]
    rcases h with rfl | ⟨b, off, rfl, hl, hk, hv⟩
    · exact implPrf_zero K V a cap w
    · exact implPrf_some n K V b off cap w hn hl hk hv
  · have he : prC n K V = 2 := if_pos (by omega)
    have hgt : (400 : Int) < (n : Int) := by omega
    rw [he]
    go_enter Try.func7, Try.ntmps7
    go_wp2_with fail
    go_ret
    exact ⟨rfl, Below.refl _ _⟩
end Go.Proofs.Ytccaecjjnfendaa
