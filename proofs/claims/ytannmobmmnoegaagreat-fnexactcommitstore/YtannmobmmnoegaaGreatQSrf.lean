/- Rows of records: marked, held; answers that are records. -/
import Derived.Test.YtannmobmmnoegaaGreatQRf
import Derived.Test.YtannmobmmnoegaaGreatQSl3
namespace Go.Proofs.YtannmobmmnoegaaGreat
open Go.RowKit Go.Deep
set_option linter.unusedVariables false
set_option maxRecDepth 20000

set_option maxHeartbeats 2000000 in
theorem specRf_range (k t key : Int) (hd : Bool) (old : Int) (hs : Bool) (nw bk : Int) (w : World) (hr : Hid (¬ rng k t key old nw bk = true)) : Calls Tryz.prog 151 #[.agg #[.int .i64 k, .int .i64 t, .int .i64 key, .bool hd, .int .i64 old, .bool hs, .int .i64 nw, .int .i64 bk]] w fun e w' => e = .returned (.int .i64 (rf k t key hd old hs nw bk)) ∧ Below w.heap.size w w' := by
  by_cases h1 : inB k 1 6 = true
  · by_cases h6 : k = 6
    · have HT : Hid (txb k t = (t == 0)) := by show txb k t = _; rw [txb, if_pos h6]; rfl
      have h6b : (k == 6) = true := by simpa using h6
      by_cases h0 : (t == 0) = true
      · have h0b : (t != 0) = false := by simpa using h0
        have hx : Hid ((t == 0) = true) := h0
        by_cases h3 : inB key 0 31 = true
        · skip
          by_cases h4 : inB old 0 9999 = true
          · skip
            by_cases h5 : inB nw 0 9999 = true
            · skip
              by_cases h7 : inB bk 0 1000 = true
              · skip
                exact absurd (by simp [rng, HT.out, h1, hx.out, h3, h4, h5, h7]) hr.out
              · have h7f : inB bk 0 1000 = false := by simpa using h7
                clear h7
                have H : Hid (rf k t key hd old hs nw bk = 3) := by show rf k t key hd old hs nw bk = 3; rw [rf, if_neg (by simp [rng, h7f])]
                go_enter Tryz.func151, Tryz.ntmps151
                go_wp2_with (first | (go_at_call 61; refine (l1In_any _ _ _ _).mono ?_; rintro e w' ⟨rfl, rfl⟩) | (go_at_call 92; refine (l3Txn_any _ _).mono ?_; rintro e w' ⟨rfl, rfl⟩) | (go_at_call 68; refine (l1Key_any _ _).mono ?_; rintro e w' ⟨rfl, rfl⟩) | (go_at_call 69; refine (l1Value_any _ _).mono ?_; rintro e w' ⟨rfl, rfl⟩))
                go_ret
                exact ⟨ret_int H.out.symm, below_new _ _⟩
            · have h5f : inB nw 0 9999 = false := by simpa using h5
              clear h5
              have H : Hid (rf k t key hd old hs nw bk = 3) := by show rf k t key hd old hs nw bk = 3; rw [rf, if_neg (by simp [rng, h5f])]
              go_enter Tryz.func151, Tryz.ntmps151
              go_wp2_with (first | (go_at_call 61; refine (l1In_any _ _ _ _).mono ?_; rintro e w' ⟨rfl, rfl⟩) | (go_at_call 92; refine (l3Txn_any _ _).mono ?_; rintro e w' ⟨rfl, rfl⟩) | (go_at_call 68; refine (l1Key_any _ _).mono ?_; rintro e w' ⟨rfl, rfl⟩) | (go_at_call 69; refine (l1Value_any _ _).mono ?_; rintro e w' ⟨rfl, rfl⟩))
              go_ret
              exact ⟨ret_int H.out.symm, below_new _ _⟩
          · have h4f : inB old 0 9999 = false := by simpa using h4
            clear h4
            have H : Hid (rf k t key hd old hs nw bk = 3) := by show rf k t key hd old hs nw bk = 3; rw [rf, if_neg (by simp [rng, h4f])]
            go_enter Tryz.func151, Tryz.ntmps151
            go_wp2_with (first | (go_at_call 61; refine (l1In_any _ _ _ _).mono ?_; rintro e w' ⟨rfl, rfl⟩) | (go_at_call 92; refine (l3Txn_any _ _).mono ?_; rintro e w' ⟨rfl, rfl⟩) | (go_at_call 68; refine (l1Key_any _ _).mono ?_; rintro e w' ⟨rfl, rfl⟩) | (go_at_call 69; refine (l1Value_any _ _).mono ?_; rintro e w' ⟨rfl, rfl⟩))
            go_ret
            exact ⟨ret_int H.out.symm, below_new _ _⟩
        · have h3f : inB key 0 31 = false := by simpa using h3
          clear h3
          have H : Hid (rf k t key hd old hs nw bk = 3) := by show rf k t key hd old hs nw bk = 3; rw [rf, if_neg (by simp [rng, h3f])]
          go_enter Tryz.func151, Tryz.ntmps151
          go_wp2_with (first | (go_at_call 61; refine (l1In_any _ _ _ _).mono ?_; rintro e w' ⟨rfl, rfl⟩) | (go_at_call 92; refine (l3Txn_any _ _).mono ?_; rintro e w' ⟨rfl, rfl⟩) | (go_at_call 68; refine (l1Key_any _ _).mono ?_; rintro e w' ⟨rfl, rfl⟩) | (go_at_call 69; refine (l1Value_any _ _).mono ?_; rintro e w' ⟨rfl, rfl⟩))
          go_ret
          exact ⟨ret_int H.out.symm, below_new _ _⟩
      · have h0f : (t == 0) = false := by simpa using h0
        clear h0
        have H : Hid (rf k t key hd old hs nw bk = 3) := by show rf k t key hd old hs nw bk = 3; rw [rf, if_neg (by simp [rng, HT.out, h0f])]
        go_enter Tryz.func151, Tryz.ntmps151
        go_wp2_with (first | (go_at_call 61; refine (l1In_any _ _ _ _).mono ?_; rintro e w' ⟨rfl, rfl⟩) | (go_at_call 92; refine (l3Txn_any _ _).mono ?_; rintro e w' ⟨rfl, rfl⟩) | (go_at_call 68; refine (l1Key_any _ _).mono ?_; rintro e w' ⟨rfl, rfl⟩) | (go_at_call 69; refine (l1Value_any _ _).mono ?_; rintro e w' ⟨rfl, rfl⟩))
        go_ret
        exact ⟨ret_int H.out.symm, below_new _ _⟩
    · have HT : Hid (txb k t = inB t 1 999) := by show txb k t = _; rw [txb, if_neg h6]
      have h6b : (k == 6) = false := by simpa using h6
      by_cases h0 : (t == 0) = true
      · have hxf : inB t 1 999 = false := by
          have : t = 0 := by simpa using h0
          subst this; decide
        have H : Hid (rf k t key hd old hs nw bk = 3) := by show rf k t key hd old hs nw bk = 3; rw [rf, if_neg (by simp [rng, HT.out, hxf])]
        go_enter Tryz.func151, Tryz.ntmps151
        go_wp2_with (first | (go_at_call 61; refine (l1In_any _ _ _ _).mono ?_; rintro e w' ⟨rfl, rfl⟩) | (go_at_call 92; refine (l3Txn_any _ _).mono ?_; rintro e w' ⟨rfl, rfl⟩) | (go_at_call 68; refine (l1Key_any _ _).mono ?_; rintro e w' ⟨rfl, rfl⟩) | (go_at_call 69; refine (l1Value_any _ _).mono ?_; rintro e w' ⟨rfl, rfl⟩))
        go_ret
        exact ⟨ret_int H.out.symm, below_new _ _⟩
      · have h0f : (t == 0) = false := by simpa using h0
        have h0b : (t != 0) = true := by simpa using h0
        clear h0
        by_cases hxx : inB t 1 999 = true
        · have hx : Hid (inB t 1 999 = true) := hxx
          by_cases h3 : inB key 0 31 = true
          · skip
            by_cases h4 : inB old 0 9999 = true
            · skip
              by_cases h5 : inB nw 0 9999 = true
              · skip
                by_cases h7 : inB bk 0 1000 = true
                · skip
                  exact absurd (by simp [rng, HT.out, h1, hx.out, h3, h4, h5, h7]) hr.out
                · have h7f : inB bk 0 1000 = false := by simpa using h7
                  clear h7
                  have H : Hid (rf k t key hd old hs nw bk = 3) := by show rf k t key hd old hs nw bk = 3; rw [rf, if_neg (by simp [rng, h7f])]
                  go_enter Tryz.func151, Tryz.ntmps151
                  go_wp2_with (first | (go_at_call 61; refine (l1In_any _ _ _ _).mono ?_; rintro e w' ⟨rfl, rfl⟩) | (go_at_call 92; refine (l3Txn_any _ _).mono ?_; rintro e w' ⟨rfl, rfl⟩) | (go_at_call 68; refine (l1Key_any _ _).mono ?_; rintro e w' ⟨rfl, rfl⟩) | (go_at_call 69; refine (l1Value_any _ _).mono ?_; rintro e w' ⟨rfl, rfl⟩))
                  go_ret
                  exact ⟨ret_int H.out.symm, below_new _ _⟩
              · have h5f : inB nw 0 9999 = false := by simpa using h5
                clear h5
                have H : Hid (rf k t key hd old hs nw bk = 3) := by show rf k t key hd old hs nw bk = 3; rw [rf, if_neg (by simp [rng, h5f])]
                go_enter Tryz.func151, Tryz.ntmps151
                go_wp2_with (first | (go_at_call 61; refine (l1In_any _ _ _ _).mono ?_; rintro e w' ⟨rfl, rfl⟩) | (go_at_call 92; refine (l3Txn_any _ _).mono ?_; rintro e w' ⟨rfl, rfl⟩) | (go_at_call 68; refine (l1Key_any _ _).mono ?_; rintro e w' ⟨rfl, rfl⟩) | (go_at_call 69; refine (l1Value_any _ _).mono ?_; rintro e w' ⟨rfl, rfl⟩))
                go_ret
                exact ⟨ret_int H.out.symm, below_new _ _⟩
            · have h4f : inB old 0 9999 = false := by simpa using h4
              clear h4
              have H : Hid (rf k t key hd old hs nw bk = 3) := by show rf k t key hd old hs nw bk = 3; rw [rf, if_neg (by simp [rng, h4f])]
              go_enter Tryz.func151, Tryz.ntmps151
              go_wp2_with (first | (go_at_call 61; refine (l1In_any _ _ _ _).mono ?_; rintro e w' ⟨rfl, rfl⟩) | (go_at_call 92; refine (l3Txn_any _ _).mono ?_; rintro e w' ⟨rfl, rfl⟩) | (go_at_call 68; refine (l1Key_any _ _).mono ?_; rintro e w' ⟨rfl, rfl⟩) | (go_at_call 69; refine (l1Value_any _ _).mono ?_; rintro e w' ⟨rfl, rfl⟩))
              go_ret
              exact ⟨ret_int H.out.symm, below_new _ _⟩
          · have h3f : inB key 0 31 = false := by simpa using h3
            clear h3
            have H : Hid (rf k t key hd old hs nw bk = 3) := by show rf k t key hd old hs nw bk = 3; rw [rf, if_neg (by simp [rng, h3f])]
            go_enter Tryz.func151, Tryz.ntmps151
            go_wp2_with (first | (go_at_call 61; refine (l1In_any _ _ _ _).mono ?_; rintro e w' ⟨rfl, rfl⟩) | (go_at_call 92; refine (l3Txn_any _ _).mono ?_; rintro e w' ⟨rfl, rfl⟩) | (go_at_call 68; refine (l1Key_any _ _).mono ?_; rintro e w' ⟨rfl, rfl⟩) | (go_at_call 69; refine (l1Value_any _ _).mono ?_; rintro e w' ⟨rfl, rfl⟩))
            go_ret
            exact ⟨ret_int H.out.symm, below_new _ _⟩
        · have hxf : inB t 1 999 = false := by simpa using hxx
          clear hxx
          have H : Hid (rf k t key hd old hs nw bk = 3) := by show rf k t key hd old hs nw bk = 3; rw [rf, if_neg (by simp [rng, HT.out, hxf])]
          go_enter Tryz.func151, Tryz.ntmps151
          go_wp2_with (first | (go_at_call 61; refine (l1In_any _ _ _ _).mono ?_; rintro e w' ⟨rfl, rfl⟩) | (go_at_call 92; refine (l3Txn_any _ _).mono ?_; rintro e w' ⟨rfl, rfl⟩) | (go_at_call 68; refine (l1Key_any _ _).mono ?_; rintro e w' ⟨rfl, rfl⟩) | (go_at_call 69; refine (l1Value_any _ _).mono ?_; rintro e w' ⟨rfl, rfl⟩))
          go_ret
          exact ⟨ret_int H.out.symm, below_new _ _⟩
  · have h1f : inB k 1 6 = false := by simpa using h1
    clear h1
    have H : Hid (rf k t key hd old hs nw bk = 3) := by show rf k t key hd old hs nw bk = 3; rw [rf, if_neg (by simp [rng, h1f])]
    go_enter Tryz.func151, Tryz.ntmps151
    go_wp2_with (first | (go_at_call 61; refine (l1In_any _ _ _ _).mono ?_; rintro e w' ⟨rfl, rfl⟩) | (go_at_call 92; refine (l3Txn_any _ _).mono ?_; rintro e w' ⟨rfl, rfl⟩) | (go_at_call 68; refine (l1Key_any _ _).mono ?_; rintro e w' ⟨rfl, rfl⟩) | (go_at_call 69; refine (l1Value_any _ _).mono ?_; rintro e w' ⟨rfl, rfl⟩))
    go_ret
    exact ⟨ret_int H.out.symm, below_new _ _⟩
/-! ### held -/
/-! ### answers that are records -/
/-! ### the records that bytes tell -/
def zR (z : Nat → Int) : Rc := ⟨num z 0 1, num z 1 2, num z 3 1, hdB z, num z 5 2, hsB z, num z 7 2, num z 9 2⟩
theorem rvs_len (z : Nat → Int) : ∀ k, (rvs z k).length = 8 * k
  | 0 => rfl
  | k + 1 => by simp only [rvs, List.length_append, rvs_len z k]; simp [rvl]; omega
theorem rvs_get (z : Nat → Int) : ∀ k i j, i < k → j < 8 → (rvs z k)[8 * i + j]? = (rvl (sh z (13 * i)))[j]?
  | 0, i, j, h, _ => by omega
  | k + 1, i, j, h, hj => by
    simp only [rvs]
    by_cases e : i = k
    · subst e
      rw [List.getElem?_append_right (by rw [rvs_len]; omega), rvs_len]
      congr 1; omega
    · rw [List.getElem?_append_left (by rw [rvs_len]; omega)]
      exact rvs_get z k i j (by omega) hj
theorem own8_of_row {w : World} {base n : Nat} {a : Option Addr} {cap : Nat} {z : Nat → Int} (h : w.ownsRow base 67 8 (.slice a n cap) n (rvs z n)) : Own8 w base w.heap.size a n (fun i => zR (sh z (13 * i))) := by
  rcases h.2 with ⟨e, h0⟩ | ⟨g, cap', cur, e, hbg, hg, _⟩
  · exact ⟨Nat.le_refl _, .inl h0⟩
  · simp only [Value.slice.injEq, true_and] at e
    obtain ⟨rfl, rfl⟩ := e
    have hlt : g < w.heap.size := by
      obtain ⟨hlt, _⟩ := Array.getElem?_eq_some_iff.1 hg
      exact hlt
    refine ⟨Nat.le_refl _, .inr ⟨g, 0, rfl, hbg, hlt, fun i hi => ?_, fun i => h.frozenAt _⟩⟩
    have c : ∀ j v, j < 8 → (rvl (sh z (13 * i)))[j]? = some v → w.cell? ⟨g, 0 + i * 8 + j, none⟩ = some v := fun j v hj hv => by
      rw [h.cellAt (0 + i * 8 + j) (by omega), show 0 + i * 8 + j = 8 * i + j by omega, rvs_get z n i j hi hj, hv]
    exact ⟨c 0 _ (by omega) rfl, c 1 _ (by omega) rfl, c 2 _ (by omega) rfl, c 3 _ (by omega) rfl, c 4 _ (by omega) rfl, c 5 _ (by omega) rfl, c 6 _ (by omega) rfl, c 7 _ (by omega) rfl⟩
end Go.Proofs.YtannmobmmnoegaaGreat
