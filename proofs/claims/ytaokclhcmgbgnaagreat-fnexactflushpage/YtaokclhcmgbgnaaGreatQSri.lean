/- RecFault of the model. -/
import Derived.Test.YtaokclhcmgbgnaaGreatQSrf
import Derived.Test.YtaokclhcmgbgnaaGreatQSrg
import Derived.Test.YtaokclhcmgbgnaaGreatQSrh
namespace Go.Proofs.YtaokclhcmgbgnaaGreat
open Go.RowKit Go.Deep
set_option linter.unusedVariables false
set_option maxRecDepth 20000

set_option maxHeartbeats 4000000 in
theorem specRf_not (k t key : Int) (hd : Bool) (old : Int) (hs : Bool) (nw bk : Int) (w : World) (hr : Hid (rng k t key old nw bk = true)) (h1 : inB k 1 6 = true) (h2 : (k == 6) = (t == 0)) (h2b : (t != 0) = false ∨ (t != 0) = true ∧ inB t 1 999 = true) (h3 : inB key 0 31 = true) (h4 : inB old 0 9999 = true) (h5 : inB nw 0 9999 = true) (h7 : inB bk 0 1000 = true) (hk2a : (k == 2) = false) (hk5a : (k == 5) = false) : Calls Tryz.prog 118 #[.agg #[.int .i64 k, .int .i64 t, .int .i64 key, .bool hd, .int .i64 old, .bool hs, .int .i64 nw, .int .i64 bk]] w fun e w' => e = .returned (.int .i64 (rf k t key hd old hs nw bk)) ∧ Below w.heap.size w w' := by
  obtain ⟨q, hq6, hq0⟩ : ∃ q : Bool, (k == 6) = q ∧ (t == 0) = q := ⟨_, h2, rfl⟩
  rcases h2b with h2c | ⟨h2c, h2d⟩
  · skip
    by_cases hk : (key == 0) = true
    · have hk2 : (key != 0) = false := by simpa using hk
      cases hd
      · skip
        by_cases ho : (old == 0) = true
        · have ho2 : (old != 0) = false := by simpa using ho
          cases hs
          · skip
            by_cases hn : (nw == 0) = true
            · have hn2 : (nw != 0) = false := by simpa using hn
              by_cases hb : (bk == 0) = true
              · have hb2 : (bk != 0) = false := by simpa using hb
                have H : Hid (rf k t key false old false nw bk = 0) := by show rf k t key false old false nw bk = 0; simp [rf, frm, tnk, hr.out, hk2a, hk5a, hk, ho, hn, hb2]
                go_enter Tryz.func118, Tryz.ntmps118
                go_wp2_with (first | (go_at_call 26; refine (l1In_any _ _ _ _).mono ?_; rintro e w' ⟨rfl, rfl⟩) | (go_at_call 81; refine (l3Txn_any _ _).mono ?_; rintro e w' ⟨rfl, rfl⟩) | (go_at_call 64; refine (l1Key_any _ _).mono ?_; rintro e w' ⟨rfl, rfl⟩) | (go_at_call 65; refine (l1Value_any _ _).mono ?_; rintro e w' ⟨rfl, rfl⟩))
                go_ret
                exact ⟨ret_int H.out.symm, below_new _ _⟩
              · have hb2 : (bk != 0) = true := by simpa using hb
                have hb3 : (bk == 0) = false := by simpa using hb
                clear hb
                have H : Hid (rf k t key false old false nw bk = 1) := by show rf k t key false old false nw bk = 1; simp [rf, frm, tnk, hr.out, hk2a, hk5a, hk, ho, hn, hb2]
                go_enter Tryz.func118, Tryz.ntmps118
                go_wp2_with (first | (go_at_call 26; refine (l1In_any _ _ _ _).mono ?_; rintro e w' ⟨rfl, rfl⟩) | (go_at_call 81; refine (l3Txn_any _ _).mono ?_; rintro e w' ⟨rfl, rfl⟩) | (go_at_call 64; refine (l1Key_any _ _).mono ?_; rintro e w' ⟨rfl, rfl⟩) | (go_at_call 65; refine (l1Value_any _ _).mono ?_; rintro e w' ⟨rfl, rfl⟩))
                go_ret
                exact ⟨ret_int H.out.symm, below_new _ _⟩
            · have hn2 : (nw != 0) = true := by simpa using hn
              have hn3 : (nw == 0) = false := by simpa using hn
              clear hn
              have H : Hid (rf k t key false old false nw bk = 1) := by show rf k t key false old false nw bk = 1; simp [rf, frm, tnk, hr.out, hk2a, hk5a, hk, ho, hn3]
              go_enter Tryz.func118, Tryz.ntmps118
              go_wp2_with (first | (go_at_call 26; refine (l1In_any _ _ _ _).mono ?_; rintro e w' ⟨rfl, rfl⟩) | (go_at_call 81; refine (l3Txn_any _ _).mono ?_; rintro e w' ⟨rfl, rfl⟩) | (go_at_call 64; refine (l1Key_any _ _).mono ?_; rintro e w' ⟨rfl, rfl⟩) | (go_at_call 65; refine (l1Value_any _ _).mono ?_; rintro e w' ⟨rfl, rfl⟩))
              go_ret
              exact ⟨ret_int H.out.symm, below_new _ _⟩
          · skip
            have H : Hid (rf k t key false old true nw bk = 1) := by show rf k t key false old true nw bk = 1; simp [rf, frm, tnk, hr.out, hk2a, hk5a, hk, ho]
            go_enter Tryz.func118, Tryz.ntmps118
            go_wp2_with (first | (go_at_call 26; refine (l1In_any _ _ _ _).mono ?_; rintro e w' ⟨rfl, rfl⟩) | (go_at_call 81; refine (l3Txn_any _ _).mono ?_; rintro e w' ⟨rfl, rfl⟩) | (go_at_call 64; refine (l1Key_any _ _).mono ?_; rintro e w' ⟨rfl, rfl⟩) | (go_at_call 65; refine (l1Value_any _ _).mono ?_; rintro e w' ⟨rfl, rfl⟩))
            go_ret
            exact ⟨ret_int H.out.symm, below_new _ _⟩
        · have ho2 : (old != 0) = true := by simpa using ho
          have ho3 : (old == 0) = false := by simpa using ho
          clear ho
          have H : Hid (rf k t key false old hs nw bk = 1) := by show rf k t key false old hs nw bk = 1; simp [rf, frm, tnk, hr.out, hk2a, hk5a, hk, ho3]
          go_enter Tryz.func118, Tryz.ntmps118
          go_wp2_with (first | (go_at_call 26; refine (l1In_any _ _ _ _).mono ?_; rintro e w' ⟨rfl, rfl⟩) | (go_at_call 81; refine (l3Txn_any _ _).mono ?_; rintro e w' ⟨rfl, rfl⟩) | (go_at_call 64; refine (l1Key_any _ _).mono ?_; rintro e w' ⟨rfl, rfl⟩) | (go_at_call 65; refine (l1Value_any _ _).mono ?_; rintro e w' ⟨rfl, rfl⟩))
          go_ret
          exact ⟨ret_int H.out.symm, below_new _ _⟩
      · skip
        have H : Hid (rf k t key true old hs nw bk = 1) := by show rf k t key true old hs nw bk = 1; simp [rf, frm, tnk, hr.out, hk2a, hk5a, hk]
        go_enter Tryz.func118, Tryz.ntmps118
        go_wp2_with (first | (go_at_call 26; refine (l1In_any _ _ _ _).mono ?_; rintro e w' ⟨rfl, rfl⟩) | (go_at_call 81; refine (l3Txn_any _ _).mono ?_; rintro e w' ⟨rfl, rfl⟩) | (go_at_call 64; refine (l1Key_any _ _).mono ?_; rintro e w' ⟨rfl, rfl⟩) | (go_at_call 65; refine (l1Value_any _ _).mono ?_; rintro e w' ⟨rfl, rfl⟩))
        go_ret
        exact ⟨ret_int H.out.symm, below_new _ _⟩
    · have hk2 : (key != 0) = true := by simpa using hk
      have hk3 : (key == 0) = false := by simpa using hk
      clear hk
      have H : Hid (rf k t key hd old hs nw bk = 1) := by show rf k t key hd old hs nw bk = 1; simp [rf, frm, tnk, hr.out, hk2a, hk5a, hk3]
      go_enter Tryz.func118, Tryz.ntmps118
      go_wp2_with (first | (go_at_call 26; refine (l1In_any _ _ _ _).mono ?_; rintro e w' ⟨rfl, rfl⟩) | (go_at_call 81; refine (l3Txn_any _ _).mono ?_; rintro e w' ⟨rfl, rfl⟩) | (go_at_call 64; refine (l1Key_any _ _).mono ?_; rintro e w' ⟨rfl, rfl⟩) | (go_at_call 65; refine (l1Value_any _ _).mono ?_; rintro e w' ⟨rfl, rfl⟩))
      go_ret
      exact ⟨ret_int H.out.symm, below_new _ _⟩
  · skip
    by_cases hk : (key == 0) = true
    · have hk2 : (key != 0) = false := by simpa using hk
      cases hd
      · skip
        by_cases ho : (old == 0) = true
        · have ho2 : (old != 0) = false := by simpa using ho
          cases hs
          · skip
            by_cases hn : (nw == 0) = true
            · have hn2 : (nw != 0) = false := by simpa using hn
              by_cases hb : (bk == 0) = true
              · have hb2 : (bk != 0) = false := by simpa using hb
                have H : Hid (rf k t key false old false nw bk = 0) := by show rf k t key false old false nw bk = 0; simp [rf, frm, tnk, hr.out, hk2a, hk5a, hk, ho, hn, hb2]
                go_enter Tryz.func118, Tryz.ntmps118
                go_wp2_with (first | (go_at_call 26; refine (l1In_any _ _ _ _).mono ?_; rintro e w' ⟨rfl, rfl⟩) | (go_at_call 81; refine (l3Txn_any _ _).mono ?_; rintro e w' ⟨rfl, rfl⟩) | (go_at_call 64; refine (l1Key_any _ _).mono ?_; rintro e w' ⟨rfl, rfl⟩) | (go_at_call 65; refine (l1Value_any _ _).mono ?_; rintro e w' ⟨rfl, rfl⟩))
                go_ret
                exact ⟨ret_int H.out.symm, below_new _ _⟩
              · have hb2 : (bk != 0) = true := by simpa using hb
                have hb3 : (bk == 0) = false := by simpa using hb
                clear hb
                have H : Hid (rf k t key false old false nw bk = 1) := by show rf k t key false old false nw bk = 1; simp [rf, frm, tnk, hr.out, hk2a, hk5a, hk, ho, hn, hb2]
                go_enter Tryz.func118, Tryz.ntmps118
                go_wp2_with (first | (go_at_call 26; refine (l1In_any _ _ _ _).mono ?_; rintro e w' ⟨rfl, rfl⟩) | (go_at_call 81; refine (l3Txn_any _ _).mono ?_; rintro e w' ⟨rfl, rfl⟩) | (go_at_call 64; refine (l1Key_any _ _).mono ?_; rintro e w' ⟨rfl, rfl⟩) | (go_at_call 65; refine (l1Value_any _ _).mono ?_; rintro e w' ⟨rfl, rfl⟩))
                go_ret
                exact ⟨ret_int H.out.symm, below_new _ _⟩
            · have hn2 : (nw != 0) = true := by simpa using hn
              have hn3 : (nw == 0) = false := by simpa using hn
              clear hn
              have H : Hid (rf k t key false old false nw bk = 1) := by show rf k t key false old false nw bk = 1; simp [rf, frm, tnk, hr.out, hk2a, hk5a, hk, ho, hn3]
              go_enter Tryz.func118, Tryz.ntmps118
              go_wp2_with (first | (go_at_call 26; refine (l1In_any _ _ _ _).mono ?_; rintro e w' ⟨rfl, rfl⟩) | (go_at_call 81; refine (l3Txn_any _ _).mono ?_; rintro e w' ⟨rfl, rfl⟩) | (go_at_call 64; refine (l1Key_any _ _).mono ?_; rintro e w' ⟨rfl, rfl⟩) | (go_at_call 65; refine (l1Value_any _ _).mono ?_; rintro e w' ⟨rfl, rfl⟩))
              go_ret
              exact ⟨ret_int H.out.symm, below_new _ _⟩
          · skip
            have H : Hid (rf k t key false old true nw bk = 1) := by show rf k t key false old true nw bk = 1; simp [rf, frm, tnk, hr.out, hk2a, hk5a, hk, ho]
            go_enter Tryz.func118, Tryz.ntmps118
            go_wp2_with (first | (go_at_call 26; refine (l1In_any _ _ _ _).mono ?_; rintro e w' ⟨rfl, rfl⟩) | (go_at_call 81; refine (l3Txn_any _ _).mono ?_; rintro e w' ⟨rfl, rfl⟩) | (go_at_call 64; refine (l1Key_any _ _).mono ?_; rintro e w' ⟨rfl, rfl⟩) | (go_at_call 65; refine (l1Value_any _ _).mono ?_; rintro e w' ⟨rfl, rfl⟩))
            go_ret
            exact ⟨ret_int H.out.symm, below_new _ _⟩
        · have ho2 : (old != 0) = true := by simpa using ho
          have ho3 : (old == 0) = false := by simpa using ho
          clear ho
          have H : Hid (rf k t key false old hs nw bk = 1) := by show rf k t key false old hs nw bk = 1; simp [rf, frm, tnk, hr.out, hk2a, hk5a, hk, ho3]
          go_enter Tryz.func118, Tryz.ntmps118
          go_wp2_with (first | (go_at_call 26; refine (l1In_any _ _ _ _).mono ?_; rintro e w' ⟨rfl, rfl⟩) | (go_at_call 81; refine (l3Txn_any _ _).mono ?_; rintro e w' ⟨rfl, rfl⟩) | (go_at_call 64; refine (l1Key_any _ _).mono ?_; rintro e w' ⟨rfl, rfl⟩) | (go_at_call 65; refine (l1Value_any _ _).mono ?_; rintro e w' ⟨rfl, rfl⟩))
          go_ret
          exact ⟨ret_int H.out.symm, below_new _ _⟩
      · skip
        have H : Hid (rf k t key true old hs nw bk = 1) := by show rf k t key true old hs nw bk = 1; simp [rf, frm, tnk, hr.out, hk2a, hk5a, hk]
        go_enter Tryz.func118, Tryz.ntmps118
        go_wp2_with (first | (go_at_call 26; refine (l1In_any _ _ _ _).mono ?_; rintro e w' ⟨rfl, rfl⟩) | (go_at_call 81; refine (l3Txn_any _ _).mono ?_; rintro e w' ⟨rfl, rfl⟩) | (go_at_call 64; refine (l1Key_any _ _).mono ?_; rintro e w' ⟨rfl, rfl⟩) | (go_at_call 65; refine (l1Value_any _ _).mono ?_; rintro e w' ⟨rfl, rfl⟩))
        go_ret
        exact ⟨ret_int H.out.symm, below_new _ _⟩
    · have hk2 : (key != 0) = true := by simpa using hk
      have hk3 : (key == 0) = false := by simpa using hk
      clear hk
      have H : Hid (rf k t key hd old hs nw bk = 1) := by show rf k t key hd old hs nw bk = 1; simp [rf, frm, tnk, hr.out, hk2a, hk5a, hk3]
      go_enter Tryz.func118, Tryz.ntmps118
      go_wp2_with (first | (go_at_call 26; refine (l1In_any _ _ _ _).mono ?_; rintro e w' ⟨rfl, rfl⟩) | (go_at_call 81; refine (l3Txn_any _ _).mono ?_; rintro e w' ⟨rfl, rfl⟩) | (go_at_call 64; refine (l1Key_any _ _).mono ?_; rintro e w' ⟨rfl, rfl⟩) | (go_at_call 65; refine (l1Value_any _ _).mono ?_; rintro e w' ⟨rfl, rfl⟩))
      go_ret
      exact ⟨ret_int H.out.symm, below_new _ _⟩

theorem specRf_any (k t key : Int) (hd : Bool) (old : Int) (hs : Bool) (nw bk : Int) (w : World) : Calls Tryz.prog 118 #[.agg #[.int .i64 k, .int .i64 t, .int .i64 key, .bool hd, .int .i64 old, .bool hs, .int .i64 nw, .int .i64 bk]] w fun e w' => e = .returned (.int .i64 (rf k t key hd old hs nw bk)) ∧ Below w.heap.size w w' := by
  by_cases hr : rng k t key old nw bk = true
  · have hh := hr
    simp only [rng, Bool.and_eq_true] at hh
    obtain ⟨⟨⟨⟨⟨h1, h2⟩, h3⟩, h4⟩, h5⟩, h7⟩ := hh
    have h2a : (k == 6) = (t == 0) := by
      by_cases h6 : k = 6
      · rw [txb, if_pos h6] at h2
        have : t = 0 := by simpa using h2
        simp [h6, this]
      · rw [txb, if_neg h6] at h2
        have : ¬ t = 0 := by intro e; subst e; revert h2; decide
        rw [show (k == 6) = false by simpa using h6, show (t == 0) = false by simpa using this]
    have h2b : (t != 0) = false ∨ (t != 0) = true ∧ inB t 1 999 = true := by
      by_cases h6 : k = 6
      · rw [txb, if_pos h6] at h2
        have : t = 0 := by simpa using h2
        exact .inl (by simp [this])
      · rw [txb, if_neg h6] at h2
        have : ¬ t = 0 := by intro e; subst e; revert h2; decide
        exact .inr ⟨by simpa using this, h2⟩
    by_cases c2 : (k == 2) = true
    · have c5 : (k == 5) = false := by
        have : k = 2 := by simpa using c2
        subst this; rfl
      exact specRf_put k t key hd old hs nw bk w hr h1 h2a h2b h3 h4 h5 h7 c2 c5
    · have c2f : (k == 2) = false := by simpa using c2
      by_cases c5 : (k == 5) = true
      · exact specRf_undo k t key hd old hs nw bk w hr h1 h2a h2b h3 h4 h5 h7 c2f c5
      · exact specRf_not k t key hd old hs nw bk w hr h1 h2a h2b h3 h4 h5 h7 c2f (by simpa using c5)
  · exact specRf_range k t key hd old hs nw bk w hr
end Go.Proofs.YtaokclhcmgbgnaaGreat
