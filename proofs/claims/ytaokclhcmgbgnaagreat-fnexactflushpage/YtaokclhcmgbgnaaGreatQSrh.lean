/- RecFault of the model. -/
import Derived.Test.YtaokclhcmgbgnaaGreatQRf
namespace Go.Proofs.YtaokclhcmgbgnaaGreat
open Go.RowKit Go.Deep
set_option linter.unusedVariables false
set_option maxRecDepth 20000

set_option maxHeartbeats 4000000 in
theorem specRf_undo (k t key : Int) (hd : Bool) (old : Int) (hs : Bool) (nw bk : Int) (w : World) (hr : Hid (rng k t key old nw bk = true)) (h1 : inB k 1 6 = true) (h2 : (k == 6) = (t == 0)) (h2b : (t != 0) = false ∨ (t != 0) = true ∧ inB t 1 999 = true) (h3 : inB key 0 31 = true) (h4 : inB old 0 9999 = true) (h5 : inB nw 0 9999 = true) (h7 : inB bk 0 1000 = true) (hk2a : (k == 2) = false) (hk5a : (k == 5) = true) : Calls Tryz.prog 118 #[.agg #[.int .i64 k, .int .i64 t, .int .i64 key, .bool hd, .int .i64 old, .bool hs, .int .i64 nw, .int .i64 bk]] w fun e w' => e = .returned (.int .i64 (rf k t key hd old hs nw bk)) ∧ Below w.heap.size w w' := by
  obtain ⟨q, hq6, hq0⟩ : ∃ q : Bool, (k == 6) = q ∧ (t == 0) = q := ⟨_, h2, rfl⟩
  rcases h2b with h2c | ⟨h2c, h2d⟩
  · skip
    cases hd
    · skip
      by_cases ho : (old == 0) = true
      · have ho2 : (old != 0) = false := by simpa using ho
        cases hs
        · skip
          by_cases hn : (nw == 0) = true
          · have hn2 : (nw != 0) = false := by simpa using hn
            by_cases hb : (bk == 0) = true
            · have hb2 : (bk != 0) = false := by simpa using hb
              have H : Hid (rf k t key false old false nw bk = 1) := by show rf k t key false old false nw bk = 1; simp [rf, frm, tnk, hr.out, hk2a, hk5a, ho, hn, hb2]
              go_enter Tryz.func118, Tryz.ntmps118
              go_wp2_with (first | (go_at_call 26; refine (l1In_any _ _ _ _).mono ?_; rintro e w' ⟨rfl, rfl⟩) | (go_at_call 81; refine (l3Txn_any _ _).mono ?_; rintro e w' ⟨rfl, rfl⟩) | (go_at_call 64; refine (l1Key_any _ _).mono ?_; rintro e w' ⟨rfl, rfl⟩) | (go_at_call 65; refine (l1Value_any _ _).mono ?_; rintro e w' ⟨rfl, rfl⟩))
              go_ret
              exact ⟨ret_int H.out.symm, below_new _ _⟩
            · have hb2 : (bk != 0) = true := by simpa using hb
              have hb3 : (bk == 0) = false := by simpa using hb
              clear hb
              have H : Hid (rf k t key false old false nw bk = 0) := by show rf k t key false old false nw bk = 0; simp [rf, frm, tnk, hr.out, hk2a, hk5a, ho, hn, hb2]
              go_enter Tryz.func118, Tryz.ntmps118
              go_wp2_with (first | (go_at_call 26; refine (l1In_any _ _ _ _).mono ?_; rintro e w' ⟨rfl, rfl⟩) | (go_at_call 81; refine (l3Txn_any _ _).mono ?_; rintro e w' ⟨rfl, rfl⟩) | (go_at_call 64; refine (l1Key_any _ _).mono ?_; rintro e w' ⟨rfl, rfl⟩) | (go_at_call 65; refine (l1Value_any _ _).mono ?_; rintro e w' ⟨rfl, rfl⟩))
              go_ret
              exact ⟨ret_int H.out.symm, below_new _ _⟩
          · have hn2 : (nw != 0) = true := by simpa using hn
            have hn3 : (nw == 0) = false := by simpa using hn
            clear hn
            have H : Hid (rf k t key false old false nw bk = 1) := by show rf k t key false old false nw bk = 1; simp [rf, frm, tnk, hr.out, hk2a, hk5a, ho, hn3]
            go_enter Tryz.func118, Tryz.ntmps118
            go_wp2_with (first | (go_at_call 26; refine (l1In_any _ _ _ _).mono ?_; rintro e w' ⟨rfl, rfl⟩) | (go_at_call 81; refine (l3Txn_any _ _).mono ?_; rintro e w' ⟨rfl, rfl⟩) | (go_at_call 64; refine (l1Key_any _ _).mono ?_; rintro e w' ⟨rfl, rfl⟩) | (go_at_call 65; refine (l1Value_any _ _).mono ?_; rintro e w' ⟨rfl, rfl⟩))
            go_ret
            exact ⟨ret_int H.out.symm, below_new _ _⟩
        · skip
          by_cases hb : (bk == 0) = true
          · have hb2 : (bk != 0) = false := by simpa using hb
            have H : Hid (rf k t key false old true nw bk = 1) := by show rf k t key false old true nw bk = 1; simp [rf, frm, tnk, hr.out, hk2a, hk5a, ho, hb2]
            go_enter Tryz.func118, Tryz.ntmps118
            go_wp2_with (first | (go_at_call 26; refine (l1In_any _ _ _ _).mono ?_; rintro e w' ⟨rfl, rfl⟩) | (go_at_call 81; refine (l3Txn_any _ _).mono ?_; rintro e w' ⟨rfl, rfl⟩) | (go_at_call 64; refine (l1Key_any _ _).mono ?_; rintro e w' ⟨rfl, rfl⟩) | (go_at_call 65; refine (l1Value_any _ _).mono ?_; rintro e w' ⟨rfl, rfl⟩))
            go_ret
            exact ⟨ret_int H.out.symm, below_new _ _⟩
          · have hb2 : (bk != 0) = true := by simpa using hb
            have hb3 : (bk == 0) = false := by simpa using hb
            clear hb
            have H : Hid (rf k t key false old true nw bk = 0) := by show rf k t key false old true nw bk = 0; simp [rf, frm, tnk, hr.out, hk2a, hk5a, ho, hb2]
            go_enter Tryz.func118, Tryz.ntmps118
            go_wp2_with (first | (go_at_call 26; refine (l1In_any _ _ _ _).mono ?_; rintro e w' ⟨rfl, rfl⟩) | (go_at_call 81; refine (l3Txn_any _ _).mono ?_; rintro e w' ⟨rfl, rfl⟩) | (go_at_call 64; refine (l1Key_any _ _).mono ?_; rintro e w' ⟨rfl, rfl⟩) | (go_at_call 65; refine (l1Value_any _ _).mono ?_; rintro e w' ⟨rfl, rfl⟩))
            go_ret
            exact ⟨ret_int H.out.symm, below_new _ _⟩
      · have ho2 : (old != 0) = true := by simpa using ho
        have ho3 : (old == 0) = false := by simpa using ho
        clear ho
        have H : Hid (rf k t key false old hs nw bk = 1) := by show rf k t key false old hs nw bk = 1; simp [rf, frm, tnk, hr.out, hk2a, hk5a, ho3]
        go_enter Tryz.func118, Tryz.ntmps118
        go_wp2_with (first | (go_at_call 26; refine (l1In_any _ _ _ _).mono ?_; rintro e w' ⟨rfl, rfl⟩) | (go_at_call 81; refine (l3Txn_any _ _).mono ?_; rintro e w' ⟨rfl, rfl⟩) | (go_at_call 64; refine (l1Key_any _ _).mono ?_; rintro e w' ⟨rfl, rfl⟩) | (go_at_call 65; refine (l1Value_any _ _).mono ?_; rintro e w' ⟨rfl, rfl⟩))
        go_ret
        exact ⟨ret_int H.out.symm, below_new _ _⟩
    · skip
      cases hs
      · skip
        by_cases hn : (nw == 0) = true
        · have hn2 : (nw != 0) = false := by simpa using hn
          by_cases hb : (bk == 0) = true
          · have hb2 : (bk != 0) = false := by simpa using hb
            have H : Hid (rf k t key true old false nw bk = 1) := by show rf k t key true old false nw bk = 1; simp [rf, frm, tnk, hr.out, hk2a, hk5a, hn, hb2]
            go_enter Tryz.func118, Tryz.ntmps118
            go_wp2_with (first | (go_at_call 26; refine (l1In_any _ _ _ _).mono ?_; rintro e w' ⟨rfl, rfl⟩) | (go_at_call 81; refine (l3Txn_any _ _).mono ?_; rintro e w' ⟨rfl, rfl⟩) | (go_at_call 64; refine (l1Key_any _ _).mono ?_; rintro e w' ⟨rfl, rfl⟩) | (go_at_call 65; refine (l1Value_any _ _).mono ?_; rintro e w' ⟨rfl, rfl⟩))
            go_ret
            exact ⟨ret_int H.out.symm, below_new _ _⟩
          · have hb2 : (bk != 0) = true := by simpa using hb
            have hb3 : (bk == 0) = false := by simpa using hb
            clear hb
            have H : Hid (rf k t key true old false nw bk = 0) := by show rf k t key true old false nw bk = 0; simp [rf, frm, tnk, hr.out, hk2a, hk5a, hn, hb2]
            go_enter Tryz.func118, Tryz.ntmps118
            go_wp2_with (first | (go_at_call 26; refine (l1In_any _ _ _ _).mono ?_; rintro e w' ⟨rfl, rfl⟩) | (go_at_call 81; refine (l3Txn_any _ _).mono ?_; rintro e w' ⟨rfl, rfl⟩) | (go_at_call 64; refine (l1Key_any _ _).mono ?_; rintro e w' ⟨rfl, rfl⟩) | (go_at_call 65; refine (l1Value_any _ _).mono ?_; rintro e w' ⟨rfl, rfl⟩))
            go_ret
            exact ⟨ret_int H.out.symm, below_new _ _⟩
        · have hn2 : (nw != 0) = true := by simpa using hn
          have hn3 : (nw == 0) = false := by simpa using hn
          clear hn
          have H : Hid (rf k t key true old false nw bk = 1) := by show rf k t key true old false nw bk = 1; simp [rf, frm, tnk, hr.out, hk2a, hk5a, hn3]
          go_enter Tryz.func118, Tryz.ntmps118
          go_wp2_with (first | (go_at_call 26; refine (l1In_any _ _ _ _).mono ?_; rintro e w' ⟨rfl, rfl⟩) | (go_at_call 81; refine (l3Txn_any _ _).mono ?_; rintro e w' ⟨rfl, rfl⟩) | (go_at_call 64; refine (l1Key_any _ _).mono ?_; rintro e w' ⟨rfl, rfl⟩) | (go_at_call 65; refine (l1Value_any _ _).mono ?_; rintro e w' ⟨rfl, rfl⟩))
          go_ret
          exact ⟨ret_int H.out.symm, below_new _ _⟩
      · skip
        by_cases hb : (bk == 0) = true
        · have hb2 : (bk != 0) = false := by simpa using hb
          have H : Hid (rf k t key true old true nw bk = 1) := by show rf k t key true old true nw bk = 1; simp [rf, frm, tnk, hr.out, hk2a, hk5a, hb2]
          go_enter Tryz.func118, Tryz.ntmps118
          go_wp2_with (first | (go_at_call 26; refine (l1In_any _ _ _ _).mono ?_; rintro e w' ⟨rfl, rfl⟩) | (go_at_call 81; refine (l3Txn_any _ _).mono ?_; rintro e w' ⟨rfl, rfl⟩) | (go_at_call 64; refine (l1Key_any _ _).mono ?_; rintro e w' ⟨rfl, rfl⟩) | (go_at_call 65; refine (l1Value_any _ _).mono ?_; rintro e w' ⟨rfl, rfl⟩))
          go_ret
          exact ⟨ret_int H.out.symm, below_new _ _⟩
        · have hb2 : (bk != 0) = true := by simpa using hb
          have hb3 : (bk == 0) = false := by simpa using hb
          clear hb
          have H : Hid (rf k t key true old true nw bk = 0) := by show rf k t key true old true nw bk = 0; simp [rf, frm, tnk, hr.out, hk2a, hk5a, hb2]
          go_enter Tryz.func118, Tryz.ntmps118
          go_wp2_with (first | (go_at_call 26; refine (l1In_any _ _ _ _).mono ?_; rintro e w' ⟨rfl, rfl⟩) | (go_at_call 81; refine (l3Txn_any _ _).mono ?_; rintro e w' ⟨rfl, rfl⟩) | (go_at_call 64; refine (l1Key_any _ _).mono ?_; rintro e w' ⟨rfl, rfl⟩) | (go_at_call 65; refine (l1Value_any _ _).mono ?_; rintro e w' ⟨rfl, rfl⟩))
          go_ret
          exact ⟨ret_int H.out.symm, below_new _ _⟩
  · skip
    cases hd
    · skip
      by_cases ho : (old == 0) = true
      · have ho2 : (old != 0) = false := by simpa using ho
        cases hs
        · skip
          by_cases hn : (nw == 0) = true
          · have hn2 : (nw != 0) = false := by simpa using hn
            by_cases hb : (bk == 0) = true
            · have hb2 : (bk != 0) = false := by simpa using hb
              have H : Hid (rf k t key false old false nw bk = 1) := by show rf k t key false old false nw bk = 1; simp [rf, frm, tnk, hr.out, hk2a, hk5a, ho, hn, hb2]
              go_enter Tryz.func118, Tryz.ntmps118
              go_wp2_with (first | (go_at_call 26; refine (l1In_any _ _ _ _).mono ?_; rintro e w' ⟨rfl, rfl⟩) | (go_at_call 81; refine (l3Txn_any _ _).mono ?_; rintro e w' ⟨rfl, rfl⟩) | (go_at_call 64; refine (l1Key_any _ _).mono ?_; rintro e w' ⟨rfl, rfl⟩) | (go_at_call 65; refine (l1Value_any _ _).mono ?_; rintro e w' ⟨rfl, rfl⟩))
              go_ret
              exact ⟨ret_int H.out.symm, below_new _ _⟩
            · have hb2 : (bk != 0) = true := by simpa using hb
              have hb3 : (bk == 0) = false := by simpa using hb
              clear hb
              have H : Hid (rf k t key false old false nw bk = 0) := by show rf k t key false old false nw bk = 0; simp [rf, frm, tnk, hr.out, hk2a, hk5a, ho, hn, hb2]
              go_enter Tryz.func118, Tryz.ntmps118
              go_wp2_with (first | (go_at_call 26; refine (l1In_any _ _ _ _).mono ?_; rintro e w' ⟨rfl, rfl⟩) | (go_at_call 81; refine (l3Txn_any _ _).mono ?_; rintro e w' ⟨rfl, rfl⟩) | (go_at_call 64; refine (l1Key_any _ _).mono ?_; rintro e w' ⟨rfl, rfl⟩) | (go_at_call 65; refine (l1Value_any _ _).mono ?_; rintro e w' ⟨rfl, rfl⟩))
              go_ret
              exact ⟨ret_int H.out.symm, below_new _ _⟩
          · have hn2 : (nw != 0) = true := by simpa using hn
            have hn3 : (nw == 0) = false := by simpa using hn
            clear hn
            have H : Hid (rf k t key false old false nw bk = 1) := by show rf k t key false old false nw bk = 1; simp [rf, frm, tnk, hr.out, hk2a, hk5a, ho, hn3]
            go_enter Tryz.func118, Tryz.ntmps118
            go_wp2_with (first | (go_at_call 26; refine (l1In_any _ _ _ _).mono ?_; rintro e w' ⟨rfl, rfl⟩) | (go_at_call 81; refine (l3Txn_any _ _).mono ?_; rintro e w' ⟨rfl, rfl⟩) | (go_at_call 64; refine (l1Key_any _ _).mono ?_; rintro e w' ⟨rfl, rfl⟩) | (go_at_call 65; refine (l1Value_any _ _).mono ?_; rintro e w' ⟨rfl, rfl⟩))
            go_ret
            exact ⟨ret_int H.out.symm, below_new _ _⟩
        · skip
          by_cases hb : (bk == 0) = true
          · have hb2 : (bk != 0) = false := by simpa using hb
            have H : Hid (rf k t key false old true nw bk = 1) := by show rf k t key false old true nw bk = 1; simp [rf, frm, tnk, hr.out, hk2a, hk5a, ho, hb2]
            go_enter Tryz.func118, Tryz.ntmps118
            go_wp2_with (first | (go_at_call 26; refine (l1In_any _ _ _ _).mono ?_; rintro e w' ⟨rfl, rfl⟩) | (go_at_call 81; refine (l3Txn_any _ _).mono ?_; rintro e w' ⟨rfl, rfl⟩) | (go_at_call 64; refine (l1Key_any _ _).mono ?_; rintro e w' ⟨rfl, rfl⟩) | (go_at_call 65; refine (l1Value_any _ _).mono ?_; rintro e w' ⟨rfl, rfl⟩))
            go_ret
            exact ⟨ret_int H.out.symm, below_new _ _⟩
          · have hb2 : (bk != 0) = true := by simpa using hb
            have hb3 : (bk == 0) = false := by simpa using hb
            clear hb
            have H : Hid (rf k t key false old true nw bk = 0) := by show rf k t key false old true nw bk = 0; simp [rf, frm, tnk, hr.out, hk2a, hk5a, ho, hb2]
            go_enter Tryz.func118, Tryz.ntmps118
            go_wp2_with (first | (go_at_call 26; refine (l1In_any _ _ _ _).mono ?_; rintro e w' ⟨rfl, rfl⟩) | (go_at_call 81; refine (l3Txn_any _ _).mono ?_; rintro e w' ⟨rfl, rfl⟩) | (go_at_call 64; refine (l1Key_any _ _).mono ?_; rintro e w' ⟨rfl, rfl⟩) | (go_at_call 65; refine (l1Value_any _ _).mono ?_; rintro e w' ⟨rfl, rfl⟩))
            go_ret
            exact ⟨ret_int H.out.symm, below_new _ _⟩
      · have ho2 : (old != 0) = true := by simpa using ho
        have ho3 : (old == 0) = false := by simpa using ho
        clear ho
        have H : Hid (rf k t key false old hs nw bk = 1) := by show rf k t key false old hs nw bk = 1; simp [rf, frm, tnk, hr.out, hk2a, hk5a, ho3]
        go_enter Tryz.func118, Tryz.ntmps118
        go_wp2_with (first | (go_at_call 26; refine (l1In_any _ _ _ _).mono ?_; rintro e w' ⟨rfl, rfl⟩) | (go_at_call 81; refine (l3Txn_any _ _).mono ?_; rintro e w' ⟨rfl, rfl⟩) | (go_at_call 64; refine (l1Key_any _ _).mono ?_; rintro e w' ⟨rfl, rfl⟩) | (go_at_call 65; refine (l1Value_any _ _).mono ?_; rintro e w' ⟨rfl, rfl⟩))
        go_ret
        exact ⟨ret_int H.out.symm, below_new _ _⟩
    · skip
      cases hs
      · skip
        by_cases hn : (nw == 0) = true
        · have hn2 : (nw != 0) = false := by simpa using hn
          by_cases hb : (bk == 0) = true
          · have hb2 : (bk != 0) = false := by simpa using hb
            have H : Hid (rf k t key true old false nw bk = 1) := by show rf k t key true old false nw bk = 1; simp [rf, frm, tnk, hr.out, hk2a, hk5a, hn, hb2]
            go_enter Tryz.func118, Tryz.ntmps118
            go_wp2_with (first | (go_at_call 26; refine (l1In_any _ _ _ _).mono ?_; rintro e w' ⟨rfl, rfl⟩) | (go_at_call 81; refine (l3Txn_any _ _).mono ?_; rintro e w' ⟨rfl, rfl⟩) | (go_at_call 64; refine (l1Key_any _ _).mono ?_; rintro e w' ⟨rfl, rfl⟩) | (go_at_call 65; refine (l1Value_any _ _).mono ?_; rintro e w' ⟨rfl, rfl⟩))
            go_ret
            exact ⟨ret_int H.out.symm, below_new _ _⟩
          · have hb2 : (bk != 0) = true := by simpa using hb
            have hb3 : (bk == 0) = false := by simpa using hb
            clear hb
            have H : Hid (rf k t key true old false nw bk = 0) := by show rf k t key true old false nw bk = 0; simp [rf, frm, tnk, hr.out, hk2a, hk5a, hn, hb2]
            go_enter Tryz.func118, Tryz.ntmps118
            go_wp2_with (first | (go_at_call 26; refine (l1In_any _ _ _ _).mono ?_; rintro e w' ⟨rfl, rfl⟩) | (go_at_call 81; refine (l3Txn_any _ _).mono ?_; rintro e w' ⟨rfl, rfl⟩) | (go_at_call 64; refine (l1Key_any _ _).mono ?_; rintro e w' ⟨rfl, rfl⟩) | (go_at_call 65; refine (l1Value_any _ _).mono ?_; rintro e w' ⟨rfl, rfl⟩))
            go_ret
            exact ⟨ret_int H.out.symm, below_new _ _⟩
        · have hn2 : (nw != 0) = true := by simpa using hn
          have hn3 : (nw == 0) = false := by simpa using hn
          clear hn
          have H : Hid (rf k t key true old false nw bk = 1) := by show rf k t key true old false nw bk = 1; simp [rf, frm, tnk, hr.out, hk2a, hk5a, hn3]
          go_enter Tryz.func118, Tryz.ntmps118
          go_wp2_with (first | (go_at_call 26; refine (l1In_any _ _ _ _).mono ?_; rintro e w' ⟨rfl, rfl⟩) | (go_at_call 81; refine (l3Txn_any _ _).mono ?_; rintro e w' ⟨rfl, rfl⟩) | (go_at_call 64; refine (l1Key_any _ _).mono ?_; rintro e w' ⟨rfl, rfl⟩) | (go_at_call 65; refine (l1Value_any _ _).mono ?_; rintro e w' ⟨rfl, rfl⟩))
          go_ret
          exact ⟨ret_int H.out.symm, below_new _ _⟩
      · skip
        by_cases hb : (bk == 0) = true
        · have hb2 : (bk != 0) = false := by simpa using hb
          have H : Hid (rf k t key true old true nw bk = 1) := by show rf k t key true old true nw bk = 1; simp [rf, frm, tnk, hr.out, hk2a, hk5a, hb2]
          go_enter Tryz.func118, Tryz.ntmps118
          go_wp2_with (first | (go_at_call 26; refine (l1In_any _ _ _ _).mono ?_; rintro e w' ⟨rfl, rfl⟩) | (go_at_call 81; refine (l3Txn_any _ _).mono ?_; rintro e w' ⟨rfl, rfl⟩) | (go_at_call 64; refine (l1Key_any _ _).mono ?_; rintro e w' ⟨rfl, rfl⟩) | (go_at_call 65; refine (l1Value_any _ _).mono ?_; rintro e w' ⟨rfl, rfl⟩))
          go_ret
          exact ⟨ret_int H.out.symm, below_new _ _⟩
        · have hb2 : (bk != 0) = true := by simpa using hb
          have hb3 : (bk == 0) = false := by simpa using hb
          clear hb
          have H : Hid (rf k t key true old true nw bk = 0) := by show rf k t key true old true nw bk = 0; simp [rf, frm, tnk, hr.out, hk2a, hk5a, hb2]
          go_enter Tryz.func118, Tryz.ntmps118
          go_wp2_with (first | (go_at_call 26; refine (l1In_any _ _ _ _).mono ?_; rintro e w' ⟨rfl, rfl⟩) | (go_at_call 81; refine (l3Txn_any _ _).mono ?_; rintro e w' ⟨rfl, rfl⟩) | (go_at_call 64; refine (l1Key_any _ _).mono ?_; rintro e w' ⟨rfl, rfl⟩) | (go_at_call 65; refine (l1Value_any _ _).mono ?_; rintro e w' ⟨rfl, rfl⟩))
          go_ret
          exact ⟨ret_int H.out.symm, below_new _ _⟩

end Go.Proofs.YtaokclhcmgbgnaaGreat
