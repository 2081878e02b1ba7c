/- Records in bytes: impl.flagsOf, putNumbers, putRec. -/
import Derived.Test.YtaokclhcmgbgnaaGreatQBase
import Derived.Test.YtaokclhcmgbgnaaGreatQSp
namespace Go.Proofs.YtaokclhcmgbgnaaGreat
open Go.RowKit Go.Deep
set_option linter.unusedVariables false
set_option maxRecDepth 20000

def txb (k t : Int) : Bool := if k = 6 then decide (t = 0) else inB t 1 999
def rng (k t key old nw bk : Int) : Bool := inB k 1 6 && txb k t && inB key 0 31 && inB old 0 9999 && inB nw 0 9999 && inB bk 0 1000
def tnk (k : Int) : Bool := (k == 2) || (k == 5)
def frm (k key : Int) (hd : Bool) (old : Int) (hs : Bool) (nw bk : Int) : Bool := (tnk k || ((key == 0) && !hd && !hs)) && (hd || (old == 0)) && (hs || (nw == 0)) && ((k == 5) == (bk != 0))
/-- The fault of a record, or 0. -/
def rf (k t key : Int) (hd : Bool) (old : Int) (hs : Bool) (nw bk : Int) : Int := if rng k t key old nw bk = true then (if frm k key hd old hs nw bk = true then 0 else 1) else 3
theorem isTxn_any (v : Int) (w : World) : Calls Tryz.prog 125 #[.int .i64 v] w fun e w' => e = .returned (.bool (inB v 1 999)) ∧ w' = w := by
  go_enter Tryz.func125, Tryz.ntmps125
  go_wp2_with (first | (go_at_call 176; refine (within_any _ _ _ _).mono ?_; rintro e w' ⟨rfl, rfl⟩))
  go_ret
  exact ⟨rfl, rfl⟩
theorem l3Txn_any (v : Int) (w : World) : Calls Tryz.prog 81 #[.int .i64 v] w fun e w' => e = .returned (.bool (inB v 1 999)) ∧ w' = w := by
  go_enter Tryz.func81, Tryz.ntmps81
  go_wp2_with (first | (go_at_call 26; refine (l1In_any _ _ _ _).mono ?_; rintro e w' ⟨rfl, rfl⟩))
  go_ret
  exact ⟨rfl, rfl⟩
theorem turnsKey_any (k : Int) (w : World) : Calls Tryz.prog 203 #[.int .i64 k] w fun e w' => e = .returned (.bool (tnk k)) ∧ w' = w := by
  by_cases h : (k == 2) = true
  · have H : Hid (tnk k = true) := by show tnk k = true; rw [tnk, h]; rfl
    go_enter Tryz.func203, Tryz.ntmps203
    go_wp2
    go_ret
    exact ⟨ret_bool (by rw [H.out]), rfl⟩
  · have h' : (k == 2) = false := by simpa using h
    have H : Hid (tnk k = (k == 5)) := by show tnk k = _; rw [tnk, h']; rfl
    clear h
    go_enter Tryz.func203, Tryz.ntmps203
    go_wp2
    go_ret
    exact ⟨ret_bool (by rw [H.out]), rfl⟩

set_option maxHeartbeats 1000000 in
theorem recInBounds_any (k t key : Int) (hd : Bool) (old : Int) (hs : Bool) (nw bk : Int) (w : World) : Calls Tryz.prog 174 #[.agg #[.int .i64 k, .int .i64 t, .int .i64 key, .bool hd, .int .i64 old, .bool hs, .int .i64 nw, .int .i64 bk]] w fun e w' => e = .returned (.bool (rng k t key old nw bk)) ∧ Below w.heap.size w w' := by
  by_cases h6 : k = 6
  · have HT : Hid (txb k t = (t == 0)) := by show txb k t = _; rw [txb, if_pos h6]; rfl
    have h6b : (k == 6) = true := by simpa using h6
    clear h6
    by_cases h1 : inB k 1 6 = true
    · skip
      by_cases h2 : (t == 0) = true
      · skip
        by_cases h3 : inB key 0 31 = true
        · skip
          by_cases h4 : inB old 0 9999 = true
          · skip
            by_cases h5 : inB nw 0 9999 = true
            · skip
              have H : Hid (rng k t key old nw bk = inB bk 0 1000) := by show rng k t key old nw bk = _; rw [rng, HT.out, h1, h2, h3, h4, h5]; rfl
              clear HT
              go_enter Tryz.func174, Tryz.ntmps174
              go_wp2_with (first | (go_at_call 176; refine (within_any _ _ _ _).mono ?_; rintro e w' ⟨rfl, rfl⟩) | (go_at_call 125; refine (isTxn_any _ _).mono ?_; rintro e w' ⟨rfl, rfl⟩) | (go_at_call 135; refine (isKey_any _ _).mono ?_; rintro e w' ⟨rfl, rfl⟩) | (go_at_call 136; refine (isValue_any _ _).mono ?_; rintro e w' ⟨rfl, rfl⟩))
              go_ret
              exact ⟨ret_bool (by rw [H.out]), below_new _ _⟩
            · have h5f : inB nw 0 9999 = false := by simpa using h5
              clear h5
              have H : Hid (rng k t key old nw bk = false) := by show rng k t key old nw bk = _; rw [rng, HT.out, h5f]; simp
              clear HT
              go_enter Tryz.func174, Tryz.ntmps174
              go_wp2_with (first | (go_at_call 176; refine (within_any _ _ _ _).mono ?_; rintro e w' ⟨rfl, rfl⟩) | (go_at_call 125; refine (isTxn_any _ _).mono ?_; rintro e w' ⟨rfl, rfl⟩) | (go_at_call 135; refine (isKey_any _ _).mono ?_; rintro e w' ⟨rfl, rfl⟩) | (go_at_call 136; refine (isValue_any _ _).mono ?_; rintro e w' ⟨rfl, rfl⟩))
              go_ret
              exact ⟨ret_bool (by rw [H.out]), below_new _ _⟩
          · have h4f : inB old 0 9999 = false := by simpa using h4
            clear h4
            have H : Hid (rng k t key old nw bk = false) := by show rng k t key old nw bk = _; rw [rng, HT.out, h4f]; simp
            clear HT
            go_enter Tryz.func174, Tryz.ntmps174
            go_wp2_with (first | (go_at_call 176; refine (within_any _ _ _ _).mono ?_; rintro e w' ⟨rfl, rfl⟩) | (go_at_call 125; refine (isTxn_any _ _).mono ?_; rintro e w' ⟨rfl, rfl⟩) | (go_at_call 135; refine (isKey_any _ _).mono ?_; rintro e w' ⟨rfl, rfl⟩) | (go_at_call 136; refine (isValue_any _ _).mono ?_; rintro e w' ⟨rfl, rfl⟩))
            go_ret
            exact ⟨ret_bool (by rw [H.out]), below_new _ _⟩
        · have h3f : inB key 0 31 = false := by simpa using h3
          clear h3
          have H : Hid (rng k t key old nw bk = false) := by show rng k t key old nw bk = _; rw [rng, HT.out, h3f]; simp
          clear HT
          go_enter Tryz.func174, Tryz.ntmps174
          go_wp2_with (first | (go_at_call 176; refine (within_any _ _ _ _).mono ?_; rintro e w' ⟨rfl, rfl⟩) | (go_at_call 125; refine (isTxn_any _ _).mono ?_; rintro e w' ⟨rfl, rfl⟩) | (go_at_call 135; refine (isKey_any _ _).mono ?_; rintro e w' ⟨rfl, rfl⟩) | (go_at_call 136; refine (isValue_any _ _).mono ?_; rintro e w' ⟨rfl, rfl⟩))
          go_ret
          exact ⟨ret_bool (by rw [H.out]), below_new _ _⟩
      · have h2f : (t == 0) = false := by simpa using h2
        clear h2
        have H : Hid (rng k t key old nw bk = false) := by show rng k t key old nw bk = _; rw [rng, HT.out, h2f]; simp
        clear HT
        go_enter Tryz.func174, Tryz.ntmps174
        go_wp2_with (first | (go_at_call 176; refine (within_any _ _ _ _).mono ?_; rintro e w' ⟨rfl, rfl⟩) | (go_at_call 125; refine (isTxn_any _ _).mono ?_; rintro e w' ⟨rfl, rfl⟩) | (go_at_call 135; refine (isKey_any _ _).mono ?_; rintro e w' ⟨rfl, rfl⟩) | (go_at_call 136; refine (isValue_any _ _).mono ?_; rintro e w' ⟨rfl, rfl⟩))
        go_ret
        exact ⟨ret_bool (by rw [H.out]), below_new _ _⟩
    · have h1f : inB k 1 6 = false := by simpa using h1
      clear h1
      have H : Hid (rng k t key old nw bk = false) := by show rng k t key old nw bk = _; rw [rng, HT.out, h1f]; simp
      clear HT
      go_enter Tryz.func174, Tryz.ntmps174
      go_wp2_with (first | (go_at_call 176; refine (within_any _ _ _ _).mono ?_; rintro e w' ⟨rfl, rfl⟩) | (go_at_call 125; refine (isTxn_any _ _).mono ?_; rintro e w' ⟨rfl, rfl⟩) | (go_at_call 135; refine (isKey_any _ _).mono ?_; rintro e w' ⟨rfl, rfl⟩) | (go_at_call 136; refine (isValue_any _ _).mono ?_; rintro e w' ⟨rfl, rfl⟩))
      go_ret
      exact ⟨ret_bool (by rw [H.out]), below_new _ _⟩
  · have HT : Hid (txb k t = inB t 1 999) := by show txb k t = _; rw [txb, if_neg h6]
    have h6b : (k == 6) = false := by simpa using h6
    clear h6
    by_cases h1 : inB k 1 6 = true
    · skip
      by_cases h2 : inB t 1 999 = true
      · skip
        by_cases h3 : inB key 0 31 = true
        · skip
          by_cases h4 : inB old 0 9999 = true
          · skip
            by_cases h5 : inB nw 0 9999 = true
            · skip
              have H : Hid (rng k t key old nw bk = inB bk 0 1000) := by show rng k t key old nw bk = _; rw [rng, HT.out, h1, h2, h3, h4, h5]; rfl
              clear HT
              go_enter Tryz.func174, Tryz.ntmps174
              go_wp2_with (first | (go_at_call 176; refine (within_any _ _ _ _).mono ?_; rintro e w' ⟨rfl, rfl⟩) | (go_at_call 125; refine (isTxn_any _ _).mono ?_; rintro e w' ⟨rfl, rfl⟩) | (go_at_call 135; refine (isKey_any _ _).mono ?_; rintro e w' ⟨rfl, rfl⟩) | (go_at_call 136; refine (isValue_any _ _).mono ?_; rintro e w' ⟨rfl, rfl⟩))
              go_ret
              exact ⟨ret_bool (by rw [H.out]), below_new _ _⟩
            · have h5f : inB nw 0 9999 = false := by simpa using h5
              clear h5
              have H : Hid (rng k t key old nw bk = false) := by show rng k t key old nw bk = _; rw [rng, HT.out, h5f]; simp
              clear HT
              go_enter Tryz.func174, Tryz.ntmps174
              go_wp2_with (first | (go_at_call 176; refine (within_any _ _ _ _).mono ?_; rintro e w' ⟨rfl, rfl⟩) | (go_at_call 125; refine (isTxn_any _ _).mono ?_; rintro e w' ⟨rfl, rfl⟩) | (go_at_call 135; refine (isKey_any _ _).mono ?_; rintro e w' ⟨rfl, rfl⟩) | (go_at_call 136; refine (isValue_any _ _).mono ?_; rintro e w' ⟨rfl, rfl⟩))
              go_ret
              exact ⟨ret_bool (by rw [H.out]), below_new _ _⟩
          · have h4f : inB old 0 9999 = false := by simpa using h4
            clear h4
            have H : Hid (rng k t key old nw bk = false) := by show rng k t key old nw bk = _; rw [rng, HT.out, h4f]; simp
            clear HT
            go_enter Tryz.func174, Tryz.ntmps174
            go_wp2_with (first | (go_at_call 176; refine (within_any _ _ _ _).mono ?_; rintro e w' ⟨rfl, rfl⟩) | (go_at_call 125; refine (isTxn_any _ _).mono ?_; rintro e w' ⟨rfl, rfl⟩) | (go_at_call 135; refine (isKey_any _ _).mono ?_; rintro e w' ⟨rfl, rfl⟩) | (go_at_call 136; refine (isValue_any _ _).mono ?_; rintro e w' ⟨rfl, rfl⟩))
            go_ret
            exact ⟨ret_bool (by rw [H.out]), below_new _ _⟩
        · have h3f : inB key 0 31 = false := by simpa using h3
          clear h3
          have H : Hid (rng k t key old nw bk = false) := by show rng k t key old nw bk = _; rw [rng, HT.out, h3f]; simp
          clear HT
          go_enter Tryz.func174, Tryz.ntmps174
          go_wp2_with (first | (go_at_call 176; refine (within_any _ _ _ _).mono ?_; rintro e w' ⟨rfl, rfl⟩) | (go_at_call 125; refine (isTxn_any _ _).mono ?_; rintro e w' ⟨rfl, rfl⟩) | (go_at_call 135; refine (isKey_any _ _).mono ?_; rintro e w' ⟨rfl, rfl⟩) | (go_at_call 136; refine (isValue_any _ _).mono ?_; rintro e w' ⟨rfl, rfl⟩))
          go_ret
          exact ⟨ret_bool (by rw [H.out]), below_new _ _⟩
      · have h2f : inB t 1 999 = false := by simpa using h2
        clear h2
        have H : Hid (rng k t key old nw bk = false) := by show rng k t key old nw bk = _; rw [rng, HT.out, h2f]; simp
        clear HT
        go_enter Tryz.func174, Tryz.ntmps174
        go_wp2_with (first | (go_at_call 176; refine (within_any _ _ _ _).mono ?_; rintro e w' ⟨rfl, rfl⟩) | (go_at_call 125; refine (isTxn_any _ _).mono ?_; rintro e w' ⟨rfl, rfl⟩) | (go_at_call 135; refine (isKey_any _ _).mono ?_; rintro e w' ⟨rfl, rfl⟩) | (go_at_call 136; refine (isValue_any _ _).mono ?_; rintro e w' ⟨rfl, rfl⟩))
        go_ret
        exact ⟨ret_bool (by rw [H.out]), below_new _ _⟩
    · have h1f : inB k 1 6 = false := by simpa using h1
      clear h1
      have H : Hid (rng k t key old nw bk = false) := by show rng k t key old nw bk = _; rw [rng, HT.out, h1f]; simp
      clear HT
      go_enter Tryz.func174, Tryz.ntmps174
      go_wp2_with (first | (go_at_call 176; refine (within_any _ _ _ _).mono ?_; rintro e w' ⟨rfl, rfl⟩) | (go_at_call 125; refine (isTxn_any _ _).mono ?_; rintro e w' ⟨rfl, rfl⟩) | (go_at_call 135; refine (isKey_any _ _).mono ?_; rintro e w' ⟨rfl, rfl⟩) | (go_at_call 136; refine (isValue_any _ _).mono ?_; rintro e w' ⟨rfl, rfl⟩))
      go_ret
      exact ⟨ret_bool (by rw [H.out]), below_new _ _⟩

set_option maxHeartbeats 2000000 in
theorem recHasForm_any (k t key : Int) (hd : Bool) (old : Int) (hs : Bool) (nw bk : Int) (w : World) : Calls Tryz.prog 175 #[.agg #[.int .i64 k, .int .i64 t, .int .i64 key, .bool hd, .int .i64 old, .bool hs, .int .i64 nw, .int .i64 bk]] w fun e w' => e = .returned (.bool (frm k key hd old hs nw bk)) ∧ Below w.heap.size w w' := by
  by_cases ht : tnk k = true
  · rcases Bool.eq_false_or_eq_true hd with rfl | rfl
    · skip
      cases hs
      · skip
        by_cases hn : (nw == 0) = true
        · have hn2 : (nw != 0) = false := by simpa using hn
          have H : Hid (frm k key true old false nw bk = ((k == 5) == (bk != 0))) := by show frm k key true old false nw bk = ((k == 5) == (bk != 0)); simp [frm, ht, hn]
          go_enter Tryz.func175, Tryz.ntmps175
          go_wp2_with (first | (go_at_call 203; refine (turnsKey_any _ _).mono ?_; rintro e w' ⟨rfl, rfl⟩))
          go_ret
          exact ⟨ret_bool (by rw [H.out]), below_new _ _⟩
        · have hn2 : (nw != 0) = true := by simpa using hn
          have hn3 : (nw == 0) = false := by simpa using hn
          clear hn
          have H : Hid (frm k key true old false nw bk = false) := by show frm k key true old false nw bk = false; simp [frm, ht, hn3]
          go_enter Tryz.func175, Tryz.ntmps175
          go_wp2_with (first | (go_at_call 203; refine (turnsKey_any _ _).mono ?_; rintro e w' ⟨rfl, rfl⟩))
          go_ret
          exact ⟨ret_bool (by rw [H.out]), below_new _ _⟩
      · skip
        have H : Hid (frm k key true old true nw bk = ((k == 5) == (bk != 0))) := by show frm k key true old true nw bk = ((k == 5) == (bk != 0)); simp [frm, ht]
        go_enter Tryz.func175, Tryz.ntmps175
        go_wp2_with (first | (go_at_call 203; refine (turnsKey_any _ _).mono ?_; rintro e w' ⟨rfl, rfl⟩))
        go_ret
        exact ⟨ret_bool (by rw [H.out]), below_new _ _⟩
    · skip
      by_cases ho : (old == 0) = true
      · have ho2 : (old != 0) = false := by simpa using ho
        cases hs
        · skip
          by_cases hn : (nw == 0) = true
          · have hn2 : (nw != 0) = false := by simpa using hn
            have H : Hid (frm k key false old false nw bk = ((k == 5) == (bk != 0))) := by show frm k key false old false nw bk = ((k == 5) == (bk != 0)); simp [frm, ht, ho, hn]
            go_enter Tryz.func175, Tryz.ntmps175
            go_wp2_with (first | (go_at_call 203; refine (turnsKey_any _ _).mono ?_; rintro e w' ⟨rfl, rfl⟩))
            go_ret
            exact ⟨ret_bool (by rw [H.out]), below_new _ _⟩
          · have hn2 : (nw != 0) = true := by simpa using hn
            have hn3 : (nw == 0) = false := by simpa using hn
            clear hn
            have H : Hid (frm k key false old false nw bk = false) := by show frm k key false old false nw bk = false; simp [frm, ht, ho, hn3]
            go_enter Tryz.func175, Tryz.ntmps175
            go_wp2_with (first | (go_at_call 203; refine (turnsKey_any _ _).mono ?_; rintro e w' ⟨rfl, rfl⟩))
            go_ret
            exact ⟨ret_bool (by rw [H.out]), below_new _ _⟩
        · skip
          have H : Hid (frm k key false old true nw bk = ((k == 5) == (bk != 0))) := by show frm k key false old true nw bk = ((k == 5) == (bk != 0)); simp [frm, ht, ho]
          go_enter Tryz.func175, Tryz.ntmps175
          go_wp2_with (first | (go_at_call 203; refine (turnsKey_any _ _).mono ?_; rintro e w' ⟨rfl, rfl⟩))
          go_ret
          exact ⟨ret_bool (by rw [H.out]), below_new _ _⟩
      · have ho2 : (old != 0) = true := by simpa using ho
        have ho3 : (old == 0) = false := by simpa using ho
        clear ho
        have H : Hid (frm k key false old hs nw bk = false) := by show frm k key false old hs nw bk = false; simp [frm, ht, ho3]
        go_enter Tryz.func175, Tryz.ntmps175
        go_wp2_with (first | (go_at_call 203; refine (turnsKey_any _ _).mono ?_; rintro e w' ⟨rfl, rfl⟩))
        go_ret
        exact ⟨ret_bool (by rw [H.out]), below_new _ _⟩
  · have htf : tnk k = false := by simpa using ht
    clear ht
    by_cases hk : (key == 0) = true
    · have hk2 : (key != 0) = false := by simpa using hk
      cases hd
      · cases hs
        · skip
          by_cases ho : (old == 0) = true
          · have ho2 : (old != 0) = false := by simpa using ho
            by_cases hn : (nw == 0) = true
            · have hn2 : (nw != 0) = false := by simpa using hn
              have H : Hid (frm k key false old false nw bk = ((k == 5) == (bk != 0))) := by show frm k key false old false nw bk = ((k == 5) == (bk != 0)); simp [frm, htf, hk, ho, hn]
              go_enter Tryz.func175, Tryz.ntmps175
              go_wp2_with (first | (go_at_call 203; refine (turnsKey_any _ _).mono ?_; rintro e w' ⟨rfl, rfl⟩))
              go_ret
              exact ⟨ret_bool (by rw [H.out]), below_new _ _⟩
            · have hn2 : (nw != 0) = true := by simpa using hn
              have hn3 : (nw == 0) = false := by simpa using hn
              clear hn
              have H : Hid (frm k key false old false nw bk = false) := by show frm k key false old false nw bk = false; simp [frm, htf, hk, ho, hn3]
              go_enter Tryz.func175, Tryz.ntmps175
              go_wp2_with (first | (go_at_call 203; refine (turnsKey_any _ _).mono ?_; rintro e w' ⟨rfl, rfl⟩))
              go_ret
              exact ⟨ret_bool (by rw [H.out]), below_new _ _⟩
          · have ho2 : (old != 0) = true := by simpa using ho
            have ho3 : (old == 0) = false := by simpa using ho
            clear ho
            have H : Hid (frm k key false old false nw bk = false) := by show frm k key false old false nw bk = false; simp [frm, htf, hk, ho3]
            go_enter Tryz.func175, Tryz.ntmps175
            go_wp2_with (first | (go_at_call 203; refine (turnsKey_any _ _).mono ?_; rintro e w' ⟨rfl, rfl⟩))
            go_ret
            exact ⟨ret_bool (by rw [H.out]), below_new _ _⟩
        · skip
          have H : Hid (frm k key false old true nw bk = false) := by show frm k key false old true nw bk = false; simp [frm, htf, hk]
          go_enter Tryz.func175, Tryz.ntmps175
          go_wp2_with (first | (go_at_call 203; refine (turnsKey_any _ _).mono ?_; rintro e w' ⟨rfl, rfl⟩))
          go_ret
          exact ⟨ret_bool (by rw [H.out]), below_new _ _⟩
      · skip
        have H : Hid (frm k key true old hs nw bk = false) := by show frm k key true old hs nw bk = false; simp [frm, htf, hk]
        go_enter Tryz.func175, Tryz.ntmps175
        go_wp2_with (first | (go_at_call 203; refine (turnsKey_any _ _).mono ?_; rintro e w' ⟨rfl, rfl⟩))
        go_ret
        exact ⟨ret_bool (by rw [H.out]), below_new _ _⟩
    · have hk2 : (key != 0) = true := by simpa using hk
      have hk3 : (key == 0) = false := by simpa using hk
      clear hk
      have H : Hid (frm k key hd old hs nw bk = false) := by show frm k key hd old hs nw bk = false; simp [frm, htf, hk3]
      go_enter Tryz.func175, Tryz.ntmps175
      go_wp2_with (first | (go_at_call 203; refine (turnsKey_any _ _).mono ?_; rintro e w' ⟨rfl, rfl⟩))
      go_ret
      exact ⟨ret_bool (by rw [H.out]), below_new _ _⟩

set_option maxHeartbeats 1000000 in
theorem implRf_any (k t key : Int) (hd : Bool) (old : Int) (hs : Bool) (nw bk : Int) (w : World) : Calls Tryz.prog 124 #[.agg #[.int .i64 k, .int .i64 t, .int .i64 key, .bool hd, .int .i64 old, .bool hs, .int .i64 nw, .int .i64 bk]] w fun e w' => e = .returned (.int .i64 (rf k t key hd old hs nw bk)) ∧ Below w.heap.size w w' := by
  by_cases h1 : rng k t key old nw bk = true
  · by_cases h2 : frm k key hd old hs nw bk = true
    · have H : Hid (rf k t key hd old hs nw bk = 0) := by show rf k t key hd old hs nw bk = 0; rw [rf, if_pos h1, if_pos h2]
      go_enter Tryz.func124, Tryz.ntmps124
      go_wp2_with (first | (go_at_call 174; refine (recInBounds_any k t key hd old hs nw bk _).mono ?_; rintro e w1 ⟨rfl, hb1⟩; obtain ⟨hc1, hf1⟩ := bcell hb1) | (go_at_call 175; refine (recHasForm_any k t key hd old hs nw bk _).mono ?_; rintro e w2 ⟨rfl, hb2⟩))
      go_ret
      exact ⟨ret_int H.out.symm, below_then (below_then (below_new _ _) hb1) hb2⟩
    · have h2f : frm k key hd old hs nw bk = false := by simpa using h2
      have H : Hid (rf k t key hd old hs nw bk = 1) := by show rf k t key hd old hs nw bk = 1; rw [rf, if_pos h1, if_neg h2]
      clear h2
      go_enter Tryz.func124, Tryz.ntmps124
      go_wp2_with (first | (go_at_call 174; refine (recInBounds_any k t key hd old hs nw bk _).mono ?_; rintro e w1 ⟨rfl, hb1⟩; obtain ⟨hc1, hf1⟩ := bcell hb1) | (go_at_call 175; refine (recHasForm_any k t key hd old hs nw bk _).mono ?_; rintro e w2 ⟨rfl, hb2⟩))
      go_ret
      exact ⟨ret_int H.out.symm, below_then (below_then (below_new _ _) hb1) hb2⟩
  · have h1f : rng k t key old nw bk = false := by simpa using h1
    have H : Hid (rf k t key hd old hs nw bk = 3) := by show rf k t key hd old hs nw bk = 3; rw [rf, if_neg h1]
    clear h1
    go_enter Tryz.func124, Tryz.ntmps124
    go_wp2_with (first | (go_at_call 174; refine (recInBounds_any k t key hd old hs nw bk _).mono ?_; rintro e w1 ⟨rfl, hb1⟩))
    go_ret
    exact ⟨ret_int H.out.symm, below_then (below_new _ _) hb1⟩
def fl (hd hs : Bool) : Int := (if hd = true then 1 else 0) + (if hs = true then 2 else 0)
theorem fl_bd (hd hs : Bool) : 0 ≤ fl hd hs ∧ fl hd hs ≤ 3 := by cases hd <;> cases hs <;> simp [fl]
theorem flagsOf_any (k t key : Int) (hd : Bool) (old : Int) (hs : Bool) (nw bk : Int) (w : World) : Calls Tryz.prog 219 #[.agg #[.int .i64 k, .int .i64 t, .int .i64 key, .bool hd, .int .i64 old, .bool hs, .int .i64 nw, .int .i64 bk]] w fun e w' =>
    e = .returned (.int .i64 (fl hd hs)) ∧ Below w.heap.size w w' := by
  cases hd <;> cases hs
  · go_enter Tryz.func219, Tryz.ntmps219
    go_wp2
    go_ret
    exact ⟨ret_int (by decide +kernel), below_new _ _⟩
  · go_enter Tryz.func219, Tryz.ntmps219
    go_wp2
    go_ret
    exact ⟨ret_int (by decide +kernel), below_new _ _⟩
  · go_enter Tryz.func219, Tryz.ntmps219
    go_wp2
    go_ret
    exact ⟨ret_int (by decide +kernel), below_new _ _⟩
  · go_enter Tryz.func219, Tryz.ntmps219
    go_wp2
    go_ret
    exact ⟨ret_int (by decide +kernel), below_new _ _⟩
/-- The first k of the numbers, in so many bytes each. -/
def cat (F : Nat → Int) (wd : Nat) : Nat → List Int
  | 0 => []
  | k + 1 => cat F wd k ++ nb (F k) wd
theorem cat_len (F : Nat → Int) (wd : Nat) : ∀ k, (cat F wd k).length = k * wd
  | 0 => by simp [cat]
  | k + 1 => by simp [cat, cat_len F wd k, nb_len, Nat.succ_mul]
set_option maxHeartbeats 2000000 in
theorem putNumbers_any (C base width n : Nat) (F : Nat → Int) (b cap : Nat) (v : Value) (zs : List Int) (w : World) (hs : width ≤ 4) (hn : n ≤ 10) (hF : ∀ i, i < n → 0 ≤ F i ∧ F i ≤ 1000000) (hz : zs.length ≤ 900) (hC : C < base) (hB : base ≤ w.heap.size) (hm : MK w C base v zs)
    (hbl : b < w.heap.size) (hbC : b ≠ C) (hbv : v.ownBlock ≠ some b) (hc : ∀ i, i < n → w.cell? ⟨b, i, none⟩ = some (.int .i64 (F i))) :
    Calls Tryz.prog 218 #[.pointer (some ⟨C, 0, none⟩), .int .i64 width, .slice (some ⟨b, 0, none⟩) n cap] w fun e w' => e = .returned (.tuple #[]) ∧ ∃ v', MK w' C base v' (zs ++ cat F width n) ∧ Upd C v w w' ∧ Lies w v v' := by
  have HM0 : Hid (MK w C base v zs) := hm
  have HCB : Hid (C < base ∧ base ≤ w.heap.size) := ⟨hC, hB⟩
  have HF : Hid (∀ i, i < n → 0 ≤ F i ∧ F i ≤ 1000000) := hF
  have HC : Hid (∀ i, i < n → w.cell? ⟨b, i, none⟩ = some (.int .i64 (F i))) := hc
  have HBV : Hid (b < w.heap.size ∧ b ≠ C ∧ v.ownBlock ≠ some b) := ⟨hbl, hbC, hbv⟩
  clear hm hC hB hF hc hbl hbC hbv
  go_enter Tryz.func218, Tryz.ntmps218
  go_wp2
  go_loopw [7, 10] (fun _ i wr => ∃ k : Nat, k ≤ n ∧ i = .int .i64 k ∧ ∃ v', Hid (MK wr C base v' (zs ++ cat F width k)) ∧ Hid (Upd C v w wr) ∧ Hid (Lies w v v')) (fun _ i _ => n - (intOf i).toNat)
  case atStart => exact ⟨0, Nat.zero_le _, rfl, v, by rw [cat, List.append_nil]; exact HM0, Upd.refl _ _ _, .inl rfl⟩
  case round =>
    obtain ⟨k, hk0, rfl, v', HM, HU, HL⟩ := hrel
    by_cases hlt : k < n
    · have hlt' : (k : Int) < (n : Int) := by omega
      have h1 : wr.cell? ⟨b, k, none⟩ = some (.int .i64 (F k)) := (World.cell?_of_block (w := w) (a := ⟨b, k, none⟩) (HU.out.block b HBV.out.1 HBV.out.2.1 HBV.out.2.2)).trans (HC.out k hlt)
      have HZ : Hid ((zs ++ cat F width k).length ≤ 1000) := by
        show (zs ++ cat F width k).length ≤ 1000
        rw [List.length_append, cat_len]
        have : k * width ≤ 10 * 4 := Nat.mul_le_mul (by omega) hs
        omega
      go_wp2_with fail
      refine (putNumber_any C base (F k) width v' (zs ++ cat F width k) wr hs (HF.out k hlt).1 (HF.out k hlt).2 HZ.out HCB.out.1 (Nat.le_trans HCB.out.2 HU.out.size) HM.out).mono ?_
      rintro e w1 ⟨rfl, v1, hm1, hu1, hl1⟩
      have HR : Hid (MK w1 C base v1 (zs ++ cat F width (k + 1)) ∧ Upd C v w w1 ∧ Lies w v v1) := ⟨by rw [cat, ← List.append_assoc]; exact hm1, HU.out.trans HL.out hu1, HL.out.trans HU.out.size hl1⟩
      clear hm1 hu1 hl1 h1
      go_wp2_with fail
      go_roundw
      case rel => exact ⟨k + 1, hlt, by go_num, v1, HR.out.1, HR.out.2.1, HR.out.2.2⟩
      case measure => simp [intOf]; omega
    · have hkn : k = n := by omega
      go_wp2_with fail
      go_end0
      refine ⟨rfl, v', ?_, HU.out, HL.out⟩
      have h := HM.out
      rw [hkn] at h
      exact h
end Go.Proofs.YtaokclhcmgbgnaaGreat
