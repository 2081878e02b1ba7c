/- Records in bytes: putRec and impl.PackRec. -/
import Derived.Test.YtldnfiadafmomaaGreatQBase
import Derived.Test.YtldnfiadafmomaaGreatQPut
namespace Go.Proofs.YtldnfiadafmomaaGreat
open Go.RowKit Go.Deep
set_option linter.unusedVariables false
set_option maxRecDepth 20000

def txb (k t : Int) : Bool := if k = 6 then decide (t = 0) else inB t 1 999
def rng (k t key old nw bk : Int) : Bool := inB k 1 6 && txb k t && inB key 0 31 && inB old 0 9999 && inB nw 0 9999 && inB bk 0 1000
def tnk (k : Int) : Bool := (k == 2) || (k == 5)
def frm (k key : Int) (hd : Bool) (old : Int) (hs : Bool) (nw bk : Int) : Bool := (tnk k || ((key == 0) && !hd && !hs)) && (hd || (old == 0)) && (hs || (nw == 0)) && ((k == 5) == (bk != 0))
/-- The fault of a record, or 0. -/
def rf (k t key : Int) (hd : Bool) (old : Int) (hs : Bool) (nw bk : Int) : Int := if rng k t key old nw bk = true then (if frm k key hd old hs nw bk = true then 0 else 1) else 3
theorem isTxn_any (v : Int) (w : World) : Calls Tryz.prog 60 #[.int .i64 v] w fun e w' => e = .returned (.bool (inB v 1 999)) ∧ w' = w := by
  go_enter Tryz.func60, Tryz.ntmps60
  go_wp2_with (first | (go_at_call 66; refine (within_any _ _ _ _).mono ?_; rintro e w' ⟨rfl, rfl⟩))
  go_ret
  exact ⟨rfl, rfl⟩
theorem l3Txn_any (v : Int) (w : World) : Calls Tryz.prog 45 #[.int .i64 v] w fun e w' => e = .returned (.bool (inB v 1 999)) ∧ w' = w := by
  go_enter Tryz.func45, Tryz.ntmps45
  go_wp2_with (first | (go_at_call 50; refine (l1In_any _ _ _ _).mono ?_; rintro e w' ⟨rfl, rfl⟩))
  go_ret
  exact ⟨rfl, rfl⟩
theorem turnsKey_any (k : Int) (w : World) : Calls Tryz.prog 133 #[.int .i64 k] w fun e w' => e = .returned (.bool (tnk k)) ∧ w' = w := by
  by_cases h : (k == 2) = true
  · have H : Hid (tnk k = true) := by show tnk k = true; rw [tnk, h]; rfl
    go_enter Tryz.func133, Tryz.ntmps133
    go_wp2
    go_ret
    exact ⟨ret_bool (by rw [H.out]), rfl⟩
  · have h' : (k == 2) = false := by simpa using h
    have H : Hid (tnk k = (k == 5)) := by show tnk k = _; rw [tnk, h']; rfl
    clear h
    go_enter Tryz.func133, Tryz.ntmps133
    go_wp2
    go_ret
    exact ⟨ret_bool (by rw [H.out]), rfl⟩

set_option maxHeartbeats 1000000 in
theorem recInBounds_any (k t key : Int) (hd : Bool) (old : Int) (hs : Bool) (nw bk : Int) (w : World) : Calls Tryz.prog 128 #[.agg #[.int .i64 k, .int .i64 t, .int .i64 key, .bool hd, .int .i64 old, .bool hs, .int .i64 nw, .int .i64 bk]] w fun e w' => e = .returned (.bool (rng k t key old nw bk)) ∧ Below w.heap.size w w' := by
  by_cases h6 : k = 6
  · have HT : Hid (txb k t = (t == 0)) := by show txb k t = _; rw [txb, if_pos h6]; rfl
    have h6b : (k == 6) = true := by simpa using h6
    clear h6
    by_cases h1 : inB k 1 6 = true
    · skip
      by_cases h2 : (t == 0) = true
      · skip
        by_cases h3 : inB key 0 31 = true
        · skip
          by_cases h4 : inB old 0 9999 = true
          · skip
            by_cases h5 : inB nw 0 9999 = true
            · skip
              have H : Hid (rng k t key old nw bk = inB bk 0 1000) := by show rng k t key old nw bk = _; rw [rng, HT.out, h1, h2, h3, h4, h5]; rfl
              clear HT
              go_enter Tryz.func128, Tryz.ntmps128
              go_wp2_with (first | (go_at_call 66; refine (within_any _ _ _ _).mono ?_; rintro e w' ⟨rfl, rfl⟩) | (go_at_call 60; refine (isTxn_any _ _).mono ?_; rintro e w' ⟨rfl, rfl⟩) | (go_at_call 98; refine (isKey_any _ _).mono ?_; rintro e w' ⟨rfl, rfl⟩) | (go_at_call 125; refine (isValue_any _ _).mono ?_; rintro e w' ⟨rfl, rfl⟩))
              go_ret
              exact ⟨ret_bool (by rw [H.out]), below_new _ _⟩
            · have h5f : inB nw 0 9999 = false := by simpa using h5
              clear h5
              have H : Hid (rng k t key old nw bk = false) := by show rng k t key old nw bk = _; rw [rng, HT.out, h5f]; simp
              clear HT
              go_enter Tryz.func128, Tryz.ntmps128
              go_wp2_with (first | (go_at_call 66; refine (within_any _ _ _ _).mono ?_; rintro e w' ⟨rfl, rfl⟩) | (go_at_call 60; refine (isTxn_any _ _).mono ?_; rintro e w' ⟨rfl, rfl⟩) | (go_at_call 98; refine (isKey_any _ _).mono ?_; rintro e w' ⟨rfl, rfl⟩) | (go_at_call 125; refine (isValue_any _ _).mono ?_; rintro e w' ⟨rfl, rfl⟩))
              go_ret
              exact ⟨ret_bool (by rw [H.out]), below_new _ _⟩
          · have h4f : inB old 0 9999 = false := by simpa using h4
            clear h4
            have H : Hid (rng k t key old nw bk = false) := by show rng k t key old nw bk = _; rw [rng, HT.out, h4f]; simp
            clear HT
            go_enter Tryz.func128, Tryz.ntmps128
            go_wp2_with (first | (go_at_call 66; refine (within_any _ _ _ _).mono ?_; rintro e w' ⟨rfl, rfl⟩) | (go_at_call 60; refine (isTxn_any _ _).mono ?_; rintro e w' ⟨rfl, rfl⟩) | (go_at_call 98; refine (isKey_any _ _).mono ?_; rintro e w' ⟨rfl, rfl⟩) | (go_at_call 125; refine (isValue_any _ _).mono ?_; rintro e w' ⟨rfl, rfl⟩))
            go_ret
            exact ⟨ret_bool (by rw [H.out]), below_new _ _⟩
        · have h3f : inB key 0 31 = false := by simpa using h3
          clear h3
          have H : Hid (rng k t key old nw bk = false) := by show rng k t key old nw bk = _; rw [rng, HT.out, h3f]; simp
          clear HT
          go_enter Tryz.func128, Tryz.ntmps128
          go_wp2_with (first | (go_at_call 66; refine (within_any _ _ _ _).mono ?_; rintro e w' ⟨rfl, rfl⟩) | (go_at_call 60; refine (isTxn_any _ _).mono ?_; rintro e w' ⟨rfl, rfl⟩) | (go_at_call 98; refine (isKey_any _ _).mono ?_; rintro e w' ⟨rfl, rfl⟩) | (go_at_call 125; refine (isValue_any _ _).mono ?_; rintro e w' ⟨rfl, rfl⟩))
          go_ret
          exact ⟨ret_bool (by rw [H.out]), below_new _ _⟩
      · have h2f : (t == 0) = false := by simpa using h2
        clear h2
        have H : Hid (rng k t key old nw bk = false) := by show rng k t key old nw bk = _; rw [rng, HT.out, h2f]; simp
        clear HT
        go_enter Tryz.func128, Tryz.ntmps128
        go_wp2_with (first | (go_at_call 66; refine (within_any _ _ _ _).mono ?_; rintro e w' ⟨rfl, rfl⟩) | (go_at_call 60; refine (isTxn_any _ _).mono ?_; rintro e w' ⟨rfl, rfl⟩) | (go_at_call 98; refine (isKey_any _ _).mono ?_; rintro e w' ⟨rfl, rfl⟩) | (go_at_call 125; refine (isValue_any _ _).mono ?_; rintro e w' ⟨rfl, rfl⟩))
        go_ret
        exact ⟨ret_bool (by rw [H.out]), below_new _ _⟩
    · have h1f : inB k 1 6 = false := by simpa using h1
      clear h1
      have H : Hid (rng k t key old nw bk = false) := by show rng k t key old nw bk = _; rw [rng, HT.out, h1f]; simp
      clear HT
      go_enter Tryz.func128, Tryz.ntmps128
      go_wp2_with (first | (go_at_call 66; refine (within_any _ _ _ _).mono ?_; rintro e w' ⟨rfl, rfl⟩) | (go_at_call 60; refine (isTxn_any _ _).mono ?_; rintro e w' ⟨rfl, rfl⟩) | (go_at_call 98; refine (isKey_any _ _).mono ?_; rintro e w' ⟨rfl, rfl⟩) | (go_at_call 125; refine (isValue_any _ _).mono ?_; rintro e w' ⟨rfl, rfl⟩))
      go_ret
      exact ⟨ret_bool (by rw [H.out]), below_new _ _⟩
  · have HT : Hid (txb k t = inB t 1 999) := by show txb k t = _; rw [txb, if_neg h6]
    have h6b : (k == 6) = false := by simpa using h6
    clear h6
    by_cases h1 : inB k 1 6 = true
    · skip
      by_cases h2 : inB t 1 999 = true
      · skip
        by_cases h3 : inB key 0 31 = true
        · skip
          by_cases h4 : inB old 0 9999 = true
          · skip
            by_cases h5 : inB nw 0 9999 = true
            · skip
              have H : Hid (rng k t key old nw bk = inB bk 0 1000) := by show rng k t key old nw bk = _; rw [rng, HT.out, h1, h2, h3, h4, h5]; rfl
              clear HT
              go_enter Tryz.func128, Tryz.ntmps128
              go_wp2_with (first | (go_at_call 66; refine (within_any _ _ _ _).mono ?_; rintro e w' ⟨rfl, rfl⟩) | (go_at_call 60; refine (isTxn_any _ _).mono ?_; rintro e w' ⟨rfl, rfl⟩) | (go_at_call 98; refine (isKey_any _ _).mono ?_; rintro e w' ⟨rfl, rfl⟩) | (go_at_call 125; refine (isValue_any _ _).mono ?_; rintro e w' ⟨rfl, rfl⟩))
              go_ret
              exact ⟨ret_bool (by rw [H.out]), below_new _ _⟩
            · have h5f : inB nw 0 9999 = false := by simpa using h5
              clear h5
              have H : Hid (rng k t key old nw bk = false) := by show rng k t key old nw bk = _; rw [rng, HT.out, h5f]; simp
              clear HT
              go_enter Tryz.func128, Tryz.ntmps128
              go_wp2_with (first | (go_at_call 66; refine (within_any _ _ _ _).mono ?_; rintro e w' ⟨rfl, rfl⟩) | (go_at_call 60; refine (isTxn_any _ _).mono ?_; rintro e w' ⟨rfl, rfl⟩) | (go_at_call 98; refine (isKey_any _ _).mono ?_; rintro e w' ⟨rfl, rfl⟩) | (go_at_call 125; refine (isValue_any _ _).mono ?_; rintro e w' ⟨rfl, rfl⟩))
              go_ret
              exact ⟨ret_bool (by rw [H.out]), below_new _ _⟩
          · have h4f : inB old 0 9999 = false := by simpa using h4
            clear h4
            have H : Hid (rng k t key old nw bk = false) := by show rng k t key old nw bk = _; rw [rng, HT.out, h4f]; simp
            clear HT
            go_enter Tryz.func128, Tryz.ntmps128
            go_wp2_with (first | (go_at_call 66; refine (within_any _ _ _ _).mono ?_; rintro e w' ⟨rfl, rfl⟩) | (go_at_call 60; refine (isTxn_any _ _).mono ?_; rintro e w' ⟨rfl, rfl⟩) | (go_at_call 98; refine (isKey_any _ _).mono ?_; rintro e w' ⟨rfl, rfl⟩) | (go_at_call 125; refine (isValue_any _ _).mono ?_; rintro e w' ⟨rfl, rfl⟩))
            go_ret
            exact ⟨ret_bool (by rw [H.out]), below_new _ _⟩
        · have h3f : inB key 0 31 = false := by simpa using h3
          clear h3
          have H : Hid (rng k t key old nw bk = false) := by show rng k t key old nw bk = _; rw [rng, HT.out, h3f]; simp
          clear HT
          go_enter Tryz.func128, Tryz.ntmps128
          go_wp2_with (first | (go_at_call 66; refine (within_any _ _ _ _).mono ?_; rintro e w' ⟨rfl, rfl⟩) | (go_at_call 60; refine (isTxn_any _ _).mono ?_; rintro e w' ⟨rfl, rfl⟩) | (go_at_call 98; refine (isKey_any _ _).mono ?_; rintro e w' ⟨rfl, rfl⟩) | (go_at_call 125; refine (isValue_any _ _).mono ?_; rintro e w' ⟨rfl, rfl⟩))
          go_ret
          exact ⟨ret_bool (by rw [H.out]), below_new _ _⟩
      · have h2f : inB t 1 999 = false := by simpa using h2
        clear h2
        have H : Hid (rng k t key old nw bk = false) := by show rng k t key old nw bk = _; rw [rng, HT.out, h2f]; simp
        clear HT
        go_enter Tryz.func128, Tryz.ntmps128
        go_wp2_with (first | (go_at_call 66; refine (within_any _ _ _ _).mono ?_; rintro e w' ⟨rfl, rfl⟩) | (go_at_call 60; refine (isTxn_any _ _).mono ?_; rintro e w' ⟨rfl, rfl⟩) | (go_at_call 98; refine (isKey_any _ _).mono ?_; rintro e w' ⟨rfl, rfl⟩) | (go_at_call 125; refine (isValue_any _ _).mono ?_; rintro e w' ⟨rfl, rfl⟩))
        go_ret
        exact ⟨ret_bool (by rw [H.out]), below_new _ _⟩
    · have h1f : inB k 1 6 = false := by simpa using h1
      clear h1
      have H : Hid (rng k t key old nw bk = false) := by show rng k t key old nw bk = _; rw [rng, HT.out, h1f]; simp
      clear HT
      go_enter Tryz.func128, Tryz.ntmps128
      go_wp2_with (first | (go_at_call 66; refine (within_any _ _ _ _).mono ?_; rintro e w' ⟨rfl, rfl⟩) | (go_at_call 60; refine (isTxn_any _ _).mono ?_; rintro e w' ⟨rfl, rfl⟩) | (go_at_call 98; refine (isKey_any _ _).mono ?_; rintro e w' ⟨rfl, rfl⟩) | (go_at_call 125; refine (isValue_any _ _).mono ?_; rintro e w' ⟨rfl, rfl⟩))
      go_ret
      exact ⟨ret_bool (by rw [H.out]), below_new _ _⟩

set_option maxHeartbeats 2000000 in
theorem recHasForm_any (k t key : Int) (hd : Bool) (old : Int) (hs : Bool) (nw bk : Int) (w : World) : Calls Tryz.prog 129 #[.agg #[.int .i64 k, .int .i64 t, .int .i64 key, .bool hd, .int .i64 old, .bool hs, .int .i64 nw, .int .i64 bk]] w fun e w' => e = .returned (.bool (frm k key hd old hs nw bk)) ∧ Below w.heap.size w w' := by
  by_cases ht : tnk k = true
  · rcases Bool.eq_false_or_eq_true hd with rfl | rfl
    · skip
      cases hs
      · skip
        by_cases hn : (nw == 0) = true
        · have hn2 : (nw != 0) = false := by simpa using hn
          have H : Hid (frm k key true old false nw bk = ((k == 5) == (bk != 0))) := by show frm k key true old false nw bk = ((k == 5) == (bk != 0)); simp [frm, ht, hn]
          go_enter Tryz.func129, Tryz.ntmps129
          go_wp2_with (first | (go_at_call 133; refine (turnsKey_any _ _).mono ?_; rintro e w' ⟨rfl, rfl⟩))
          go_ret
          exact ⟨ret_bool (by rw [H.out]), below_new _ _⟩
        · have hn2 : (nw != 0) = true := by simpa using hn
          have hn3 : (nw == 0) = false := by simpa using hn
          clear hn
          have H : Hid (frm k key true old false nw bk = false) := by show frm k key true old false nw bk = false; simp [frm, ht, hn3]
          go_enter Tryz.func129, Tryz.ntmps129
          go_wp2_with (first | (go_at_call 133; refine (turnsKey_any _ _).mono ?_; rintro e w' ⟨rfl, rfl⟩))
          go_ret
          exact ⟨ret_bool (by rw [H.out]), below_new _ _⟩
      · skip
        have H : Hid (frm k key true old true nw bk = ((k == 5) == (bk != 0))) := by show frm k key true old true nw bk = ((k == 5) == (bk != 0)); simp [frm, ht]
        go_enter Tryz.func129, Tryz.ntmps129
        go_wp2_with (first | (go_at_call 133; refine (turnsKey_any _ _).mono ?_; rintro e w' ⟨rfl, rfl⟩))
        go_ret
        exact ⟨ret_bool (by rw [H.out]), below_new _ _⟩
    · skip
      by_cases ho : (old == 0) = true
      · have ho2 : (old != 0) = false := by simpa using ho
        cases hs
        · skip
          by_cases hn : (nw == 0) = true
          · have hn2 : (nw != 0) = false := by simpa using hn
            have H : Hid (frm k key false old false nw bk = ((k == 5) == (bk != 0))) := by show frm k key false old false nw bk = ((k == 5) == (bk != 0)); simp [frm, ht, ho, hn]
            go_enter Tryz.func129, Tryz.ntmps129
            go_wp2_with (first | (go_at_call 133; refine (turnsKey_any _ _).mono ?_; rintro e w' ⟨rfl, rfl⟩))
            go_ret
            exact ⟨ret_bool (by rw [H.out]), below_new _ _⟩
          · have hn2 : (nw != 0) = true := by simpa using hn
            have hn3 : (nw == 0) = false := by simpa using hn
            clear hn
            have H : Hid (frm k key false old false nw bk = false) := by show frm k key false old false nw bk = false; simp [frm, ht, ho, hn3]
            go_enter Tryz.func129, Tryz.ntmps129
            go_wp2_with (first | (go_at_call 133; refine (turnsKey_any _ _).mono ?_; rintro e w' ⟨rfl, rfl⟩))
            go_ret
            exact ⟨ret_bool (by rw [H.out]), below_new _ _⟩
        · skip
          have H : Hid (frm k key false old true nw bk = ((k == 5) == (bk != 0))) := by show frm k key false old true nw bk = ((k == 5) == (bk != 0)); simp [frm, ht, ho]
          go_enter Tryz.func129, Tryz.ntmps129
          go_wp2_with (first | (go_at_call 133; refine (turnsKey_any _ _).mono ?_; rintro e w' ⟨rfl, rfl⟩))
          go_ret
          exact ⟨ret_bool (by rw [H.out]), below_new _ _⟩
      · have ho2 : (old != 0) = true := by simpa using ho
        have ho3 : (old == 0) = false := by simpa using ho
        clear ho
        have H : Hid (frm k key false old hs nw bk = false) := by show frm k key false old hs nw bk = false; simp [frm, ht, ho3]
        go_enter Tryz.func129, Tryz.ntmps129
        go_wp2_with (first | (go_at_call 133; refine (turnsKey_any _ _).mono ?_; rintro e w' ⟨rfl, rfl⟩))
        go_ret
        exact ⟨ret_bool (by rw [H.out]), below_new _ _⟩
  · have htf : tnk k = false := by simpa using ht
    clear ht
    by_cases hk : (key == 0) = true
    · have hk2 : (key != 0) = false := by simpa using hk
      cases hd
      · cases hs
        · skip
          by_cases ho : (old == 0) = true
          · have ho2 : (old != 0) = false := by simpa using ho
            by_cases hn : (nw == 0) = true
            · have hn2 : (nw != 0) = false := by simpa using hn
              have H : Hid (frm k key false old false nw bk = ((k == 5) == (bk != 0))) := by show frm k key false old false nw bk = ((k == 5) == (bk != 0)); simp [frm, htf, hk, ho, hn]
              go_enter Tryz.func129, Tryz.ntmps129
              go_wp2_with (first | (go_at_call 133; refine (turnsKey_any _ _).mono ?_; rintro e w' ⟨rfl, rfl⟩))
              go_ret
              exact ⟨ret_bool (by rw [H.out]), below_new _ _⟩
            · have hn2 : (nw != 0) = true := by simpa using hn
              have hn3 : (nw == 0) = false := by simpa using hn
              clear hn
              have H : Hid (frm k key false old false nw bk = false) := by show frm k key false old false nw bk = false; simp [frm, htf, hk, ho, hn3]
              go_enter Tryz.func129, Tryz.ntmps129
              go_wp2_with (first | (go_at_call 133; refine (turnsKey_any _ _).mono ?_; rintro e w' ⟨rfl, rfl⟩))
              go_ret
              exact ⟨ret_bool (by rw [H.out]), below_new _ _⟩
          · have ho2 : (old != 0) = true := by simpa using ho
            have ho3 : (old == 0) = false := by simpa using ho
            clear ho
            have H : Hid (frm k key false old false nw bk = false) := by show frm k key false old false nw bk = false; simp [frm, htf, hk, ho3]
            go_enter Tryz.func129, Tryz.ntmps129
            go_wp2_with (first | (go_at_call 133; refine (turnsKey_any _ _).mono ?_; rintro e w' ⟨rfl, rfl⟩))
            go_ret
            exact ⟨ret_bool (by rw [H.out]), below_new _ _⟩
        · skip
          have H : Hid (frm k key false old true nw bk = false) := by show frm k key false old true nw bk = false; simp [frm, htf, hk]
          go_enter Tryz.func129, Tryz.ntmps129
          go_wp2_with (first | (go_at_call 133; refine (turnsKey_any _ _).mono ?_; rintro e w' ⟨rfl, rfl⟩))
          go_ret
          exact ⟨ret_bool (by rw [H.out]), below_new _ _⟩
      · skip
        have H : Hid (frm k key true old hs nw bk = false) := by show frm k key true old hs nw bk = false; simp [frm, htf, hk]
        go_enter Tryz.func129, Tryz.ntmps129
        go_wp2_with (first | (go_at_call 133; refine (turnsKey_any _ _).mono ?_; rintro e w' ⟨rfl, rfl⟩))
        go_ret
        exact ⟨ret_bool (by rw [H.out]), below_new _ _⟩
    · have hk2 : (key != 0) = true := by simpa using hk
      have hk3 : (key == 0) = false := by simpa using hk
      clear hk
      have H : Hid (frm k key hd old hs nw bk = false) := by show frm k key hd old hs nw bk = false; simp [frm, htf, hk3]
      go_enter Tryz.func129, Tryz.ntmps129
      go_wp2_with (first | (go_at_call 133; refine (turnsKey_any _ _).mono ?_; rintro e w' ⟨rfl, rfl⟩))
      go_ret
      exact ⟨ret_bool (by rw [H.out]), below_new _ _⟩

set_option maxHeartbeats 1000000 in
theorem implRf_any (k t key : Int) (hd : Bool) (old : Int) (hs : Bool) (nw bk : Int) (w : World) : Calls Tryz.prog 126 #[.agg #[.int .i64 k, .int .i64 t, .int .i64 key, .bool hd, .int .i64 old, .bool hs, .int .i64 nw, .int .i64 bk]] w fun e w' => e = .returned (.int .i64 (rf k t key hd old hs nw bk)) ∧ Below w.heap.size w w' := by
  by_cases h1 : rng k t key old nw bk = true
  · by_cases h2 : frm k key hd old hs nw bk = true
    · have H : Hid (rf k t key hd old hs nw bk = 0) := by show rf k t key hd old hs nw bk = 0; rw [rf, if_pos h1, if_pos h2]
      go_enter Tryz.func126, Tryz.ntmps126
      go_wp2_with (first | (go_at_call 128; refine (recInBounds_any k t key hd old hs nw bk _).mono ?_; rintro e w1 ⟨rfl, hb1⟩; obtain ⟨hc1, hf1⟩ := bcell hb1) | (go_at_call 129; refine (recHasForm_any k t key hd old hs nw bk _).mono ?_; rintro e w2 ⟨rfl, hb2⟩))
      go_ret
      exact ⟨ret_int H.out.symm, below_then (below_then (below_new _ _) hb1) hb2⟩
    · have h2f : frm k key hd old hs nw bk = false := by simpa using h2
      have H : Hid (rf k t key hd old hs nw bk = 1) := by show rf k t key hd old hs nw bk = 1; rw [rf, if_pos h1, if_neg h2]
      clear h2
      go_enter Tryz.func126, Tryz.ntmps126
      go_wp2_with (first | (go_at_call 128; refine (recInBounds_any k t key hd old hs nw bk _).mono ?_; rintro e w1 ⟨rfl, hb1⟩; obtain ⟨hc1, hf1⟩ := bcell hb1) | (go_at_call 129; refine (recHasForm_any k t key hd old hs nw bk _).mono ?_; rintro e w2 ⟨rfl, hb2⟩))
      go_ret
      exact ⟨ret_int H.out.symm, below_then (below_then (below_new _ _) hb1) hb2⟩
  · have h1f : rng k t key old nw bk = false := by simpa using h1
    have H : Hid (rf k t key hd old hs nw bk = 3) := by show rf k t key hd old hs nw bk = 3; rw [rf, if_neg h1]
    clear h1
    go_enter Tryz.func126, Tryz.ntmps126
    go_wp2_with (first | (go_at_call 128; refine (recInBounds_any k t key hd old hs nw bk _).mono ?_; rintro e w1 ⟨rfl, hb1⟩))
    go_ret
    exact ⟨ret_int H.out.symm, below_then (below_new _ _) hb1⟩
def fl (hd hs : Bool) : Int := (if hd = true then 1 else 0) + (if hs = true then 2 else 0)
theorem fl_bd (hd hs : Bool) : 0 ≤ fl hd hs ∧ fl hd hs ≤ 3 := by cases hd <;> cases hs <;> simp [fl]
theorem flagsOf_any (k t key : Int) (hd : Bool) (old : Int) (hs : Bool) (nw bk : Int) (w : World) : Calls Tryz.prog 131 #[.agg #[.int .i64 k, .int .i64 t, .int .i64 key, .bool hd, .int .i64 old, .bool hs, .int .i64 nw, .int .i64 bk]] w fun e w' =>
    e = .returned (.int .i64 (fl hd hs)) ∧ Below w.heap.size w w' := by
  cases hd <;> cases hs
  · go_enter Tryz.func131, Tryz.ntmps131
    go_wp2
    go_ret
    exact ⟨ret_int (by decide +kernel), below_new _ _⟩
  · go_enter Tryz.func131, Tryz.ntmps131
    go_wp2
    go_ret
    exact ⟨ret_int (by decide +kernel), below_new _ _⟩
  · go_enter Tryz.func131, Tryz.ntmps131
    go_wp2
    go_ret
    exact ⟨ret_int (by decide +kernel), below_new _ _⟩
  · go_enter Tryz.func131, Tryz.ntmps131
    go_wp2
    go_ret
    exact ⟨ret_int (by decide +kernel), below_new _ _⟩
/-- The first k of the numbers, in so many bytes each. -/
def cat (F : Nat → Int) (wd : Nat) : Nat → List Int
  | 0 => []
  | k + 1 => cat F wd k ++ nb (F k) wd
theorem cat_len (F : Nat → Int) (wd : Nat) : ∀ k, (cat F wd k).length = k * wd
  | 0 => by simp [cat]
  | k + 1 => by simp [cat, cat_len F wd k, nb_len, Nat.succ_mul]
set_option maxHeartbeats 2000000 in
theorem putNumbers_any (C base width n : Nat) (F : Nat → Int) (b cap : Nat) (v : Value) (zs : List Int) (w : World) (hs : width ≤ 4) (hn : n ≤ 10) (hF : ∀ i, i < n → 0 ≤ F i ∧ F i ≤ 1000000) (hz : zs.length ≤ 900) (hC : C < base) (hB : base ≤ w.heap.size) (hm : MK w C base v zs)
    (hbl : b < w.heap.size) (hbC : b ≠ C) (hbv : v.ownBlock ≠ some b) (hc : ∀ i, i < n → w.cell? ⟨b, i, none⟩ = some (.int .i64 (F i))) :
    Calls Tryz.prog 130 #[.pointer (some ⟨C, 0, none⟩), .int .i64 width, .slice (some ⟨b, 0, none⟩) n cap] w fun e w' => e = .returned (.tuple #[]) ∧ ∃ v', MK w' C base v' (zs ++ cat F width n) ∧ Upd C v w w' ∧ Lies w v v' := by
  have HM0 : Hid (MK w C base v zs) := hm
  have HCB : Hid (C < base ∧ base ≤ w.heap.size) := ⟨hC, hB⟩
  have HF : Hid (∀ i, i < n → 0 ≤ F i ∧ F i ≤ 1000000) := hF
  have HC : Hid (∀ i, i < n → w.cell? ⟨b, i, none⟩ = some (.int .i64 (F i))) := hc
  have HBV : Hid (b < w.heap.size ∧ b ≠ C ∧ v.ownBlock ≠ some b) := ⟨hbl, hbC, hbv⟩
  clear hm hC hB hF hc hbl hbC hbv
  go_enter Tryz.func130, Tryz.ntmps130
  go_wp2
  go_loopw [7, 10] (fun _ i wr => ∃ k : Nat, k ≤ n ∧ i = .int .i64 k ∧ ∃ v', Hid (MK wr C base v' (zs ++ cat F width k)) ∧ Hid (Upd C v w wr) ∧ Hid (Lies w v v')) (fun _ i _ => n - (intOf i).toNat)
  case atStart => exact ⟨0, Nat.zero_le _, rfl, v, by rw [cat, List.append_nil]; exact HM0, Upd.refl _ _ _, .inl rfl⟩
  case round =>
    obtain ⟨k, hk0, rfl, v', HM, HU, HL⟩ := hrel
    by_cases hlt : k < n
    · have hlt' : (k : Int) < (n : Int) := by omega
      have h1 : wr.cell? ⟨b, k, none⟩ = some (.int .i64 (F k)) := (World.cell?_of_block (w := w) (a := ⟨b, k, none⟩) (HU.out.block b HBV.out.1 HBV.out.2.1 HBV.out.2.2)).trans (HC.out k hlt)
      have HZ : Hid ((zs ++ cat F width k).length ≤ 1000) := by
        show (zs ++ cat F width k).length ≤ 1000
        rw [List.length_append, cat_len]
        have : k * width ≤ 10 * 4 := Nat.mul_le_mul (by omega) hs
        omega
      go_wp2_with fail
      refine (putNumber_any C base (F k) width v' (zs ++ cat F width k) wr hs (HF.out k hlt).1 (HF.out k hlt).2 HZ.out HCB.out.1 (Nat.le_trans HCB.out.2 HU.out.size) HM.out).mono ?_
      rintro e w1 ⟨rfl, v1, hm1, hu1, hl1⟩
      have HR : Hid (MK w1 C base v1 (zs ++ cat F width (k + 1)) ∧ Upd C v w w1 ∧ Lies w v v1) := ⟨by rw [cat, ← List.append_assoc]; exact hm1, HU.out.trans HL.out hu1, HL.out.trans HU.out.size hl1⟩
      clear hm1 hu1 hl1 h1
      go_wp2_with fail
      go_roundw
      case rel => exact ⟨k + 1, hlt, by go_num, v1, HR.out.1, HR.out.2.1, HR.out.2.2⟩
      case measure => simp [intOf]; omega
    · have hkn : k = n := by omega
      go_wp2_with fail
      go_end0
      refine ⟨rfl, v', ?_, HU.out, HL.out⟩
      have h := HM.out
      rw [hkn] at h
      exact h
/-- Where putRec stands. -/
structure Sr (w wB : World) (C : Nat) (wi : World) (v : Value) (zs : List Int) : Prop where
  mkr : MK wi C (w.heap.size + 1) v zs
  os : wi.os = w.os
  tape : wi.tape = w.tape
  output : wi.output = w.output
  hsz : w.heap.size + 1 ≤ wi.heap.size
  block : ∀ k, k < w.heap.size + 1 → k ≠ C → wi.heap[k]? = wB.heap[k]?
theorem Sr.alloc {w wB wi : World} {C : Nat} {v : Value} {zs : List Int} (h : Sr w wB C wi v zs) (o : Array Value) (t : TypeId) : Sr w wB C (wi.alloc (.cells o t)) v zs := by
  refine ⟨⟨cell_alloc h.mkr.1 _, ?_, h.mkr.2.2.alloc _⟩, h.os, h.tape, h.output, by have := h.hsz; rw [World.size_alloc]; omega, fun k hk hkC => (Below.heap_alloc _ _ _ (by have := h.hsz; omega)).trans (h.block k hk hkC)⟩
  rw [frozen?_alloc_cells]; exact h.mkr.2.1
theorem Sr.step {w wB wi wj : World} {C : Nat} {v v' : Value} {zs zs' : List Int} (h : Sr w wB C wi v zs) (hm : MK wj C (w.heap.size + 1) v' zs') (hu : Upd C v wi wj) : Sr w wB C wj v' zs' :=
  ⟨hm, hu.os.trans h.os, hu.tape.trans h.tape, hu.output.trans h.output, Nat.le_trans h.hsz hu.size, fun k hk hkC => (hu.block k (by have := h.hsz; omega) hkC (own_far h.mkr.2.2 hk)).trans (h.block k hk hkC)⟩
theorem Sr.below {w wB wi wj : World} {C : Nat} {v : Value} {zs : List Int} (h : Sr w wB C wi v zs) (hC : C < w.heap.size) (hb : Below wi.heap.size wi wj) : Sr w wB C wj v zs :=
  ⟨⟨cell_below h.mkr.1 hb, (hb.frozen (p := ⟨C, 0, none⟩) (by have := h.hsz; show C < _; omega)).trans h.mkr.2.1, rowB_below h.mkr.2.2 hb⟩, hb.os.trans h.os, hb.tape.trans h.tape, hb.output.trans h.output, by have := h.hsz; have := hb.size; omega, fun k hk hkC => (hb.block k (by have := h.hsz; omega)).trans (h.block k hk hkC)⟩
theorem Sr.cell {w wB wi : World} {C : Nat} {v x : Value} {zs : List Int} {i : Nat} (h : Sr w wB C wi v zs) (hC : C < w.heap.size) (hx : wB.cell? ⟨w.heap.size, i, none⟩ = some x) : wi.cell? ⟨w.heap.size, i, none⟩ = some x :=
  (World.cell?_of_block (w := wB) (a := ⟨w.heap.size, i, none⟩) (h.block w.heap.size (by omega) (by omega))).trans hx
/-- The eight cells of a record's box. -/
def Box8 (w : World) (B : Nat) (k t key : Int) (hd : Bool) (old : Int) (hs : Bool) (nw bk : Int) : Prop := w.cell? ⟨B, 0, none⟩ = some (.int .i64 k) ∧ w.cell? ⟨B, 1, none⟩ = some (.int .i64 t) ∧ w.cell? ⟨B, 2, none⟩ = some (.int .i64 key) ∧ w.cell? ⟨B, 3, none⟩ = some (.bool hd) ∧ w.cell? ⟨B, 4, none⟩ = some (.int .i64 old) ∧ w.cell? ⟨B, 5, none⟩ = some (.bool hs) ∧ w.cell? ⟨B, 6, none⟩ = some (.int .i64 nw) ∧ w.cell? ⟨B, 7, none⟩ = some (.int .i64 bk)
theorem Sr.box8 {w wi : World} {C : Nat} {v : Value} {zs : List Int} {k t key : Int} {hd : Bool} {old : Int} {hs : Bool} {nw bk : Int} (h : Sr w (w.alloc (.cells #[.int .i64 k, .int .i64 t, .int .i64 key, .bool hd, .int .i64 old, .bool hs, .int .i64 nw, .int .i64 bk] 141)) C wi v zs) (hC : C < w.heap.size) : Box8 wi w.heap.size k t key hd old hs nw bk :=
  ⟨h.cell hC (by simp), h.cell hC (by simp), h.cell hC (by simp), h.cell hC (by simp), h.cell hC (by simp), h.cell hC (by simp), h.cell hC (by simp), h.cell hC (by simp)⟩
theorem Box8.below {w w' : World} {B : Nat} {k t key : Int} {hd : Bool} {old : Int} {hs : Bool} {nw bk : Int} (h : Box8 w B k t key hd old hs nw bk) (hb : Below w.heap.size w w') : Box8 w' B k t key hd old hs nw bk :=
  ⟨cell_below h.1 hb, cell_below h.2.1 hb, cell_below h.2.2.1 hb, cell_below h.2.2.2.1 hb, cell_below h.2.2.2.2.1 hb, cell_below h.2.2.2.2.2.1 hb, cell_below h.2.2.2.2.2.2.1 hb, cell_below h.2.2.2.2.2.2.2 hb⟩
def two (x y : Int) (i : Nat) : Int := if i = 0 then x else y
def thr (x y z : Int) (i : Nat) : Int := if i = 0 then x else if i = 1 then y else z
/-- The eleven bytes ahead of the sum. -/
def rbb (k t key : Int) (hd : Bool) (old : Int) (hs : Bool) (nw bk : Int) : List Int := nb k 1 ++ nb t 2 ++ (nb key 1 ++ nb (fl hd hs) 1) ++ (nb old 2 ++ nb nw 2 ++ nb bk 2)
/-- The bytes of a record. -/
def rb (k t key : Int) (hd : Bool) (old : Int) (hs : Bool) (nw bk : Int) : List Int := rbb k t key hd old hs nw bk ++ nb (sm (rbb k t key hd old hs nw bk)) 2
theorem rbb_len (k t key : Int) (hd : Bool) (old : Int) (hs : Bool) (nw bk : Int) : (rbb k t key hd old hs nw bk).length = 11 := by simp [rbb, nb_len]
theorem rb_len (k t key : Int) (hd : Bool) (old : Int) (hs : Bool) (nw bk : Int) : (rb k t key hd old hs nw bk).length = 13 := by simp [rb, rbb_len, nb_len]
theorem rbb_byt (k t key : Int) (hd : Bool) (old : Int) (hs : Bool) (nw bk : Int) : BytL (rbb k t key hd old hs nw bk) := (((nb_byt _ _).app (nb_byt _ _)).app ((nb_byt _ _).app (nb_byt _ _))).app (((nb_byt _ _).app (nb_byt _ _)).app (nb_byt _ _))
theorem rb_byt (k t key : Int) (hd : Bool) (old : Int) (hs : Bool) (nw bk : Int) : BytL (rb k t key hd old hs nw bk) := (rbb_byt k t key hd old hs nw bk).app (nb_byt _ _)
/-- Numbers of a good record. -/
structure GoodR (k t key : Int) (hd : Bool) (old : Int) (hs : Bool) (nw bk : Int) : Prop where
  k : 0 ≤ k ∧ k ≤ 6
  t : 0 ≤ t ∧ t ≤ 999
  key : 0 ≤ key ∧ key ≤ 31
  old : 0 ≤ old ∧ old ≤ 9999
  nw : 0 ≤ nw ∧ nw ≤ 9999
  bk : 0 ≤ bk ∧ bk ≤ 1000
theorem goodR_of (k t key : Int) (hd : Bool) (old : Int) (hs : Bool) (nw bk : Int) (h : rf k t key hd old hs nw bk = 0) : GoodR k t key hd old hs nw bk := by
  unfold rf at h
  by_cases h1 : rng k t key old nw bk = true
  · simp only [rng, Bool.and_eq_true, inB_iff] at h1
    obtain ⟨⟨⟨⟨⟨a, b⟩, c⟩, d⟩, e⟩, f⟩ := h1
    refine ⟨by omega, ?_, c, d, e, f⟩
    unfold txb at b
    split at b
    · simp at b; omega
    · rw [inB_iff] at b; omega
  · rw [if_neg h1] at h; omega
theorem drewB {w1 w2 : World} (hb : Below w1.drew.heap.size w1.drew w2) : Below w1.heap.size w1 w2 := ((Below.refl _ _).drew).trans hb
theorem put1 {w wB wi : World} {C : Nat} {v : Value} {zs : List Int} (h : Sr w wB C wi v zs) (hC : C < w.heap.size) (x : Int) (wd b : Nat) (hb : b = wi.heap.size) (hw : wd ≤ 4) (hx : 0 ≤ x ∧ x ≤ 1000000) (hz : zs.length ≤ 900) :
    Calls Tryz.prog 130 #[.pointer (some ⟨C, 0, none⟩), .int .i64 wd, .slice (some ⟨b, 0, none⟩) 1 1] (wi.alloc (.cells #[.int .i64 x] 2)) fun e w' => e = .returned (.tuple #[]) ∧ ∃ v', Sr w wB C w' v' (zs ++ (nb x wd)) := by
  subst hb
  have hA := h.alloc #[.int .i64 x] 2
  have hs := h.hsz
  have hct : cat (fun _ => x) wd 1 = nb x wd := by simp [cat]
  refine (putNumbers_any C (w.heap.size + 1) wd 1 (fun _ => x) wi.heap.size 1 v zs _ hw (by decide) (fun i hi => ?_) hz (by omega) hA.hsz hA.mkr (by simp) (by omega) (own_lt h.mkr.2.2 (Nat.le_refl _)) (fun i hi => ?_)).mono ?_
  · exact hx
  · obtain rfl : i = 0 := by omega
    simp
  · rintro e w' ⟨rfl, v', hm, hu, hl⟩
    rw [hct] at hm
    exact ⟨rfl, v', hA.step hm hu⟩
theorem put2 {w wB wi : World} {C : Nat} {v : Value} {zs : List Int} (h : Sr w wB C wi v zs) (hC : C < w.heap.size) (x y : Int) (wd b : Nat) (hb : b = wi.heap.size) (hw : wd ≤ 4) (hx : 0 ≤ x ∧ x ≤ 1000000) (hy : 0 ≤ y ∧ y ≤ 1000000) (hz : zs.length ≤ 900) :
    Calls Tryz.prog 130 #[.pointer (some ⟨C, 0, none⟩), .int .i64 wd, .slice (some ⟨b, 0, none⟩) 2 2] (wi.alloc (.cells #[.int .i64 x, .int .i64 y] 2)) fun e w' => e = .returned (.tuple #[]) ∧ ∃ v', Sr w wB C w' v' (zs ++ (nb x wd ++ nb y wd)) := by
  subst hb
  have hA := h.alloc #[.int .i64 x, .int .i64 y] 2
  have hs := h.hsz
  have hct : cat (two x y) wd 2 = nb x wd ++ nb y wd := by simp [cat, two]
  refine (putNumbers_any C (w.heap.size + 1) wd 2 (two x y) wi.heap.size 2 v zs _ hw (by decide) (fun i hi => ?_) hz (by omega) hA.hsz hA.mkr (by simp) (by omega) (own_lt h.mkr.2.2 (Nat.le_refl _)) (fun i hi => ?_)).mono ?_
  · simp only [two]; split <;> assumption
  · rcases (by omega : i = 0 ∨ i = 1) with rfl | rfl <;> simp [two]
  · rintro e w' ⟨rfl, v', hm, hu, hl⟩
    rw [hct] at hm
    exact ⟨rfl, v', hA.step hm hu⟩
theorem put3 {w wB wi : World} {C : Nat} {v : Value} {zs : List Int} (h : Sr w wB C wi v zs) (hC : C < w.heap.size) (x y z : Int) (wd b : Nat) (hb : b = wi.heap.size) (hw : wd ≤ 4) (hx : 0 ≤ x ∧ x ≤ 1000000) (hy : 0 ≤ y ∧ y ≤ 1000000) (hz : 0 ≤ z ∧ z ≤ 1000000) (hz : zs.length ≤ 900) :
    Calls Tryz.prog 130 #[.pointer (some ⟨C, 0, none⟩), .int .i64 wd, .slice (some ⟨b, 0, none⟩) 3 3] (wi.alloc (.cells #[.int .i64 x, .int .i64 y, .int .i64 z] 2)) fun e w' => e = .returned (.tuple #[]) ∧ ∃ v', Sr w wB C w' v' (zs ++ (nb x wd ++ nb y wd ++ nb z wd)) := by
  subst hb
  have hA := h.alloc #[.int .i64 x, .int .i64 y, .int .i64 z] 2
  have hs := h.hsz
  have hct : cat (thr x y z) wd 3 = nb x wd ++ nb y wd ++ nb z wd := by simp [cat, thr]
  refine (putNumbers_any C (w.heap.size + 1) wd 3 (thr x y z) wi.heap.size 3 v zs _ hw (by decide) (fun i hi => ?_) hz (by omega) hA.hsz hA.mkr (by simp) (by omega) (own_lt h.mkr.2.2 (Nat.le_refl _)) (fun i hi => ?_)).mono ?_
  · simp only [thr]; split <;> (try split) <;> assumption
  · rcases (by omega : i = 0 ∨ i = 1 ∨ i = 2) with rfl | rfl | rfl <;> simp [thr]
  · rintro e w' ⟨rfl, v', hm, hu, hl⟩
    rw [hct] at hm
    exact ⟨rfl, v', hA.step hm hu⟩
set_option maxHeartbeats 4000000 in
theorem putRec_any (C : Nat) (k t key : Int) (hd : Bool) (old : Int) (hs : Bool) (nw bk : Int) (w : World) (g : GoodR k t key hd old hs nw bk) (hC : C < w.heap.size) (hm : MK w C (w.heap.size + 1) (.slice none 0 0) []) :
    Calls Tryz.prog 127 #[.pointer (some ⟨C, 0, none⟩), .agg #[.int .i64 k, .int .i64 t, .int .i64 key, .bool hd, .int .i64 old, .bool hs, .int .i64 nw, .int .i64 bk]] w fun e w' => e = .returned (.tuple #[]) ∧ ∃ v', MK w' C (w.heap.size + 1) v' (rb k t key hd old hs nw bk) ∧
      (w'.os = w.os ∧ w'.tape = w.tape ∧ w'.output = w.output ∧ w.heap.size ≤ w'.heap.size ∧ ∀ q, q < w.heap.size → q ≠ C → w'.heap[q]? = w.heap[q]?) := by
  have HG : Hid (GoodR k t key hd old hs nw bk) := g
  have HC : Hid (C < w.heap.size) := hC
  have HCB : Hid (C < w.heap.size + 1) := by show C < w.heap.size + 1; omega
  have S0 : Hid (Sr w (w.alloc (.cells #[.int .i64 k, .int .i64 t, .int .i64 key, .bool hd, .int .i64 old, .bool hs, .int .i64 nw, .int .i64 bk] 141)) C (w.alloc (.cells #[.int .i64 k, .int .i64 t, .int .i64 key, .bool hd, .int .i64 old, .bool hs, .int .i64 nw, .int .i64 bk] 141)) (.slice none 0 0) []) := ⟨⟨cell_alloc hm.1 _, by rw [frozen?_alloc_cells]; exact hm.2.1, World.ownsRow_nil _ _ _ _⟩, rfl, rfl, rfl, by rw [World.size_alloc]; exact Nat.le_refl _, fun _ _ _ => rfl⟩
  have HFL := fl_bd hd hs
  clear g hm hC
  go_enter Tryz.func127, Tryz.ntmps127
  go_wp2_with fail
  have HH := put1 S0.out HC.out k 1 (w.heap.size + 1) (by simp) (by decide) ⟨HG.out.k.1, by have := HG.out.k; omega⟩ (by decide)
  refine HH.mono ?_
  clear HH
  rintro e w1 ⟨rfl, v1, hS1⟩
  have S1 : Hid (Sr w (w.alloc (.cells #[.int .i64 k, .int .i64 t, .int .i64 key, .bool hd, .int .i64 old, .bool hs, .int .i64 nw, .int .i64 bk] 141)) C w1 v1 ([] ++ nb k 1)) := hS1
  obtain ⟨q0, q1, q2, q3, q4, q5, q6, q7⟩ := hS1.box8 HC.out
  clear hS1
  go_wp2_with fail
  have HH := put1 S1.out HC.out t 2 w1.heap.size rfl (by decide) ⟨HG.out.t.1, by have := HG.out.t; omega⟩ (by simp [nb_len])
  refine HH.mono ?_
  clear HH q0 q1 q2 q3 q4 q5 q6 q7
  rintro e w2 ⟨rfl, v2, hS2⟩
  have S2 : Hid (Sr w (w.alloc (.cells #[.int .i64 k, .int .i64 t, .int .i64 key, .bool hd, .int .i64 old, .bool hs, .int .i64 nw, .int .i64 bk] 141)) C w2 v2 ([] ++ nb k 1 ++ nb t 2)) := hS2
  obtain ⟨q0, q1, q2, q3, q4, q5, q6, q7⟩ := hS2.box8 HC.out
  clear hS2
  go_wp2_with fail
  go_region_held3 (fun w' => w'.cell? ⟨w.heap.size, 0, none⟩ = some (.int .i64 k) ∧ w'.cell? ⟨w.heap.size, 1, none⟩ = some (.int .i64 t) ∧ w'.cell? ⟨w.heap.size, 2, none⟩ = some (.int .i64 key) ∧ w'.cell? ⟨w.heap.size, 3, none⟩ = some (.bool hd) ∧ w'.cell? ⟨w.heap.size, 4, none⟩ = some (.int .i64 old) ∧ w'.cell? ⟨w.heap.size, 5, none⟩ = some (.bool hs) ∧ w'.cell? ⟨w.heap.size, 6, none⟩ = some (.int .i64 nw) ∧ w'.cell? ⟨w.heap.size, 7, none⟩ = some (.int .i64 bk)) (go_keep)
    (first | (go_at_call 131; refine (flagsOf_any k t key hd old hs nw bk _).mono ?_; rintro e wf ⟨rfl, hbf⟩; obtain ⟨p0, p1, p2, p3, p4, p5, p6, p7⟩ := (S2.out.below HC.out (drewB hbf)).box8 HC.out) | (go_at_call 130; have HH := put2 (S2.out.below HC.out (drewB hbf)) HC.out key (fl hd hs) 1 wf.heap.size rfl (by decide) ⟨HG.out.key.1, by have := HG.out.key; omega⟩ ⟨HFL.1, by omega⟩ (by simp [nb_len]); refine HH.mono ?_; clear HH; rintro e w3 ⟨rfl, v3, hS3⟩; obtain ⟨s0, s1, s2, s3, s4, s5, s6, s7⟩ := hS3.box8 HC.out))
  have S3 : Hid (Sr w (w.alloc (.cells #[.int .i64 k, .int .i64 t, .int .i64 key, .bool hd, .int .i64 old, .bool hs, .int .i64 nw, .int .i64 bk] 141)) C w3 v3 ([] ++ nb k 1 ++ nb t 2 ++ (nb key 1 ++ nb (fl hd hs) 1))) := hS3
  clear hS3 q0 q1 q2 q3 q4 q5 q6 q7 p0 p1 p2 p3 p4 p5 p6 p7 hbf
  go_wp2_with fail
  have HH := put3 S3.out HC.out old nw bk 2 w3.heap.size rfl (by decide) ⟨HG.out.old.1, by have := HG.out.old; omega⟩ ⟨HG.out.nw.1, by have := HG.out.nw; omega⟩ ⟨HG.out.bk.1, by have := HG.out.bk; omega⟩ (by simp [nb_len])
  refine HH.mono ?_
  clear HH s0 s1 s2 s3 s4 s5 s6 s7
  rintro e w4 ⟨rfl, v4, hS4⟩
  have S4 : Hid (Sr w (w.alloc (.cells #[.int .i64 k, .int .i64 t, .int .i64 key, .bool hd, .int .i64 old, .bool hs, .int .i64 nw, .int .i64 bk] 141)) C w4 v4 (rbb k t key hd old hs nw bk)) := hS4
  clear hS4
  go_wp2_with fail
  refine (putSum_any C (w.heap.size + 1) v4 (rbb k t key hd old hs nw bk) w4 (by rw [rbb_len]; omega) (rbb_byt k t key hd old hs nw bk) HCB.out S4.out.hsz S4.out.mkr).mono ?_
  rintro e w5 ⟨rfl, v5, hm5, hu5, hl5⟩
  have S5 : Hid (Sr w (w.alloc (.cells #[.int .i64 k, .int .i64 t, .int .i64 key, .bool hd, .int .i64 old, .bool hs, .int .i64 nw, .int .i64 bk] 141)) C w5 v5 (rb k t key hd old hs nw bk)) := S4.out.step hm5 hu5
  clear hm5 hu5 hl5
  go_wp2_with fail
  go_end0
  refine ⟨rfl, v5, S5.out.mkr, S5.out.os, S5.out.tape, S5.out.output, by have := S5.out.hsz; omega, fun q hq hqC => ?_⟩
  exact (S5.out.block q (by omega) hqC).trans (Below.heap_alloc _ _ _ hq)
end Go.Proofs.YtldnfiadafmomaaGreat
