/- Records: what a record's fault is; RecFault of both sides. -/
import Derived.Test.YtnplheilojhpmaaGreatQFault
namespace Go.Proofs.YtnplheilojhpmaaGreat
open Go.RowKit Go.Deep
set_option linter.unusedVariables false
set_option maxRecDepth 20000

def txb (k t : Int) : Bool := if k = 6 then decide (t = 0) else inB t 1 999
def rng (k t key old nw bk : Int) : Bool := inB k 1 6 && txb k t && inB key 0 31 && inB old 0 9999 && inB nw 0 9999 && inB bk 0 1000
def tnk (k : Int) : Bool := (k == 2) || (k == 5)
def frm (k key : Int) (hd : Bool) (old : Int) (hs : Bool) (nw bk : Int) : Bool := (tnk k || ((key == 0) && !hd && !hs)) && (hd || (old == 0)) && (hs || (nw == 0)) && ((k == 5) == (bk != 0))
/-- The fault of a record, or 0. -/
def rf (k t key : Int) (hd : Bool) (old : Int) (hs : Bool) (nw bk : Int) : Int := if rng k t key old nw bk = true then (if frm k key hd old hs nw bk = true then 0 else 1) else 3
theorem isTxn_any (v : Int) (w : World) : Calls Tryz.prog 59 #[.int .i64 v] w fun e w' => e = .returned (.bool (inB v 1 999)) ∧ w' = w := by
  go_enter Tryz.func59, Tryz.ntmps59
  go_wp2_with (first | (go_at_call 89; refine (within_any _ _ _ _).mono ?_; rintro e w' ⟨rfl, rfl⟩))
  go_ret
  exact ⟨rfl, rfl⟩
theorem l3Txn_any (v : Int) (w : World) : Calls Tryz.prog 45 #[.int .i64 v] w fun e w' => e = .returned (.bool (inB v 1 999)) ∧ w' = w := by
  go_enter Tryz.func45, Tryz.ntmps45
  go_wp2_with (first | (go_at_call 79; refine (l1In_any _ _ _ _).mono ?_; rintro e w' ⟨rfl, rfl⟩))
  go_ret
  exact ⟨rfl, rfl⟩
theorem turnsKey_any (k : Int) (w : World) : Calls Tryz.prog 138 #[.int .i64 k] w fun e w' => e = .returned (.bool (tnk k)) ∧ w' = w := by
  by_cases h : (k == 2) = true
  · have H : Hid (tnk k = true) := by show tnk k = true; rw [tnk, h]; rfl
    go_enter Tryz.func138, Tryz.ntmps138
    go_wp2
    go_ret
    exact ⟨ret_bool (by rw [H.out]), rfl⟩
  · have h' : (k == 2) = false := by simpa using h
    have H : Hid (tnk k = (k == 5)) := by show tnk k = _; rw [tnk, h']; rfl
    clear h
    go_enter Tryz.func138, Tryz.ntmps138
    go_wp2
    go_ret
    exact ⟨ret_bool (by rw [H.out]), rfl⟩

set_option maxHeartbeats 1000000 in
theorem recInBounds_any (k t key : Int) (hd : Bool) (old : Int) (hs : Bool) (nw bk : Int) (w : World) : Calls Tryz.prog 133 #[.agg #[.int .i64 k, .int .i64 t, .int .i64 key, .bool hd, .int .i64 old, .bool hs, .int .i64 nw, .int .i64 bk]] w fun e w' => e = .returned (.bool (rng k t key old nw bk)) ∧ Below w.heap.size w w' := by
  by_cases h6 : k = 6
  · have HT : Hid (txb k t = (t == 0)) := by show txb k t = _; rw [txb, if_pos h6]; rfl
    have h6b : (k == 6) = true := by simpa using h6
    clear h6
    by_cases h1 : inB k 1 6 = true
    · skip
      by_cases h2 : (t == 0) = true
      · skip
        by_cases h3 : inB key 0 31 = true
        · skip
          by_cases h4 : inB old 0 9999 = true
          · skip
            by_cases h5 : inB nw 0 9999 = true
            · skip
              have H : Hid (rng k t key old nw bk = inB bk 0 1000) := by show rng k t key old nw bk = _; rw [rng, HT.out, h1, h2, h3, h4, h5]; rfl
              clear HT
              go_enter Tryz.func133, Tryz.ntmps133
              go_wp2_with (first | (go_at_call 89; refine (within_any _ _ _ _).mono ?_; rintro e w' ⟨rfl, rfl⟩) | (go_at_call 59; refine (isTxn_any _ _).mono ?_; rintro e w' ⟨rfl, rfl⟩) | (go_at_call 94; refine (isKey_any _ _).mono ?_; rintro e w' ⟨rfl, rfl⟩) | (go_at_call 129; refine (isValue_any _ _).mono ?_; rintro e w' ⟨rfl, rfl⟩))
              go_ret
              exact ⟨ret_bool (by rw [H.out]), below_new _ _⟩
            · have h5f : inB nw 0 9999 = false := by simpa using h5
              clear h5
              have H : Hid (rng k t key old nw bk = false) := by show rng k t key old nw bk = _; rw [rng, HT.out, h5f]; simp
              clear HT
              go_enter Tryz.func133, Tryz.ntmps133
              go_wp2_with (first | (go_at_call 89; refine (within_any _ _ _ _).mono ?_; rintro e w' ⟨rfl, rfl⟩) | (go_at_call 59; refine (isTxn_any _ _).mono ?_; rintro e w' ⟨rfl, rfl⟩) | (go_at_call 94; refine (isKey_any _ _).mono ?_; rintro e w' ⟨rfl, rfl⟩) | (go_at_call 129; refine (isValue_any _ _).mono ?_; rintro e w' ⟨rfl, rfl⟩))
              go_ret
              exact ⟨ret_bool (by rw [H.out]), below_new _ _⟩
          · have h4f : inB old 0 9999 = false := by simpa using h4
            clear h4
            have H : Hid (rng k t key old nw bk = false) := by show rng k t key old nw bk = _; rw [rng, HT.out, h4f]; simp
            clear HT
            go_enter Tryz.func133, Tryz.ntmps133
            go_wp2_with (first | (go_at_call 89; refine (within_any _ _ _ _).mono ?_; rintro e w' ⟨rfl, rfl⟩) | (go_at_call 59; refine (isTxn_any _ _).mono ?_; rintro e w' ⟨rfl, rfl⟩) | (go_at_call 94; refine (isKey_any _ _).mono ?_; rintro e w' ⟨rfl, rfl⟩) | (go_at_call 129; refine (isValue_any _ _).mono ?_; rintro e w' ⟨rfl, rfl⟩))
            go_ret
            exact ⟨ret_bool (by rw [H.out]), below_new _ _⟩
        · have h3f : inB key 0 31 = false := by simpa using h3
          clear h3
          have H : Hid (rng k t key old nw bk = false) := by show rng k t key old nw bk = _; rw [rng, HT.out, h3f]; simp
          clear HT
          go_enter Tryz.func133, Tryz.ntmps133
          go_wp2_with (first | (go_at_call 89; refine (within_any _ _ _ _).mono ?_; rintro e w' ⟨rfl, rfl⟩) | (go_at_call 59; refine (isTxn_any _ _).mono ?_; rintro e w' ⟨rfl, rfl⟩) | (go_at_call 94; refine (isKey_any _ _).mono ?_; rintro e w' ⟨rfl, rfl⟩) | (go_at_call 129; refine (isValue_any _ _).mono ?_; rintro e w' ⟨rfl, rfl⟩))
          go_ret
          exact ⟨ret_bool (by rw [H.out]), below_new _ _⟩
      · have h2f : (t == 0) = false := by simpa using h2
        clear h2
        have H : Hid (rng k t key old nw bk = false) := by show rng k t key old nw bk = _; rw [rng, HT.out, h2f]; simp
        clear HT
        go_enter Tryz.func133, Tryz.ntmps133
        go_wp2_with (first | (go_at_call 89; refine (within_any _ _ _ _).mono ?_; rintro e w' ⟨rfl, rfl⟩) | (go_at_call 59; refine (isTxn_any _ _).mono ?_; rintro e w' ⟨rfl, rfl⟩) | (go_at_call 94; refine (isKey_any _ _).mono ?_; rintro e w' ⟨rfl, rfl⟩) | (go_at_call 129; refine (isValue_any _ _).mono ?_; rintro e w' ⟨rfl, rfl⟩))
        go_ret
        exact ⟨ret_bool (by rw [H.out]), below_new _ _⟩
    · have h1f : inB k 1 6 = false := by simpa using h1
      clear h1
      have H : Hid (rng k t key old nw bk = false) := by show rng k t key old nw bk = _; rw [rng, HT.out, h1f]; simp
      clear HT
      go_enter Tryz.func133, Tryz.ntmps133
      go_wp2_with (first | (go_at_call 89; refine (within_any _ _ _ _).mono ?_; rintro e w' ⟨rfl, rfl⟩) | (go_at_call 59; refine (isTxn_any _ _).mono ?_; rintro e w' ⟨rfl, rfl⟩) | (go_at_call 94; refine (isKey_any _ _).mono ?_; rintro e w' ⟨rfl, rfl⟩) | (go_at_call 129; refine (isValue_any _ _).mono ?_; rintro e w' ⟨rfl, rfl⟩))
      go_ret
      exact ⟨ret_bool (by rw [H.out]), below_new _ _⟩
  · have HT : Hid (txb k t = inB t 1 999) := by show txb k t = _; rw [txb, if_neg h6]
    have h6b : (k == 6) = false := by simpa using h6
    clear h6
    by_cases h1 : inB k 1 6 = true
    · skip
      by_cases h2 : inB t 1 999 = true
      · skip
        by_cases h3 : inB key 0 31 = true
        · skip
          by_cases h4 : inB old 0 9999 = true
          · skip
            by_cases h5 : inB nw 0 9999 = true
            · skip
              have H : Hid (rng k t key old nw bk = inB bk 0 1000) := by show rng k t key old nw bk = _; rw [rng, HT.out, h1, h2, h3, h4, h5]; rfl
              clear HT
              go_enter Tryz.func133, Tryz.ntmps133
              go_wp2_with (first | (go_at_call 89; refine (within_any _ _ _ _).mono ?_; rintro e w' ⟨rfl, rfl⟩) | (go_at_call 59; refine (isTxn_any _ _).mono ?_; rintro e w' ⟨rfl, rfl⟩) | (go_at_call 94; refine (isKey_any _ _).mono ?_; rintro e w' ⟨rfl, rfl⟩) | (go_at_call 129; refine (isValue_any _ _).mono ?_; rintro e w' ⟨rfl, rfl⟩))
              go_ret
              exact ⟨ret_bool (by rw [H.out]), below_new _ _⟩
            · have h5f : inB nw 0 9999 = false := by simpa using h5
              clear h5
              have H : Hid (rng k t key old nw bk = false) := by show rng k t key old nw bk = _; rw [rng, HT.out, h5f]; simp
              clear HT
              go_enter Tryz.func133, Tryz.ntmps133
              go_wp2_with (first | (go_at_call 89; refine (within_any _ _ _ _).mono ?_; rintro e w' ⟨rfl, rfl⟩) | (go_at_call 59; refine (isTxn_any _ _).mono ?_; rintro e w' ⟨rfl, rfl⟩) | (go_at_call 94; refine (isKey_any _ _).mono ?_; rintro e w' ⟨rfl, rfl⟩) | (go_at_call 129; refine (isValue_any _ _).mono ?_; rintro e w' ⟨rfl, rfl⟩))
              go_ret
              exact ⟨ret_bool (by rw [H.out]), below_new _ _⟩
          · have h4f : inB old 0 9999 = false := by simpa using h4
            clear h4
            have H : Hid (rng k t key old nw bk = false) := by show rng k t key old nw bk = _; rw [rng, HT.out, h4f]; simp
            clear HT
            go_enter Tryz.func133, Tryz.ntmps133
            go_wp2_with (first | (go_at_call 89; refine (within_any _ _ _ _).mono ?_; rintro e w' ⟨rfl, rfl⟩) | (go_at_call 59; refine (isTxn_any _ _).mono ?_; rintro e w' ⟨rfl, rfl⟩) | (go_at_call 94; refine (isKey_any _ _).mono ?_; rintro e w' ⟨rfl, rfl⟩) | (go_at_call 129; refine (isValue_any _ _).mono ?_; rintro e w' ⟨rfl, rfl⟩))
            go_ret
            exact ⟨ret_bool (by rw [H.out]), below_new _ _⟩
        · have h3f : inB key 0 31 = false := by simpa using h3
          clear h3
          have H : Hid (rng k t key old nw bk = false) := by show rng k t key old nw bk = _; rw [rng, HT.out, h3f]; simp
          clear HT
          go_enter Tryz.func133, Tryz.ntmps133
          go_wp2_with (first | (go_at_call 89; refine (within_any _ _ _ _).mono ?_; rintro e w' ⟨rfl, rfl⟩) | (go_at_call 59; refine (isTxn_any _ _).mono ?_; rintro e w' ⟨rfl, rfl⟩) | (go_at_call 94; refine (isKey_any _ _).mono ?_; rintro e w' ⟨rfl, rfl⟩) | (go_at_call 129; refine (isValue_any _ _).mono ?_; rintro e w' ⟨rfl, rfl⟩))
          go_ret
          exact ⟨ret_bool (by rw [H.out]), below_new _ _⟩
      · have h2f : inB t 1 999 = false := by simpa using h2
        clear h2
        have H : Hid (rng k t key old nw bk = false) := by show rng k t key old nw bk = _; rw [rng, HT.out, h2f]; simp
        clear HT
        go_enter Tryz.func133, Tryz.ntmps133
        go_wp2_with (first | (go_at_call 89; refine (within_any _ _ _ _).mono ?_; rintro e w' ⟨rfl, rfl⟩) | (go_at_call 59; refine (isTxn_any _ _).mono ?_; rintro e w' ⟨rfl, rfl⟩) | (go_at_call 94; refine (isKey_any _ _).mono ?_; rintro e w' ⟨rfl, rfl⟩) | (go_at_call 129; refine (isValue_any _ _).mono ?_; rintro e w' ⟨rfl, rfl⟩))
        go_ret
        exact ⟨ret_bool (by rw [H.out]), below_new _ _⟩
    · have h1f : inB k 1 6 = false := by simpa using h1
      clear h1
      have H : Hid (rng k t key old nw bk = false) := by show rng k t key old nw bk = _; rw [rng, HT.out, h1f]; simp
      clear HT
      go_enter Tryz.func133, Tryz.ntmps133
      go_wp2_with (first | (go_at_call 89; refine (within_any _ _ _ _).mono ?_; rintro e w' ⟨rfl, rfl⟩) | (go_at_call 59; refine (isTxn_any _ _).mono ?_; rintro e w' ⟨rfl, rfl⟩) | (go_at_call 94; refine (isKey_any _ _).mono ?_; rintro e w' ⟨rfl, rfl⟩) | (go_at_call 129; refine (isValue_any _ _).mono ?_; rintro e w' ⟨rfl, rfl⟩))
      go_ret
      exact ⟨ret_bool (by rw [H.out]), below_new _ _⟩

set_option maxHeartbeats 2000000 in
theorem recHasForm_any (k t key : Int) (hd : Bool) (old : Int) (hs : Bool) (nw bk : Int) (w : World) : Calls Tryz.prog 134 #[.agg #[.int .i64 k, .int .i64 t, .int .i64 key, .bool hd, .int .i64 old, .bool hs, .int .i64 nw, .int .i64 bk]] w fun e w' => e = .returned (.bool (frm k key hd old hs nw bk)) ∧ Below w.heap.size w w' := by
  by_cases ht : tnk k = true
  · rcases Bool.eq_false_or_eq_true hd with rfl | rfl
    · skip
      cases hs
      · skip
        by_cases hn : (nw == 0) = true
        · have hn2 : (nw != 0) = false := by simpa using hn
          have H : Hid (frm k key true old false nw bk = ((k == 5) == (bk != 0))) := by show frm k key true old false nw bk = ((k == 5) == (bk != 0)); simp [frm, ht, hn]
          go_enter Tryz.func134, Tryz.ntmps134
          go_wp2_with (first | (go_at_call 138; refine (turnsKey_any _ _).mono ?_; rintro e w' ⟨rfl, rfl⟩))
          go_ret
          exact ⟨ret_bool (by rw [H.out]), below_new _ _⟩
        · have hn2 : (nw != 0) = true := by simpa using hn
          have hn3 : (nw == 0) = false := by simpa using hn
          clear hn
          have H : Hid (frm k key true old false nw bk = false) := by show frm k key true old false nw bk = false; simp [frm, ht, hn3]
          go_enter Tryz.func134, Tryz.ntmps134
          go_wp2_with (first | (go_at_call 138; refine (turnsKey_any _ _).mono ?_; rintro e w' ⟨rfl, rfl⟩))
          go_ret
          exact ⟨ret_bool (by rw [H.out]), below_new _ _⟩
      · skip
        have H : Hid (frm k key true old true nw bk = ((k == 5) == (bk != 0))) := by show frm k key true old true nw bk = ((k == 5) == (bk != 0)); simp [frm, ht]
        go_enter Tryz.func134, Tryz.ntmps134
        go_wp2_with (first | (go_at_call 138; refine (turnsKey_any _ _).mono ?_; rintro e w' ⟨rfl, rfl⟩))
        go_ret
        exact ⟨ret_bool (by rw [H.out]), below_new _ _⟩
    · skip
      by_cases ho : (old == 0) = true
      · have ho2 : (old != 0) = false := by simpa using ho
        cases hs
        · skip
          by_cases hn : (nw == 0) = true
          · have hn2 : (nw != 0) = false := by simpa using hn
            have H : Hid (frm k key false old false nw bk = ((k == 5) == (bk != 0))) := by show frm k key false old false nw bk = ((k == 5) == (bk != 0)); simp [frm, ht, ho, hn]
            go_enter Tryz.func134, Tryz.ntmps134
            go_wp2_with (first | (go_at_call 138; refine (turnsKey_any _ _).mono ?_; rintro e w' ⟨rfl, rfl⟩))
            go_ret
            exact ⟨ret_bool (by rw [H.out]), below_new _ _⟩
          · have hn2 : (nw != 0) = true := by simpa using hn
            have hn3 : (nw == 0) = false := by simpa using hn
            clear hn
            have H : Hid (frm k key false old false nw bk = false) := by show frm k key false old false nw bk = false; simp [frm, ht, ho, hn3]
            go_enter Tryz.func134, Tryz.ntmps134
            go_wp2_with (first | (go_at_call 138; refine (turnsKey_any _ _).mono ?_; rintro e w' ⟨rfl, rfl⟩))
            go_ret
            exact ⟨ret_bool (by rw [H.out]), below_new _ _⟩
        · skip
          have H : Hid (frm k key false old true nw bk = ((k == 5) == (bk != 0))) := by show frm k key false old true nw bk = ((k == 5) == (bk != 0)); simp [frm, ht, ho]
          go_enter Tryz.func134, Tryz.ntmps134
          go_wp2_with (first | (go_at_call 138; refine (turnsKey_any _ _).mono ?_; rintro e w' ⟨rfl, rfl⟩))
          go_ret
          exact ⟨ret_bool (by rw [H.out]), below_new _ _⟩
      · have ho2 : (old != 0) = true := by simpa using ho
        have ho3 : (old == 0) = false := by simpa using ho
        clear ho
        have H : Hid (frm k key false old hs nw bk = false) := by show frm k key false old hs nw bk = false; simp [frm, ht, ho3]
        go_enter Tryz.func134, Tryz.ntmps134
        go_wp2_with (first | (go_at_call 138; refine (turnsKey_any _ _).mono ?_; rintro e w' ⟨rfl, rfl⟩))
        go_ret
        exact ⟨ret_bool (by rw [H.out]), below_new _ _⟩
  · have htf : tnk k = false := by simpa using ht
    clear ht
    by_cases hk : (key == 0) = true
    · have hk2 : (key != 0) = false := by simpa using hk
      cases hd
      · cases hs
        · skip
          by_cases ho : (old == 0) = true
          · have ho2 : (old != 0) = false := by simpa using ho
            by_cases hn : (nw == 0) = true
            · have hn2 : (nw != 0) = false := by simpa using hn
              have H : Hid (frm k key false old false nw bk = ((k == 5) == (bk != 0))) := by show frm k key false old false nw bk = ((k == 5) == (bk != 0)); simp [frm, htf, hk, ho, hn]
              go_enter Tryz.func134, Tryz.ntmps134
              go_wp2_with (first | (go_at_call 138; refine (turnsKey_any _ _).mono ?_; rintro e w' ⟨rfl, rfl⟩))
              go_ret
              exact ⟨ret_bool (by rw [H.out]), below_new _ _⟩
            · have hn2 : (nw != 0) = true := by simpa using hn
              have hn3 : (nw == 0) = false := by simpa using hn
              clear hn
              have H : Hid (frm k key false old false nw bk = false) := by show frm k key false old false nw bk = false; simp [frm, htf, hk, ho, hn3]
              go_enter Tryz.func134, Tryz.ntmps134
              go_wp2_with (first | (go_at_call 138; refine (turnsKey_any _ _).mono ?_; rintro e w' ⟨rfl, rfl⟩))
              go_ret
              exact ⟨ret_bool (by rw [H.out]), below_new _ _⟩
          · have ho2 : (old != 0) = true := by simpa using ho
            have ho3 : (old == 0) = false := by simpa using ho
            clear ho
            have H : Hid (frm k key false old false nw bk = false) := by show frm k key false old false nw bk = false; simp [frm, htf, hk, ho3]
            go_enter Tryz.func134, Tryz.ntmps134
            go_wp2_with (first | (go_at_call 138; refine (turnsKey_any _ _).mono ?_; rintro e w' ⟨rfl, rfl⟩))
            go_ret
            exact ⟨ret_bool (by rw [H.out]), below_new _ _⟩
        · skip
          have H : Hid (frm k key false old true nw bk = false) := by show frm k key false old true nw bk = false; simp [frm, htf, hk]
          go_enter Tryz.func134, Tryz.ntmps134
          go_wp2_with (first | (go_at_call 138; refine (turnsKey_any _ _).mono ?_; rintro e w' ⟨rfl, rfl⟩))
          go_ret
          exact ⟨ret_bool (by rw [H.out]), below_new _ _⟩
      · skip
        have H : Hid (frm k key true old hs nw bk = false) := by show frm k key true old hs nw bk = false; simp [frm, htf, hk]
        go_enter Tryz.func134, Tryz.ntmps134
        go_wp2_with (first | (go_at_call 138; refine (turnsKey_any _ _).mono ?_; rintro e w' ⟨rfl, rfl⟩))
        go_ret
        exact ⟨ret_bool (by rw [H.out]), below_new _ _⟩
    · have hk2 : (key != 0) = true := by simpa using hk
      have hk3 : (key == 0) = false := by simpa using hk
      clear hk
      have H : Hid (frm k key hd old hs nw bk = false) := by show frm k key hd old hs nw bk = false; simp [frm, htf, hk3]
      go_enter Tryz.func134, Tryz.ntmps134
      go_wp2_with (first | (go_at_call 138; refine (turnsKey_any _ _).mono ?_; rintro e w' ⟨rfl, rfl⟩))
      go_ret
      exact ⟨ret_bool (by rw [H.out]), below_new _ _⟩

set_option maxHeartbeats 1000000 in
theorem implRf_any (k t key : Int) (hd : Bool) (old : Int) (hs : Bool) (nw bk : Int) (w : World) : Calls Tryz.prog 130 #[.agg #[.int .i64 k, .int .i64 t, .int .i64 key, .bool hd, .int .i64 old, .bool hs, .int .i64 nw, .int .i64 bk]] w fun e w' => e = .returned (.int .i64 (rf k t key hd old hs nw bk)) ∧ Below w.heap.size w w' := by
  by_cases h1 : rng k t key old nw bk = true
  · by_cases h2 : frm k key hd old hs nw bk = true
    · have H : Hid (rf k t key hd old hs nw bk = 0) := by show rf k t key hd old hs nw bk = 0; rw [rf, if_pos h1, if_pos h2]
      go_enter Tryz.func130, Tryz.ntmps130
      go_wp2_with (first | (go_at_call 133; refine (recInBounds_any k t key hd old hs nw bk _).mono ?_; rintro e w1 ⟨rfl, hb1⟩; obtain ⟨hc1, hf1⟩ := bcell hb1) | (go_at_call 134; refine (recHasForm_any k t key hd old hs nw bk _).mono ?_; rintro e w2 ⟨rfl, hb2⟩))
      go_ret
      exact ⟨ret_int H.out.symm, below_then (below_then (below_new _ _) hb1) hb2⟩
    · have h2f : frm k key hd old hs nw bk = false := by simpa using h2
      have H : Hid (rf k t key hd old hs nw bk = 1) := by show rf k t key hd old hs nw bk = 1; rw [rf, if_pos h1, if_neg h2]
      clear h2
      go_enter Tryz.func130, Tryz.ntmps130
      go_wp2_with (first | (go_at_call 133; refine (recInBounds_any k t key hd old hs nw bk _).mono ?_; rintro e w1 ⟨rfl, hb1⟩; obtain ⟨hc1, hf1⟩ := bcell hb1) | (go_at_call 134; refine (recHasForm_any k t key hd old hs nw bk _).mono ?_; rintro e w2 ⟨rfl, hb2⟩))
      go_ret
      exact ⟨ret_int H.out.symm, below_then (below_then (below_new _ _) hb1) hb2⟩
  · have h1f : rng k t key old nw bk = false := by simpa using h1
    have H : Hid (rf k t key hd old hs nw bk = 3) := by show rf k t key hd old hs nw bk = 3; rw [rf, if_neg h1]
    clear h1
    go_enter Tryz.func130, Tryz.ntmps130
    go_wp2_with (first | (go_at_call 133; refine (recInBounds_any k t key hd old hs nw bk _).mono ?_; rintro e w1 ⟨rfl, hb1⟩))
    go_ret
    exact ⟨ret_int H.out.symm, below_then (below_new _ _) hb1⟩
end Go.Proofs.YtnplheilojhpmaaGreat
