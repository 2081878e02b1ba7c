/- Bytes as strings. -/
import Derived.Test.YtaokclhcmgbgnaaGreatQRf
import Derived.Test.YtaokclhcmgbgnaaGreatQCq
import Derived.Laws.BytesArg
namespace Go.Proofs.YtaokclhcmgbgnaaGreat
open Go.RowKit Go.Deep
set_option linter.unusedVariables false
set_option maxRecDepth 20000

set_option maxHeartbeats 2000000 in
theorem specRf_range (k t key : Int) (hd : Bool) (old : Int) (hs : Bool) (nw bk : Int) (w : World) (hr : Hid (¬ rng k t key old nw bk = true)) : Calls Tryz.prog 118 #[.agg #[.int .i64 k, .int .i64 t, .int .i64 key, .bool hd, .int .i64 old, .bool hs, .int .i64 nw, .int .i64 bk]] w fun e w' => e = .returned (.int .i64 (rf k t key hd old hs nw bk)) ∧ Below w.heap.size w w' := by
  by_cases h1 : inB k 1 6 = true
  · by_cases h6 : k = 6
    · have HT : Hid (txb k t = (t == 0)) := by show txb k t = _; rw [txb, if_pos h6]; rfl
      have h6b : (k == 6) = true := by simpa using h6
      by_cases h0 : (t == 0) = true
      · have h0b : (t != 0) = false := by simpa using h0
        have hx : Hid ((t == 0) = true) := h0
        by_cases h3 : inB key 0 31 = true
        · skip
          by_cases h4 : inB old 0 9999 = true
          · skip
            by_cases h5 : inB nw 0 9999 = true
            · skip
              by_cases h7 : inB bk 0 1000 = true
              · skip
                exact absurd (by simp [rng, HT.out, h1, hx.out, h3, h4, h5, h7]) hr.out
              · have h7f : inB bk 0 1000 = false := by simpa using h7
                clear h7
                have H : Hid (rf k t key hd old hs nw bk = 3) := by show rf k t key hd old hs nw bk = 3; rw [rf, if_neg (by simp [rng, h7f])]
                go_enter Tryz.func118, Tryz.ntmps118
                go_wp2_with (first | (go_at_call 26; refine (l1In_any _ _ _ _).mono ?_; rintro e w' ⟨rfl, rfl⟩) | (go_at_call 81; refine (l3Txn_any _ _).mono ?_; rintro e w' ⟨rfl, rfl⟩) | (go_at_call 64; refine (l1Key_any _ _).mono ?_; rintro e w' ⟨rfl, rfl⟩) | (go_at_call 65; refine (l1Value_any _ _).mono ?_; rintro e w' ⟨rfl, rfl⟩))
                go_ret
                exact ⟨ret_int H.out.symm, below_new _ _⟩
            · have h5f : inB nw 0 9999 = false := by simpa using h5
              clear h5
              have H : Hid (rf k t key hd old hs nw bk = 3) := by show rf k t key hd old hs nw bk = 3; rw [rf, if_neg (by simp [rng, h5f])]
              go_enter Tryz.func118, Tryz.ntmps118
              go_wp2_with (first | (go_at_call 26; refine (l1In_any _ _ _ _).mono ?_; rintro e w' ⟨rfl, rfl⟩) | (go_at_call 81; refine (l3Txn_any _ _).mono ?_; rintro e w' ⟨rfl, rfl⟩) | (go_at_call 64; refine (l1Key_any _ _).mono ?_; rintro e w' ⟨rfl, rfl⟩) | (go_at_call 65; refine (l1Value_any _ _).mono ?_; rintro e w' ⟨rfl, rfl⟩))
              go_ret
              exact ⟨ret_int H.out.symm, below_new _ _⟩
          · have h4f : inB old 0 9999 = false := by simpa using h4
            clear h4
            have H : Hid (rf k t key hd old hs nw bk = 3) := by show rf k t key hd old hs nw bk = 3; rw [rf, if_neg (by simp [rng, h4f])]
            go_enter Tryz.func118, Tryz.ntmps118
            go_wp2_with (first | (go_at_call 26; refine (l1In_any _ _ _ _).mono ?_; rintro e w' ⟨rfl, rfl⟩) | (go_at_call 81; refine (l3Txn_any _ _).mono ?_; rintro e w' ⟨rfl, rfl⟩) | (go_at_call 64; refine (l1Key_any _ _).mono ?_; rintro e w' ⟨rfl, rfl⟩) | (go_at_call 65; refine (l1Value_any _ _).mono ?_; rintro e w' ⟨rfl, rfl⟩))
            go_ret
            exact ⟨ret_int H.out.symm, below_new _ _⟩
        · have h3f : inB key 0 31 = false := by simpa using h3
          clear h3
          have H : Hid (rf k t key hd old hs nw bk = 3) := by show rf k t key hd old hs nw bk = 3; rw [rf, if_neg (by simp [rng, h3f])]
          go_enter Tryz.func118, Tryz.ntmps118
          go_wp2_with (first | (go_at_call 26; refine (l1In_any _ _ _ _).mono ?_; rintro e w' ⟨rfl, rfl⟩) | (go_at_call 81; refine (l3Txn_any _ _).mono ?_; rintro e w' ⟨rfl, rfl⟩) | (go_at_call 64; refine (l1Key_any _ _).mono ?_; rintro e w' ⟨rfl, rfl⟩) | (go_at_call 65; refine (l1Value_any _ _).mono ?_; rintro e w' ⟨rfl, rfl⟩))
          go_ret
          exact ⟨ret_int H.out.symm, below_new _ _⟩
      · have h0f : (t == 0) = false := by simpa using h0
        clear h0
        have H : Hid (rf k t key hd old hs nw bk = 3) := by show rf k t key hd old hs nw bk = 3; rw [rf, if_neg (by simp [rng, HT.out, h0f])]
        go_enter Tryz.func118, Tryz.ntmps118
        go_wp2_with (first | (go_at_call 26; refine (l1In_any _ _ _ _).mono ?_; rintro e w' ⟨rfl, rfl⟩) | (go_at_call 81; refine (l3Txn_any _ _).mono ?_; rintro e w' ⟨rfl, rfl⟩) | (go_at_call 64; refine (l1Key_any _ _).mono ?_; rintro e w' ⟨rfl, rfl⟩) | (go_at_call 65; refine (l1Value_any _ _).mono ?_; rintro e w' ⟨rfl, rfl⟩))
        go_ret
        exact ⟨ret_int H.out.symm, below_new _ _⟩
    · have HT : Hid (txb k t = inB t 1 999) := by show txb k t = _; rw [txb, if_neg h6]
      have h6b : (k == 6) = false := by simpa using h6
      by_cases h0 : (t == 0) = true
      · have hxf : inB t 1 999 = false := by
          have : t = 0 := by simpa using h0
          subst this; decide
        have H : Hid (rf k t key hd old hs nw bk = 3) := by show rf k t key hd old hs nw bk = 3; rw [rf, if_neg (by simp [rng, HT.out, hxf])]
        go_enter Tryz.func118, Tryz.ntmps118
        go_wp2_with (first | (go_at_call 26; refine (l1In_any _ _ _ _).mono ?_; rintro e w' ⟨rfl, rfl⟩) | (go_at_call 81; refine (l3Txn_any _ _).mono ?_; rintro e w' ⟨rfl, rfl⟩) | (go_at_call 64; refine (l1Key_any _ _).mono ?_; rintro e w' ⟨rfl, rfl⟩) | (go_at_call 65; refine (l1Value_any _ _).mono ?_; rintro e w' ⟨rfl, rfl⟩))
        go_ret
        exact ⟨ret_int H.out.symm, below_new _ _⟩
      · have h0f : (t == 0) = false := by simpa using h0
        have h0b : (t != 0) = true := by simpa using h0
        clear h0
        by_cases hxx : inB t 1 999 = true
        · have hx : Hid (inB t 1 999 = true) := hxx
          by_cases h3 : inB key 0 31 = true
          · skip
            by_cases h4 : inB old 0 9999 = true
            · skip
              by_cases h5 : inB nw 0 9999 = true
              · skip
                by_cases h7 : inB bk 0 1000 = true
                · skip
                  exact absurd (by simp [rng, HT.out, h1, hx.out, h3, h4, h5, h7]) hr.out
                · have h7f : inB bk 0 1000 = false := by simpa using h7
                  clear h7
                  have H : Hid (rf k t key hd old hs nw bk = 3) := by show rf k t key hd old hs nw bk = 3; rw [rf, if_neg (by simp [rng, h7f])]
                  go_enter Tryz.func118, Tryz.ntmps118
                  go_wp2_with (first | (go_at_call 26; refine (l1In_any _ _ _ _).mono ?_; rintro e w' ⟨rfl, rfl⟩) | (go_at_call 81; refine (l3Txn_any _ _).mono ?_; rintro e w' ⟨rfl, rfl⟩) | (go_at_call 64; refine (l1Key_any _ _).mono ?_; rintro e w' ⟨rfl, rfl⟩) | (go_at_call 65; refine (l1Value_any _ _).mono ?_; rintro e w' ⟨rfl, rfl⟩))
                  go_ret
                  exact ⟨ret_int H.out.symm, below_new _ _⟩
              · have h5f : inB nw 0 9999 = false := by simpa using h5
                clear h5
                have H : Hid (rf k t key hd old hs nw bk = 3) := by show rf k t key hd old hs nw bk = 3; rw [rf, if_neg (by simp [rng, h5f])]
                go_enter Tryz.func118, Tryz.ntmps118
                go_wp2_with (first | (go_at_call 26; refine (l1In_any _ _ _ _).mono ?_; rintro e w' ⟨rfl, rfl⟩) | (go_at_call 81; refine (l3Txn_any _ _).mono ?_; rintro e w' ⟨rfl, rfl⟩) | (go_at_call 64; refine (l1Key_any _ _).mono ?_; rintro e w' ⟨rfl, rfl⟩) | (go_at_call 65; refine (l1Value_any _ _).mono ?_; rintro e w' ⟨rfl, rfl⟩))
                go_ret
                exact ⟨ret_int H.out.symm, below_new _ _⟩
            · have h4f : inB old 0 9999 = false := by simpa using h4
              clear h4
              have H : Hid (rf k t key hd old hs nw bk = 3) := by show rf k t key hd old hs nw bk = 3; rw [rf, if_neg (by simp [rng, h4f])]
              go_enter Tryz.func118, Tryz.ntmps118
              go_wp2_with (first | (go_at_call 26; refine (l1In_any _ _ _ _).mono ?_; rintro e w' ⟨rfl, rfl⟩) | (go_at_call 81; refine (l3Txn_any _ _).mono ?_; rintro e w' ⟨rfl, rfl⟩) | (go_at_call 64; refine (l1Key_any _ _).mono ?_; rintro e w' ⟨rfl, rfl⟩) | (go_at_call 65; refine (l1Value_any _ _).mono ?_; rintro e w' ⟨rfl, rfl⟩))
              go_ret
              exact ⟨ret_int H.out.symm, below_new _ _⟩
          · have h3f : inB key 0 31 = false := by simpa using h3
            clear h3
            have H : Hid (rf k t key hd old hs nw bk = 3) := by show rf k t key hd old hs nw bk = 3; rw [rf, if_neg (by simp [rng, h3f])]
            go_enter Tryz.func118, Tryz.ntmps118
            go_wp2_with (first | (go_at_call 26; refine (l1In_any _ _ _ _).mono ?_; rintro e w' ⟨rfl, rfl⟩) | (go_at_call 81; refine (l3Txn_any _ _).mono ?_; rintro e w' ⟨rfl, rfl⟩) | (go_at_call 64; refine (l1Key_any _ _).mono ?_; rintro e w' ⟨rfl, rfl⟩) | (go_at_call 65; refine (l1Value_any _ _).mono ?_; rintro e w' ⟨rfl, rfl⟩))
            go_ret
            exact ⟨ret_int H.out.symm, below_new _ _⟩
        · have hxf : inB t 1 999 = false := by simpa using hxx
          clear hxx
          have H : Hid (rf k t key hd old hs nw bk = 3) := by show rf k t key hd old hs nw bk = 3; rw [rf, if_neg (by simp [rng, HT.out, hxf])]
          go_enter Tryz.func118, Tryz.ntmps118
          go_wp2_with (first | (go_at_call 26; refine (l1In_any _ _ _ _).mono ?_; rintro e w' ⟨rfl, rfl⟩) | (go_at_call 81; refine (l3Txn_any _ _).mono ?_; rintro e w' ⟨rfl, rfl⟩) | (go_at_call 64; refine (l1Key_any _ _).mono ?_; rintro e w' ⟨rfl, rfl⟩) | (go_at_call 65; refine (l1Value_any _ _).mono ?_; rintro e w' ⟨rfl, rfl⟩))
          go_ret
          exact ⟨ret_int H.out.symm, below_new _ _⟩
  · have h1f : inB k 1 6 = false := by simpa using h1
    clear h1
    have H : Hid (rf k t key hd old hs nw bk = 3) := by show rf k t key hd old hs nw bk = 3; rw [rf, if_neg (by simp [rng, h1f])]
    go_enter Tryz.func118, Tryz.ntmps118
    go_wp2_with (first | (go_at_call 26; refine (l1In_any _ _ _ _).mono ?_; rintro e w' ⟨rfl, rfl⟩) | (go_at_call 81; refine (l3Txn_any _ _).mono ?_; rintro e w' ⟨rfl, rfl⟩) | (go_at_call 64; refine (l1Key_any _ _).mono ?_; rintro e w' ⟨rfl, rfl⟩) | (go_at_call 65; refine (l1Value_any _ _).mono ?_; rintro e w' ⟨rfl, rfl⟩))
    go_ret
    exact ⟨ret_int H.out.symm, below_new _ _⟩
theorem u8_inj {x y : Int} (hx : 0 ≤ x ∧ x ≤ 255) (hy : 0 ≤ y ∧ y ≤ 255) (h : UInt8.ofNat x.toNat = UInt8.ofNat y.toNat) : x = y := by
  have h2 := congrArg UInt8.toNat h
  simp at h2
  omega
theorem map_inj8 : ∀ {xs ys : List Int}, (∀ x ∈ xs, 0 ≤ x ∧ x ≤ 255) → (∀ y ∈ ys, 0 ≤ y ∧ y ≤ 255) → (xs.map fun n => UInt8.ofNat n.toNat) = (ys.map fun n => UInt8.ofNat n.toNat) → xs = ys
  | [], [], _, _, _ => rfl
  | [], y :: ys, _, _, h => by simp at h
  | x :: xs, [], _, _, h => by simp at h
  | x :: xs, y :: ys, hx, hy, h => by
    simp only [List.map_cons, List.cons.injEq] at h
    rw [u8_inj (hx x (by simp)) (hy y (by simp)) h.1, map_inj8 (fun q hq => hx q (by simp [hq])) (fun q hq => hy q (by simp [hq])) h.2]
theorem strEq {xs ys : List Int} (hx : ∀ x ∈ xs, 0 ≤ x ∧ x ≤ 255) (hy : ∀ y ∈ ys, 0 ≤ y ∧ y ≤ 255) : ((strOfNums xs).toList == (strOfNums ys).toList) = decide (xs = ys) := by
  rw [ByteArray.toList_eq, ByteArray.toList_eq, strOfNums_data, strOfNums_data]
  by_cases h : xs = ys
  · subst h; simp
  · simp only [h, decide_false]
    cases e : ((xs.map fun n => UInt8.ofNat n.toNat) == (ys.map fun n => UInt8.ofNat n.toNat))
    · rfl
    · exact absurd (map_inj8 hx hy (by simpa using e)) h
theorem convBA {b off n cap : Nat} {z : Nat → Int} (w : World) (h : BA w b off n z) :
    (convert 27 9 (.slice (some ⟨b, off, none⟩) n cap)).run Tryz.prog w = .ok (.string (strOfNums (zL z n))) w :=
  run_convert_bytes_arg (P := Tryz.prog) w 27 5 Tryz.underlying27 Tryz.underlying5 b off n cap (zL z n) (zL_len z n) (fun i hi => by rw [zL_get z n i hi]; exact h i hi) 9 Tryz.underlying9
theorem convRow {G C n B : Nat} {zs : List Int} (w : World) (hn : zs.length = n) (h : w.ownsRow B 5 1 (.slice (some ⟨G, 0, none⟩) n C) n (bl zs)) :
    (convert 27 9 (.slice (some ⟨G, 0, none⟩) n C)).run Tryz.prog w = .ok (.string (strOfNums zs)) w :=
  run_convert_bytes_arg (P := Tryz.prog) w 27 5 Tryz.underlying27 Tryz.underlying5 G 0 n C zs hn (fun i hi => by
    have := h.cells rfl i (.int .u8 (zs.getD i 0)) (by simp [bl, List.getD, hn, hi])
    rw [WideShapes.add_plain] at this
    exact this) 9 Tryz.underlying9
end Go.Proofs.YtaokclhcmgbgnaaGreat
