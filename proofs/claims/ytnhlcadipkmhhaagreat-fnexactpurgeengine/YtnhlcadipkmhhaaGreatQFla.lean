/- FloorOf: what it answers; both. -/
import Derived.Test.YtnhlcadipkmhhaaGreatQKz
import Derived.Test.YtnhlcadipkmhhaaGreatQNa
namespace Go.Proofs.YtnhlcadipkmhhaaGreat
open Go.RowKit Go.Deep
set_option linter.unusedVariables false
set_option maxRecDepth 20000

def mn2 (a b : Int) : Int := if a < b then a else b
/-- The floor, by the first k transactions. -/
def flF (ck : Int) (T : Nat → Tx) : Nat → Int
  | 0 => ck
  | k + 1 => if (T k).st = 1 then mn2 (flF ck T k) (T k).am else flF ck T k
def foV (E : En) : Int := if eF E = 0 then flF E.ck E.T E.p else 0
theorem l1Min_any (a b : Int) (w : World) : Calls Tryz.prog 131 #[.int .i64 a, .int .i64 b] w fun e w' => e = .returned (.int .i64 (mn2 a b)) ∧ w' = w := by
  by_cases h : a < b
  · have HE : Hid (mn2 a b = a) := if_pos h
    go_enter Tryz.func131, Tryz.ntmps131
    go_wp2_with fail
    go_ret
    exact ⟨ret_int HE.out.symm, rfl⟩
  · have HE : Hid (mn2 a b = b) := if_neg h
    go_enter Tryz.func131, Tryz.ntmps131
    go_wp2_with fail
    go_ret
    exact ⟨ret_int HE.out.symm, rfl⟩
set_option maxHeartbeats 4000000 in
theorem l7Floor_any (E : En) (B : Nat) (a : Option Addr) (cap : Nat) (a' : Option Addr) (cap' : Nat) (w : World) (hp : E.p ≤ 20) (h : EBox w B a cap a' cap' E) :
    Calls Tryz.prog 86 #[.pointer (some ⟨B, 0, none⟩)] w fun e w' => e = .returned (.int .i64 (flF E.ck E.T E.p)) ∧ w' = w := by
  have HX : Hid (TxsAt w a E.p E.T) := h.2.1
  obtain ⟨b0, b1, b2, b3⟩ := h.1
  clear h b0 b3
  go_enter Tryz.func86, Tryz.ntmps86
  go_wp2_with fail
  clear b1
  go_loop [3, 4] (fun f i => ∃ k : Nat, k ≤ E.p ∧ i = .int .i64 k ∧ f = .int .i64 (flF E.ck E.T k)) (fun _ i => E.p - (intOf i).toNat)
  case atStart => exact ⟨0, Nat.zero_le _, rfl, rfl⟩
  case round =>
    obtain ⟨k, hk, rfl, rfl⟩ := hrel
    by_cases hlt : k < E.p
    · have hlt' : (k : Int) < (E.p : Int) := by omega
      have hk0 : (0 : Int) ≤ (k : Int) := by omega
      rcases HX.out with h | ⟨bb, off, rfl, hl, hcc⟩
      · omega
      obtain ⟨ti, tc, ⟨x0, x1, x2, x3, x4⟩, -, -⟩ := hcc k hlt
      clear hcc x0 x3 x4
      by_cases hst : (E.T k).st = 1
      · have HE1 : Hid (flF E.ck E.T (k + 1) = mn2 (flF E.ck E.T k) (E.T k).am) := if_pos hst
        have hst2 : ((E.T k).st == 1) = true := by simp [hst]
        clear hst
        go_wp2_with (first | (go_at_call 131; refine (l1Min_any _ _ _).mono ?_; rintro e w' ⟨rfl, hw'⟩; rw [hw']; clear hw'))
        go_round
        case rel => exact ⟨k + 1, hlt, by go_num, by rw [HE1.out]⟩
        case measure => simp [intOf]; omega
      · have HE1 : Hid (flF E.ck E.T (k + 1) = flF E.ck E.T k) := if_neg hst
        have hst2 : ((E.T k).st == 1) = false := by simp [hst]
        clear hst
        go_wp2_with fail
        go_round
        case rel => exact ⟨k + 1, hlt, by go_num, by rw [HE1.out]⟩
        case measure => simp [intOf]; omega
    · have hkn : k = E.p := by omega
      have hnl : ¬ ((k : Int) < (E.p : Int)) := by omega
      go_wp2_with fail
      go_ret
      exact ⟨ret_int (by first | rfl | rw [hkn]), rfl⟩
/-! ### the program -/
theorem isOpen_any (t : Tx) (ai : Option Addr) (ci : Nat) (w : World) :
    Calls Tryz.prog 78 #[.agg #[.int .i64 t.id, .int .i64 t.am, .int .i64 t.st, .int .i64 t.dn, .slice ai t.n ci]] w fun e w' => e = .returned (.bool (t.st == 1)) ∧ Below w.heap.size w w' := by
  go_enter Tryz.func78, Tryz.ntmps78
  go_wp2_with fail
  go_ret
  exact ⟨rfl, below_new _ _⟩
set_option maxHeartbeats 4000000 in
theorem floorOf_any (E : En) (a : Option Addr) (cap : Nat) (a' : Option Addr) (cap' : Nat) (w : World) (hp : E.p ≤ 20) (h : EngAt w a a' E) :
    Calls Tryz.prog 89 #[.agg #[.int .i64 E.nx, .int .i64 E.ck, .slice a E.p cap, .slice a' E.q cap']] w fun e w' => e = .returned (.int .i64 (flF E.ck E.T E.p)) ∧ Below w.heap.size w w' := by
  have HX : Hid (TxsAt w a E.p E.T) := h.1
  clear h
  go_enter Tryz.func89, Tryz.ntmps89
  go_wp2_with fail
  go_loopw [3, 5, 11] (fun f _ i wr => ∃ k : Nat, k ≤ E.p ∧ i = .int .i64 k ∧ f = .int .i64 (flF E.ck E.T k) ∧ Hid (Below w.heap.size w wr)) (fun _ _ i _ => E.p - (intOf i).toNat)
  case atStart => exact ⟨0, Nat.zero_le _, rfl, rfl, (Below.refl _ _).alloc (Nat.le_refl _) _⟩
  case round =>
    obtain ⟨k, hk, rfl, rfl, HB⟩ := hrel
    by_cases hlt : k < E.p
    · have hlt' : (k : Int) < (E.p : Int) := by omega
      have hk0 : (0 : Int) ≤ (k : Int) := by omega
      rcases HX.out.below HB.out with h | ⟨bb, off, rfl, hl, hcc⟩
      · omega
      obtain ⟨ti, tc, ⟨x0, x1, x2, x3, x4⟩, -, -⟩ := hcc k hlt
      clear hcc
      have y1 : ∀ o : Obj, o = .cells #[.int .i64 (E.T k).id, .int .i64 (E.T k).am, .int .i64 (E.T k).st, .int .i64 (E.T k).dn, .slice ti (E.T k).n tc] 64 → (wr.alloc o).cell? ⟨wr.heap.size, 1, none⟩ = some (.int .i64 (E.T k).am) := by
        rintro o rfl
        simp [go_sem]
      by_cases hst : (E.T k).st = 1
      · have HE1 : Hid (flF E.ck E.T (k + 1) = mn2 (flF E.ck E.T k) (E.T k).am) := if_pos hst
        have hst2 : ((E.T k).st == 1) = true := by simp [hst]
        clear hst
        go_wp2_with fail
        refine (isOpen_any (E.T k) ti tc _).mono ?_
        rintro e w2 ⟨rfl, hb2⟩
        have HB2 : Hid (Below w.heap.size w w2) := below_then (below_then HB.out (below_new _ _)) hb2
        replace y1 := cell_below (y1 _ rfl) hb2
        clear hb2 x0 x1 x2 x3 x4
        rw [hst2]
        by_cases hm : flF E.ck E.T k < (E.T k).am
        · have HM : Hid (mn2 (flF E.ck E.T k) (E.T k).am = flF E.ck E.T k) := if_pos hm
          have hm2 : min (flF E.ck E.T k) (E.T k).am = flF E.ck E.T k := by omega
          generalize hf : flF E.ck E.T k = ff at *
          go_wp2_with fail
          go_roundw
          case rel => exact ⟨k + 1, hlt, by go_num, by rw [HE1.out, HM.out], HB2⟩
          case measure => simp [intOf]; omega
        · have HM : Hid (mn2 (flF E.ck E.T k) (E.T k).am = (E.T k).am) := if_neg hm
          have hm2 : min (flF E.ck E.T k) (E.T k).am = (E.T k).am := by omega
          have HM3 : Hid ((if (E.T k).am < flF E.ck E.T k then (E.T k).am else flF E.ck E.T k) = (E.T k).am) := by
            show _ = _
            split <;> omega
          generalize hf : flF E.ck E.T k = ff at *
          go_wp2_with fail
          go_roundw
          case rel => exact ⟨k + 1, hlt, by go_num, by rw [HE1.out, HM.out]; first | rfl | rw [HM3.out], HB2⟩
          case measure => simp [intOf]; omega
      · have HE1 : Hid (flF E.ck E.T (k + 1) = flF E.ck E.T k) := if_neg hst
        have hst2 : ((E.T k).st == 1) = false := by simp [hst]
        clear hst
        go_wp2_with fail
        refine (isOpen_any (E.T k) ti tc _).mono ?_
        rintro e w2 ⟨rfl, hb2⟩
        have HB2 : Hid (Below w.heap.size w w2) := below_then (below_then HB.out (below_new _ _)) hb2
        clear hb2 x0 x1 x2 x3 x4 y1
        rw [hst2]
        go_wp2_with fail
        go_roundw
        case rel => exact ⟨k + 1, hlt, by go_num, by rw [HE1.out], HB2⟩
        case measure => simp [intOf]; omega
    · have hkn : k = E.p := by omega
      have hnl : ¬ ((k : Int) < (E.p : Int)) := by omega
      go_wp2_with fail
      go_ret
      exact ⟨ret_int (by first | rfl | rw [hkn]), HB.out⟩
end Go.Proofs.YtnhlcadipkmhhaaGreat
