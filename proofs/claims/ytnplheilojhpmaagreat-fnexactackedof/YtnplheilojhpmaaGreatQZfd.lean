/- spec.StoreFault: the model's walks. -/
import Derived.Test.YtnplheilojhpmaaGreatQZfc
import Derived.Test.YtnplheilojhpmaaGreatQDg
namespace Go.Proofs.YtnplheilojhpmaaGreat
open Go.RowKit Go.Deep
set_option linter.unusedVariables false
set_option maxRecDepth 20000

theorem l1Has_q (F : Nat → Int) (n : Nat) (a : Option Addr) (cap : Nat) (v : Int) (w : World) (hn : n ≤ 100000) (h : IntsAt w a n F) :
    Calls Tryz.prog 83 #[.slice a n cap, .int .i64 v] w fun e w' => e = .returned (.bool (decide (v ∈ ivL F n))) ∧ ∃ m, w' = w.drewN m := by
  refine (l1HasF_any F n a cap v w hn h).mono ?_
  rintro e w' ⟨rfl, rfl⟩
  exact ⟨rfl, 0, rfl⟩
set_option maxHeartbeats 8000000 in
theorem l12Pages_any (pn : Nat) (T : Nat → Pg) (B : Nat) (a : Option Addr) (cap : Nat) (w : World) (hn : pn ≤ 1048576) (hL : ∀ i, i < pn → SmPg (T i)) (hx : w.cell? ⟨B, 1, none⟩ = some (.slice a pn cap)) (h : PgsAt w a pn T) :
    Calls Tryz.prog 46 #[.pointer (some ⟨B, 0, none⟩)] w fun e w' => e = .returned (.int .i64 (if pn = 4 then psF T pn 0 else 1)) ∧ Below w.heap.size w w' := by
  have HA : Hid (PgsAt w a pn T) := h
  have HL : Hid (∀ i, i < pn → SmPg (T i)) := hL
  clear h hL
  go_enter Tryz.func46, Tryz.ntmps46
  by_cases k2 : pn = 4
  case neg =>
    rw [if_neg k2]
    have k3 : ((pn : Int) != 4) = true := by simp; omega
    clear k2
    go_wp2_with fail
    go_ret
    exact ⟨rfl, Below.refl _ _⟩
  rw [if_pos k2]
  have k3 : ((pn : Int) != 4) = false := by simp; omega
  clear k2
  go_wp2_with fail
  go_loopw [3, 4, 5, 6] (fun i _ _ _ wr => ∃ k : Nat, k ≤ pn ∧ i = .int .i64 k ∧ Hid (psF T pn 0 = psF T (pn - k) k) ∧ Hid (Below w.heap.size w wr) ∧ wr.cell? ⟨B, 1, none⟩ = some (.slice a pn cap)) (fun i _ _ _ _ => pn - (intOf i).toNat)
  case atStart => exact ⟨0, Nat.zero_le _, rfl, rfl, Below.refl _ _, hx⟩
  case round =>
    clear hx
    obtain ⟨k, hk, rfl, HC, HB, hx⟩ := hrel
    by_cases hlt : k < pn
    · have hlt' : (k : Int) < (pn : Int) := by omega
      have hk0 : (0 : Int) ≤ (k : Int) := by omega
      rcases HA.out.below HB.out with h | ⟨b, off, rfl, hl, hc⟩
      · omega
      obtain ⟨pa, pc, ⟨q0, q1, q2⟩, ⟨hI, -⟩, -⟩ := hc k hlt
      have HI : Hid (CellsAt wr pa (T k).cn (T k).cK (T k).cV) := hI
      have HSk : (T k).cn ≤ 1048576 := (HL.out k hlt).1
      have HD : Hid (psF T pn 0 = _) := HC.out.trans (psF_at hlt)
      clear hc hI HC
      go_wp2_with fail
      refine (specFault_any (T k).id (T k).lsn (T k).cn (T k).cK (T k).cV pa pc _ (by omega) (HI.out.below (below_new _ _))).mono ?_
      rintro e w1 ⟨rfl, hb⟩
      have p0 : w1.cell? ⟨wr.heap.size, 0, none⟩ = some (.int .i64 (T k).id) := by rw [(bcell29 hb).1 _ _ (by simp)]; simp
      have p2 : w1.cell? ⟨wr.heap.size, 2, none⟩ = some (.slice pa (T k).cn pc) := by rw [(bcell29 hb).1 _ _ (by simp)]; simp
      have hx1 : w1.cell? ⟨B, 1, none⟩ = some (.slice (some ⟨b, off, none⟩) pn cap) := cell_below (cell_alloc hx _) hb
      have HI1 : Hid (CellsAt w1 pa (T k).cn (T k).cK (T k).cV) := (HI.out.below (below_new _ _)).below hb
      have HB1 : Hid (Below w.heap.size w w1) := below_then HB.out (below_then (below_new _ _) hb)
      have HPG : Hid (pgF (T k) k = if pf (T k).id (T k).lsn (T k).cn (T k).cK (T k).cV = 0 then (if (T k).id = (k : Int) then (if ksB (T k).id (T k).cK (T k).cn 0 = true then 0 else 1) else 1) else pf (T k).id (T k).lsn (T k).cn (T k).cK (T k).cV) := rfl
      generalize pgF (T k) k = G at *
      generalize pf (T k).id (T k).lsn (T k).cn (T k).cK (T k).cV = c at *
      generalize wr.heap.size = g at p0 p2 ⊢
      clear hb q0 q1 q2 hx HI HB hl
      by_cases h0 : c = 0
      case neg =>
        replace HPG : Hid (G = c) := HPG.out.trans (if_neg h0)
        replace HD : Hid (psF T pn 0 = c) := by show _ = _; rw [HD.out, HPG.out, if_neg h0]
        have h0' : (c != 0) = true := by simp [h0]
        clear h0
        go_wp2_with fail
        go_ret
        exact ⟨ret_int HD.out.symm, HB1.out⟩
      subst h0
      replace HPG : Hid (G = _) := HPG.out.trans (if_pos rfl)
      by_cases h1 : (T k).id = (k : Int)
      case neg =>
        replace HPG : Hid (G = 1) := HPG.out.trans (if_neg h1)
        replace HD : Hid (psF T pn 0 = 1) := by show _ = _; rw [HD.out, HPG.out, if_neg (by omega)]
        have h0' : ((T k).id != (k : Int)) = true := by simp [h1]
        clear h1
        go_wp2_with fail
        go_ret
        exact ⟨ret_int HD.out.symm, HB1.out⟩
      replace HPG : Hid (G = _) := HPG.out.trans (if_pos h1)
      have h0' : ((T k).id != (k : Int)) = false := by simp [h1]
      clear h1
      generalize (T k).cn = n at *
      generalize (T k).cK = K at *
      generalize (T k).cV = V at *
      generalize (T k).id = id at *
      go_wp2_with fail
      go_loopw [6] (fun i wr => ∃ j : Nat, j ≤ n ∧ i = .int .i64 j ∧ Hid (ksB id K n 0 = ksB id K (n - j) j) ∧ Hid (Below w.heap.size w wr) ∧ Hid (CellsAt wr pa n K V) ∧ wr.cell? ⟨g, 0, none⟩ = some (.int .i64 id) ∧ wr.cell? ⟨g, 2, none⟩ = some (.slice pa n pc) ∧ wr.cell? ⟨B, 1, none⟩ = some (.slice (some ⟨b, off, none⟩) pn cap)) (fun i _ => n - (intOf i).toNat)
      case atStart => exact ⟨0, Nat.zero_le _, rfl, rfl, HB1, HI1, p0, p2, hx1⟩
      case round =>
        clear HB1 HI1 p0 p2 hx1
        obtain ⟨j, hj, rfl, HC, HB, HI, p0, p2, hx1⟩ := hrel
        by_cases hjl : j < n
        · have hjl' : (j : Int) < (n : Int) := by omega
          have hj0 : (0 : Int) ≤ (j : Int) := by omega
          rcases HI.out with h | ⟨b1, off1, rfl, hl1, h1, -⟩
          · omega
          have g1 := h1 j hjl
          have HK : Hid (ksB id K n 0 = _) := HC.out.trans (ksB_at hjl)
          clear h1 HC
          by_cases he : (K j).tmod 4 = id
          · replace HK : Hid (ksB id K n 0 = ksB id K (n - (j + 1)) (j + 1)) := HK.out.trans (if_pos he)
            have he2 : ((K j).tmod 4 != id) = false := by simp [he]
            clear he
            go_wp2_with fail
            go_quiet (fail)
            go_wp2_with fail
            go_roundw
            case rel => exact ⟨j + 1, hjl, by go_num, HK, below_drewN HB.out _, HI.out.below (below_drewN (Below.refl _ _) _), by simpa [go_sem] using p0, by simpa [go_sem] using p2, by simpa [go_sem] using hx1⟩
            case measure => simp [intOf]; omega
          · replace HK : Hid (ksB id K n 0 = false) := HK.out.trans (if_neg he)
            replace HPG : Hid (G = 1) := HPG.out.trans (if_neg (by rw [HK.out]; simp))
            replace HD : Hid (psF T pn 0 = 1) := by show _ = _; rw [HD.out, HPG.out, if_neg (by omega)]
            have he2 : ((K j).tmod 4 != id) = true := by simp [he]
            clear he
            go_wp2_with fail
            go_quiet (fail)
            go_wp2_with fail
            go_ret
            exact ⟨ret_int HD.out.symm, below_drewN HB.out _⟩
        · have hnl : ¬ ((j : Int) < (n : Int)) := by omega
          have HK : Hid (ksB id K n 0 = true) := HC.out.trans (by rw [show n - j = 0 by omega]; rfl)
          replace HPG : Hid (G = 0) := HPG.out.trans (if_pos HK.out)
          replace HD : Hid (psF T pn 0 = psF T (pn - (k + 1)) (k + 1)) := HD.out.trans (if_pos HPG.out)
          clear HC HK HPG
          go_wp2_with fail
          go_roundw
          case rel => exact ⟨k + 1, hlt, by go_num, HD, HB, hx1⟩
          case measure => simp [intOf]; omega
    · have hnl : ¬ ((k : Int) < (pn : Int)) := by omega
      have HE : Hid (psF T pn 0 = 0) := HC.out.trans (psF_end hlt)
      clear HC
      go_wp2_with fail
      go_ret
      exact ⟨ret_int HE.out.symm, HB.out⟩
/-- The second half: what is held, behind who is open. -/
def ohF (nx : Int) (n : Nat) (F : Nat → Int) (m : Nat) (K V : Nat → Int) : Int := if onF nx F n 0 = 0 then hdF (ivL F n) K V m 0 else onF nx F n 0
set_option maxHeartbeats 8000000 in
theorem l12Held_any (nx : Int) (m : Nat) (K V : Nat → Int) (a : Option Addr) (cap : Nat) (n : Nat) (F : Nat → Int) (a' : Option Addr) (cap' : Nat) (B : Nat) (w : World) (hx : 1 ≤ nx ∧ nx ≤ 999) (hm : m ≤ 1048576) (hn : n ≤ 1048576) (x0 : w.cell? ⟨B, 0, none⟩ = some (.int .i64 nx)) (x6 : w.cell? ⟨B, 6, none⟩ = some (.slice a m cap)) (x7 : w.cell? ⟨B, 7, none⟩ = some (.slice a' n cap')) (h : CellsAt w a m K V) (h' : IntsAt w a' n F) :
    Calls Tryz.prog 49 #[.pointer (some ⟨B, 0, none⟩)] w fun e w' => e = .returned (.int .i64 (ohF nx n F m K V)) ∧ Below w.heap.size w w' := by
  have HA : Hid (CellsAt w a m K V) := h
  have HA' : Hid (IntsAt w a' n F) := h'
  have HE : Hid (ohF nx n F m K V = if onF nx F n 0 = 0 then hdF (ivL F n) K V m 0 else onF nx F n 0) := rfl
  have hwn : IntKind.i64.wrap (nx - 1) = nx - 1 := by rw [IntKind.wrap_i64]; omega
  have HNX : Hid (nx ≤ 999) := hx.2
  generalize ohF nx n F m K V = C at *
  clear h h'
  go_enter Tryz.func49, Tryz.ntmps49
  go_wp2_with fail
  go_loopw [3] (fun i wr => ∃ k : Nat, k ≤ n ∧ i = .int .i64 k ∧ Hid (onF nx F n 0 = onF nx F (n - k) k) ∧ Hid (Below w.heap.size w wr) ∧ wr.cell? ⟨B, 0, none⟩ = some (.int .i64 nx) ∧ wr.cell? ⟨B, 6, none⟩ = some (.slice a m cap) ∧ wr.cell? ⟨B, 7, none⟩ = some (.slice a' n cap')) (fun i _ => n - (intOf i).toNat)
  case atStart => exact ⟨0, Nat.zero_le _, rfl, rfl, Below.refl _ _, x0, x6, x7⟩
  case round =>
    clear x0 x6 x7
    obtain ⟨k, hk, rfl, HC, HB, x0, x6, x7⟩ := hrel
    by_cases hlt : k < n
    · have hlt' : (k : Int) < (n : Int) := by omega
      have hk0 : (0 : Int) ≤ (k : Int) := by omega
      rcases HA'.out.below HB.out with h | ⟨b, off, rfl, hl, hc⟩
      · omega
      have g := hc k hlt
      have HD : Hid (onF nx F n 0 = _) := HC.out.trans (onF_at hlt)
      clear HC
      obtain c1 | c1 := boolor (inB (F k) 1 (nx - 1))
      · replace HD : Hid (onF nx F n 0 = _) := HD.out.trans (if_pos c1)
        go_wp2_with fail
        go_quiet (first | (go_at_call 79; exact Calls.quiet_of (l1In_q _ _ _ _)))
        rcases Nat.eq_zero_or_pos k with e0 | e0
        · have hd : decide ((0 : Int) < (k : Int)) = false := by simp; omega
          have hdn : decide (0 < k) = false := by simp; omega
          replace HD : Hid (onF nx F n 0 = onF nx F (n - (k + 1)) (k + 1)) := HD.out.trans (if_neg (by omega))
          clear hc e0
          go_wp2_with fail
          go_quiet (fail)
          go_wp2_with fail
          go_roundw
          case rel => exact ⟨k + 1, hlt, by go_num, HD, by repeat (first | with_reducible exact HB.out | refine below_drewN ?_ _), by simpa [go_sem] using x0, by simpa [go_sem] using x6, by simpa [go_sem] using x7⟩
          case measure => simp [intOf]; omega
        · obtain ⟨j, rfl⟩ : ∃ j, k = j + 1 := ⟨k - 1, by omega⟩
          have g2 := hc j (by omega)
          have hj1 : (j : Int) < (n : Int) := by omega
          have hj2 : j < n := by omega
          have hwj : IntKind.i64.wrap (j : Int) = (j : Int) := by rw [IntKind.wrap_i64]; omega
          by_cases c2 : F (j + 1) ≤ F j
          · replace HD : Hid (onF nx F n 0 = 1) := HD.out.trans (if_pos ⟨by omega, c2⟩)
            replace HE : Hid (C = 1) := HE.out.trans ((if_neg (by rw [HD.out]; omega)).trans HD.out)
            clear hc
            go_wp2_with fail
            go_quiet (fail)
            go_wp2_with fail
            go_ret
            exact ⟨ret_int HE.out.symm, by repeat (first | with_reducible exact HB.out | refine below_drewN ?_ _)⟩
          · replace HD : Hid (onF nx F n 0 = onF nx F (n - (j + 1 + 1)) (j + 1 + 1)) := HD.out.trans (if_neg (by simp; omega))
            have c3 : decide (F (j + 1) ≤ F j) = false := by simp; omega
            clear hc
            go_wp2_with fail
            go_quiet (fail)
            go_wp2_with fail
            go_roundw
            case rel => exact ⟨j + 1 + 1, hlt, by go_num, HD, by repeat (first | with_reducible exact HB.out | refine below_drewN ?_ _), by simpa [go_sem] using x0, by simpa [go_sem] using x6, by simpa [go_sem] using x7⟩
            case measure => simp [intOf]; omega
      · replace HD : Hid (onF nx F n 0 = 3) := HD.out.trans (if_neg (by simp [c1]))
        replace HE : Hid (C = 3) := HE.out.trans ((if_neg (by rw [HD.out]; omega)).trans HD.out)
        clear hc
        go_wp2_with fail
        go_quiet (first | (go_at_call 79; exact Calls.quiet_of (l1In_q _ _ _ _)))
        go_wp2_with fail
        go_ret
        exact ⟨ret_int HE.out.symm, by repeat (first | with_reducible exact HB.out | refine below_drewN ?_ _)⟩
    · have hnl : ¬ ((k : Int) < (n : Int)) := by omega
      have HD : Hid (onF nx F n 0 = 0) := HC.out.trans (by rw [show n - k = 0 by omega]; rfl)
      replace HE : Hid (C = hdF (ivL F n) K V m 0) := HE.out.trans (if_pos HD.out)
      have HF : Hid (n ≤ 998) := onF_few HNX.out HD.out
      have HB0 : Hid (Below w.heap.size w wr) := HB
      clear HC HD HB
      go_wp2_with fail
      generalize hL : ivL F n = L at HE
      have HLL : Hid (ivL F n = L) := hL
      clear hL
      go_loopw [4, 5] (fun i _ wr => ∃ k : Nat, k ≤ m ∧ i = .int .i64 k ∧ Hid (hdF L K V m 0 = hdF L K V (m - k) k) ∧ Hid (Below w.heap.size w wr) ∧ wr.cell? ⟨B, 6, none⟩ = some (.slice a m cap) ∧ wr.cell? ⟨B, 7, none⟩ = some (.slice a' n cap')) (fun i _ _ => m - (intOf i).toNat)
      case atStart => exact ⟨0, Nat.zero_le _, rfl, rfl, HB0, x6, x7⟩
      case round =>
        clear x0 x6 x7 HB0
        obtain ⟨q, hq, rfl, HC, HB, x6, x7⟩ := hrel
        by_cases hlt : q < m
        · have hlt' : (q : Int) < (m : Int) := by omega
          have hk0 : (0 : Int) ≤ (q : Int) := by omega
          rcases HA.out.below HB.out with h | ⟨b, off, rfl, hl, h1, h2⟩
          · omega
          have g1 := h1 q hlt
          have g2 := h2 q hlt
          have HD : Hid (hdF L K V m 0 = _) := HC.out.trans (hdF_at hlt)
          clear HC
          go_upto_region 12 with fail
          obtain ⟨W, hW⟩ : ∃ x, x = wr.alloc (.cells #[.int .i64 (K q), .int .i64 (V q)] 104) := ⟨_, rfl⟩
          have hBW : Below wr.heap.size wr W := by rw [hW]; exact below_new _ _
          have p0 : W.cell? ⟨wr.heap.size, 0, none⟩ = some (.int .i64 (K q)) := by rw [hW]; simp
          have p1 : W.cell? ⟨wr.heap.size, 1, none⟩ = some (.int .i64 (V q)) := by rw [hW]; simp
          rw [← hW]
          clear hW
          replace HB : Hid (Below w.heap.size w W) := below_then HB.out hBW
          replace x6 := cell_below x6 hBW
          replace x7 := cell_below x7 hBW
          have g3 : ∀ j, j < m → W.cell? ⟨b, off + j * 2 + 1, none⟩ = some (.int .i64 (V j)) := fun j hj => cell_below (h2 j hj) hBW
          have HI : Hid (∀ mm, IntsAt (W.drewN mm) a' n F) := fun mm => (HA'.out.below HB.out).below (below_drewN (Below.refl _ _) _)
          have HI0 : Hid (IntsAt W a' n F) := HA'.out.below HB.out
          clear h1 h2 g1 g2 hBW
          obtain c1 | c1 := boolor (inB (V q) 0 31)
          · replace HD : Hid (hdF L K V m 0 = _) := HD.out.trans (if_pos c1)
            go_wp2_with (first | (go_at_call 82; refine (l1Key_any _ _).mono ?_; rintro e w' ⟨rfl, rfl⟩; rw [c1]))
            have HH : Hid (∀ v w2, IntsAt w2 a' n F → Calls Tryz.prog 83 #[.slice a' n cap', .int .i64 v] w2 fun e w' => e = .returned (.bool (decide (v ∈ L))) ∧ ∃ m, w' = w2.drewN m) := fun v w2 hI => by
              have := l1Has_q F n a' cap' v w2 (by have := HF.out; omega) hI
              rw [HLL.out] at this
              exact this
            obtain c2 | c2 := boolor (decide (K q ∈ L))
            · replace HD : Hid (hdF L K V m 0 = _) := HD.out.trans (if_pos c2)
              have hc2 : (K q ∈ L) = True := by simpa using c2
              go_quiet (first | (go_at_call 83; exact Calls.quiet_of (HH.out _ _ (by first | exact HI0.out | exact HI.out _))))
              rcases Nat.eq_zero_or_pos q with e0 | e0
              · have hd : decide ((0 : Int) < (q : Int)) = false := by simp; omega
                have hdn : decide (0 < q) = false := by simp; omega
                replace HD : Hid (hdF L K V m 0 = hdF L K V (m - (q + 1)) (q + 1)) := HD.out.trans (if_neg (by omega))
                clear g3 e0
                go_wp2_with fail
                go_quiet (fail)
                go_wp2_with fail
                go_roundw
                case rel => exact ⟨q + 1, hlt, by go_num, HD, by repeat (first | with_reducible exact HB.out | refine below_drewN ?_ _), by simpa [go_sem] using x6, by simpa [go_sem] using x7⟩
                case measure => simp [intOf]; omega
              · obtain ⟨j, rfl⟩ : ∃ j, q = j + 1 := ⟨q - 1, by omega⟩
                have g4 := g3 j (by omega)
                have hj1 : (j : Int) < (m : Int) := by omega
                have hj2 : j < m := by omega
                have hwj : IntKind.i64.wrap (j : Int) = (j : Int) := by rw [IntKind.wrap_i64]; omega
                by_cases c3 : V (j + 1) ≤ V j
                · replace HD : Hid (hdF L K V m 0 = 1) := HD.out.trans (if_pos ⟨by omega, c3⟩)
                  clear g3
                  go_wp2_with fail
                  go_quiet (fail)
                  go_wp2_with fail
                  go_ret
                  exact ⟨ret_int (by rw [HE.out, HD.out]), by repeat (first | with_reducible exact HB.out | refine below_drewN ?_ _)⟩
                · replace HD : Hid (hdF L K V m 0 = hdF L K V (m - (j + 1 + 1)) (j + 1 + 1)) := HD.out.trans (if_neg (by simp; omega))
                  have c4 : decide (V (j + 1) ≤ V j) = false := by simp; omega
                  clear g3
                  go_wp2_with fail
                  go_quiet (fail)
                  go_wp2_with fail
                  go_roundw
                  case rel => exact ⟨j + 1 + 1, hlt, by go_num, HD, by repeat (first | with_reducible exact HB.out | refine below_drewN ?_ _), by simpa [go_sem] using x6, by simpa [go_sem] using x7⟩
                  case measure => simp [intOf]; omega
            · replace HD : Hid (hdF L K V m 0 = 4) := HD.out.trans (if_neg (by simp [c2]))
              have hc2 : ¬ (K q ∈ L) := by simpa using c2
              clear g3
              go_quiet (first | (go_at_call 83; exact Calls.quiet_of (HH.out _ _ (by first | exact HI0.out | exact HI.out _))))
              go_wp2_with fail
              go_ret
              exact ⟨ret_int (by rw [HE.out, HD.out]), by repeat (first | with_reducible exact HB.out | refine below_drewN ?_ _)⟩
          · replace HD : Hid (hdF L K V m 0 = 3) := HD.out.trans (if_neg (by simp [c1]))
            clear g3
            go_wp2_with (first | (go_at_call 82; refine (l1Key_any _ _).mono ?_; rintro e w' ⟨rfl, rfl⟩; rw [c1]))
            go_ret
            exact ⟨ret_int (by rw [HE.out, HD.out]), HB.out⟩
        · have hnl : ¬ ((q : Int) < (m : Int)) := by omega
          have HD : Hid (hdF L K V m 0 = 0) := HC.out.trans (by rw [show m - q = 0 by omega]; rfl)
          clear HC
          go_wp2_with fail
          go_ret
          exact ⟨ret_int (by rw [HE.out, HD.out]), HB.out⟩
end Go.Proofs.YtnplheilojhpmaaGreat
