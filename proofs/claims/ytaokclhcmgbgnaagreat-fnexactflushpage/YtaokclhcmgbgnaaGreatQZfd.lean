/- What a store without a fault is; GetStore. -/
import Derived.Test.YtaokclhcmgbgnaaGreatQDf
import Derived.Test.YtaokclhcmgbgnaaGreatQDg
import Derived.Test.YtaokclhcmgbgnaaGreatQWae
import Derived.Test.YtaokclhcmgbgnaaGreatQSfault
namespace Go.Proofs.YtaokclhcmgbgnaaGreat
open Go.RowKit Go.Deep
set_option linter.unusedVariables false
set_option maxRecDepth 20000
open Go.ChangeShapes Go.WideShapes Go.ChangeAt Go.RowKit Go.Deep Go.Joins

theorem l1Has_q (F : Nat → Int) (n : Nat) (a : Option Addr) (cap : Nat) (v : Int) (w : World) (hn : n ≤ 100000) (h : IntsAt w a n F) :
    Calls Tryz.prog 52 #[.slice a n cap, .int .i64 v] w fun e w' => e = .returned (.bool (decide (v ∈ ivL F n))) ∧ ∃ m, w' = w.drewN m := by
  refine (l1HasF_any F n a cap v w hn h).mono ?_
  rintro e w' ⟨rfl, rfl⟩
  exact ⟨rfl, 0, rfl⟩
set_option maxHeartbeats 8000000 in
theorem l12Pages_any (pn : Nat) (T : Nat → Pg) (B : Nat) (a : Option Addr) (cap : Nat) (w : World) (hn : pn ≤ 1048576) (hL : ∀ i, i < pn → SmPg (T i)) (hx : w.cell? ⟨B, 1, none⟩ = some (.slice a pn cap)) (h : PgsAt w a pn T) :
    Calls Tryz.prog 82 #[.pointer (some ⟨B, 0, none⟩)] w fun e w' => e = .returned (.int .i64 (if pn = 4 then psF T pn 0 else 1)) ∧ Below w.heap.size w w' := by
  have HA : Hid (PgsAt w a pn T) := h
  have HL : Hid (∀ i, i < pn → SmPg (T i)) := hL
  clear h hL
  go_enter Tryz.func82, Tryz.ntmps82
  by_cases k2 : pn = 4
  case neg =>
    rw [if_neg k2]
    have k3 : ((pn : Int) != 4) = true := by simp; omega
    clear k2
    go_wp2_with fail
    go_ret
    exact ⟨rfl, Below.refl _ _⟩
  rw [if_pos k2]
  have k3 : ((pn : Int) != 4) = false := by simp; omega
  clear k2
  go_wp2_with fail
  go_loopw [3, 4, 5, 6] (fun i _ _ _ wr => ∃ k : Nat, k ≤ pn ∧ i = .int .i64 k ∧ Hid (psF T pn 0 = psF T (pn - k) k) ∧ Hid (Below w.heap.size w wr) ∧ wr.cell? ⟨B, 1, none⟩ = some (.slice a pn cap)) (fun i _ _ _ _ => pn - (intOf i).toNat)
  case atStart => exact ⟨0, Nat.zero_le _, rfl, rfl, Below.refl _ _, hx⟩
  case round =>
    clear hx
    obtain ⟨k, hk, rfl, HC, HB, hx⟩ := hrel
    by_cases hlt : k < pn
    · have hlt' : (k : Int) < (pn : Int) := by omega
      have hk0 : (0 : Int) ≤ (k : Int) := by omega
      rcases HA.out.below HB.out with h | ⟨b, off, rfl, hl, hc⟩
      · omega
      obtain ⟨pa, pc, ⟨q0, q1, q2⟩, ⟨hI, -⟩, -⟩ := hc k hlt
      have HI : Hid (CellsAt wr pa (T k).cn (T k).cK (T k).cV) := hI
      have HSk : (T k).cn ≤ 1048576 := (HL.out k hlt).1
      have HD : Hid (psF T pn 0 = _) := HC.out.trans (psF_at hlt)
      clear hc hI HC
      go_wp2_with fail
      refine (specFault_any (T k).id (T k).lsn (T k).cn (T k).cK (T k).cV pa pc _ (by omega) (HI.out.below (below_new _ _))).mono ?_
      rintro e w1 ⟨rfl, hb⟩
      have p0 : w1.cell? ⟨wr.heap.size, 0, none⟩ = some (.int .i64 (T k).id) := by rw [(bcell29 hb).1 _ _ (by simp)]; simp
      have p2 : w1.cell? ⟨wr.heap.size, 2, none⟩ = some (.slice pa (T k).cn pc) := by rw [(bcell29 hb).1 _ _ (by simp)]; simp
      have hx1 : w1.cell? ⟨B, 1, none⟩ = some (.slice (some ⟨b, off, none⟩) pn cap) := cell_below (cell_alloc hx _) hb
      have HI1 : Hid (CellsAt w1 pa (T k).cn (T k).cK (T k).cV) := (HI.out.below (below_new _ _)).below hb
      have HB1 : Hid (Below w.heap.size w w1) := below_then HB.out (below_then (below_new _ _) hb)
      have HPG : Hid (pgF (T k) k = if pf (T k).id (T k).lsn (T k).cn (T k).cK (T k).cV = 0 then (if (T k).id = (k : Int) then (if ksB (T k).id (T k).cK (T k).cn 0 = true then 0 else 1) else 1) else pf (T k).id (T k).lsn (T k).cn (T k).cK (T k).cV) := rfl
      generalize pgF (T k) k = G at *
      generalize pf (T k).id (T k).lsn (T k).cn (T k).cK (T k).cV = c at *
      generalize wr.heap.size = g at p0 p2 ⊢
      clear hb q0 q1 q2 hx HI HB hl
      by_cases h0 : c = 0
      case neg =>
        replace HPG : Hid (G = c) := HPG.out.trans (if_neg h0)
        replace HD : Hid (psF T pn 0 = c) := by show _ = _; rw [HD.out, HPG.out, if_neg h0]
        have h0' : (c != 0) = true := by simp [h0]
        clear h0
        go_wp2_with fail
        go_ret
        exact ⟨ret_int HD.out.symm, HB1.out⟩
      subst h0
      replace HPG : Hid (G = _) := HPG.out.trans (if_pos rfl)
      by_cases h1 : (T k).id = (k : Int)
      case neg =>
        replace HPG : Hid (G = 1) := HPG.out.trans (if_neg h1)
        replace HD : Hid (psF T pn 0 = 1) := by show _ = _; rw [HD.out, HPG.out, if_neg (by omega)]
        have h0' : ((T k).id != (k : Int)) = true := by simp [h1]
        clear h1
        go_wp2_with fail
        go_ret
        exact ⟨ret_int HD.out.symm, HB1.out⟩
      replace HPG : Hid (G = _) := HPG.out.trans (if_pos h1)
      have h0' : ((T k).id != (k : Int)) = false := by simp [h1]
      clear h1
      generalize (T k).cn = n at *
      generalize (T k).cK = K at *
      generalize (T k).cV = V at *
      generalize (T k).id = id at *
      go_wp2_with fail
      go_loopw [6] (fun i wr => ∃ j : Nat, j ≤ n ∧ i = .int .i64 j ∧ Hid (ksB id K n 0 = ksB id K (n - j) j) ∧ Hid (Below w.heap.size w wr) ∧ Hid (CellsAt wr pa n K V) ∧ wr.cell? ⟨g, 0, none⟩ = some (.int .i64 id) ∧ wr.cell? ⟨g, 2, none⟩ = some (.slice pa n pc) ∧ wr.cell? ⟨B, 1, none⟩ = some (.slice (some ⟨b, off, none⟩) pn cap)) (fun i _ => n - (intOf i).toNat)
      case atStart => exact ⟨0, Nat.zero_le _, rfl, rfl, HB1, HI1, p0, p2, hx1⟩
      case round =>
        clear HB1 HI1 p0 p2 hx1
        obtain ⟨j, hj, rfl, HC, HB, HI, p0, p2, hx1⟩ := hrel
        by_cases hjl : j < n
        · have hjl' : (j : Int) < (n : Int) := by omega
          have hj0 : (0 : Int) ≤ (j : Int) := by omega
          rcases HI.out with h | ⟨b1, off1, rfl, hl1, h1, -⟩
          · omega
          have g1 := h1 j hjl
          have HK : Hid (ksB id K n 0 = _) := HC.out.trans (ksB_at hjl)
          clear h1 HC
          by_cases he : (K j).tmod 4 = id
          · replace HK : Hid (ksB id K n 0 = ksB id K (n - (j + 1)) (j + 1)) := HK.out.trans (if_pos he)
            have he2 : ((K j).tmod 4 != id) = false := by simp [he]
            clear he
            go_wp2_with fail
            go_quiet (fail)
            go_wp2_with fail
            go_roundw
            case rel => exact ⟨j + 1, hjl, by go_num, HK, below_drewN HB.out _, HI.out.below (below_drewN (Below.refl _ _) _), by simpa [go_sem] using p0, by simpa [go_sem] using p2, by simpa [go_sem] using hx1⟩
            case measure => simp [intOf]; omega
          · replace HK : Hid (ksB id K n 0 = false) := HK.out.trans (if_neg he)
            replace HPG : Hid (G = 1) := HPG.out.trans (if_neg (by rw [HK.out]; simp))
            replace HD : Hid (psF T pn 0 = 1) := by show _ = _; rw [HD.out, HPG.out, if_neg (by omega)]
            have he2 : ((K j).tmod 4 != id) = true := by simp [he]
            clear he
            go_wp2_with fail
            go_quiet (fail)
            go_wp2_with fail
            go_ret
            exact ⟨ret_int HD.out.symm, below_drewN HB.out _⟩
        · have hnl : ¬ ((j : Int) < (n : Int)) := by omega
          have HK : Hid (ksB id K n 0 = true) := HC.out.trans (by rw [show n - j = 0 by omega]; rfl)
          replace HPG : Hid (G = 0) := HPG.out.trans (if_pos HK.out)
          replace HD : Hid (psF T pn 0 = psF T (pn - (k + 1)) (k + 1)) := HD.out.trans (if_pos HPG.out)
          clear HC HK HPG
          go_wp2_with fail
          go_roundw
          case rel => exact ⟨k + 1, hlt, by go_num, HD, HB, hx1⟩
          case measure => simp [intOf]; omega
    · have hnl : ¬ ((k : Int) < (pn : Int)) := by omega
      have HE : Hid (psF T pn 0 = 0) := HC.out.trans (psF_end hlt)
      clear HC
      go_wp2_with fail
      go_ret
      exact ⟨ret_int HE.out.symm, HB.out⟩
/-- The second half: what is held, behind who is open. -/
def ohF (nx : Int) (n : Nat) (F : Nat → Int) (m : Nat) (K V : Nat → Int) : Int := if onF nx F n 0 = 0 then hdF (ivL F n) K V m 0 else onF nx F n 0
set_option maxHeartbeats 8000000 in
theorem l12Held_any (nx : Int) (m : Nat) (K V : Nat → Int) (a : Option Addr) (cap : Nat) (n : Nat) (F : Nat → Int) (a' : Option Addr) (cap' : Nat) (B : Nat) (w : World) (hx : 1 ≤ nx ∧ nx ≤ 999) (hm : m ≤ 1048576) (hn : n ≤ 1048576) (x0 : w.cell? ⟨B, 0, none⟩ = some (.int .i64 nx)) (x6 : w.cell? ⟨B, 6, none⟩ = some (.slice a m cap)) (x7 : w.cell? ⟨B, 7, none⟩ = some (.slice a' n cap')) (h : CellsAt w a m K V) (h' : IntsAt w a' n F) :
    Calls Tryz.prog 85 #[.pointer (some ⟨B, 0, none⟩)] w fun e w' => e = .returned (.int .i64 (ohF nx n F m K V)) ∧ Below w.heap.size w w' := by
  have HA : Hid (CellsAt w a m K V) := h
  have HA' : Hid (IntsAt w a' n F) := h'
  have HE : Hid (ohF nx n F m K V = if onF nx F n 0 = 0 then hdF (ivL F n) K V m 0 else onF nx F n 0) := rfl
  have hwn : IntKind.i64.wrap (nx - 1) = nx - 1 := by rw [IntKind.wrap_i64]; omega
  have HNX : Hid (nx ≤ 999) := hx.2
  generalize ohF nx n F m K V = C at *
  clear h h'
  go_enter Tryz.func85, Tryz.ntmps85
  go_wp2_with fail
  go_loopw [3] (fun i wr => ∃ k : Nat, k ≤ n ∧ i = .int .i64 k ∧ Hid (onF nx F n 0 = onF nx F (n - k) k) ∧ Hid (Below w.heap.size w wr) ∧ wr.cell? ⟨B, 0, none⟩ = some (.int .i64 nx) ∧ wr.cell? ⟨B, 6, none⟩ = some (.slice a m cap) ∧ wr.cell? ⟨B, 7, none⟩ = some (.slice a' n cap')) (fun i _ => n - (intOf i).toNat)
  case atStart => exact ⟨0, Nat.zero_le _, rfl, rfl, Below.refl _ _, x0, x6, x7⟩
  case round =>
    clear x0 x6 x7
    obtain ⟨k, hk, rfl, HC, HB, x0, x6, x7⟩ := hrel
    by_cases hlt : k < n
    · have hlt' : (k : Int) < (n : Int) := by omega
      have hk0 : (0 : Int) ≤ (k : Int) := by omega
      rcases HA'.out.below HB.out with h | ⟨b, off, rfl, hl, hc⟩
      · omega
      have g := hc k hlt
      have HD : Hid (onF nx F n 0 = _) := HC.out.trans (onF_at hlt)
      clear HC
      obtain c1 | c1 := boolor (inB (F k) 1 (nx - 1))
      · replace HD : Hid (onF nx F n 0 = _) := HD.out.trans (if_pos c1)
        go_wp2_with fail
        go_quiet (first | (go_at_call 26; exact Calls.quiet_of (l1In_q _ _ _ _)))
        rcases Nat.eq_zero_or_pos k with e0 | e0
        · have hd : decide ((0 : Int) < (k : Int)) = false := by simp; omega
          have hdn : decide (0 < k) = false := by simp; omega
          replace HD : Hid (onF nx F n 0 = onF nx F (n - (k + 1)) (k + 1)) := HD.out.trans (if_neg (by omega))
          clear hc e0
          go_wp2_with fail
          go_quiet (fail)
          go_wp2_with fail
          go_roundw
          case rel => exact ⟨k + 1, hlt, by go_num, HD, by repeat (first | with_reducible exact HB.out | refine below_drewN ?_ _), by simpa [go_sem] using x0, by simpa [go_sem] using x6, by simpa [go_sem] using x7⟩
          case measure => simp [intOf]; omega
        · obtain ⟨j, rfl⟩ : ∃ j, k = j + 1 := ⟨k - 1, by omega⟩
          have g2 := hc j (by omega)
          have hj1 : (j : Int) < (n : Int) := by omega
          have hj2 : j < n := by omega
          have hwj : IntKind.i64.wrap (j : Int) = (j : Int) := by rw [IntKind.wrap_i64]; omega
          by_cases c2 : F (j + 1) ≤ F j
          · replace HD : Hid (onF nx F n 0 = 1) := HD.out.trans (if_pos ⟨by omega, c2⟩)
            replace HE : Hid (C = 1) := HE.out.trans ((if_neg (by rw [HD.out]; omega)).trans HD.out)
            clear hc
            go_wp2_with fail
            go_quiet (fail)
            go_wp2_with fail
            go_ret
            exact ⟨ret_int HE.out.symm, by repeat (first | with_reducible exact HB.out | refine below_drewN ?_ _)⟩
          · replace HD : Hid (onF nx F n 0 = onF nx F (n - (j + 1 + 1)) (j + 1 + 1)) := HD.out.trans (if_neg (by simp; omega))
            have c3 : decide (F (j + 1) ≤ F j) = false := by simp; omega
            clear hc
            go_wp2_with fail
            go_quiet (fail)
            go_wp2_with fail
            go_roundw
            case rel => exact ⟨j + 1 + 1, hlt, by go_num, HD, by repeat (first | with_reducible exact HB.out | refine below_drewN ?_ _), by simpa [go_sem] using x0, by simpa [go_sem] using x6, by simpa [go_sem] using x7⟩
            case measure => simp [intOf]; omega
      · replace HD : Hid (onF nx F n 0 = 3) := HD.out.trans (if_neg (by simp [c1]))
        replace HE : Hid (C = 3) := HE.out.trans ((if_neg (by rw [HD.out]; omega)).trans HD.out)
        clear hc
        go_wp2_with fail
        go_quiet (first | (go_at_call 26; exact Calls.quiet_of (l1In_q _ _ _ _)))
        go_wp2_with fail
        go_ret
        exact ⟨ret_int HE.out.symm, by repeat (first | with_reducible exact HB.out | refine below_drewN ?_ _)⟩
    · have hnl : ¬ ((k : Int) < (n : Int)) := by omega
      have HD : Hid (onF nx F n 0 = 0) := HC.out.trans (by rw [show n - k = 0 by omega]; rfl)
      replace HE : Hid (C = hdF (ivL F n) K V m 0) := HE.out.trans (if_pos HD.out)
      have HF : Hid (n ≤ 998) := onF_few HNX.out HD.out
      have HB0 : Hid (Below w.heap.size w wr) := HB
      clear HC HD HB
      go_wp2_with fail
      generalize hL : ivL F n = L at HE
      have HLL : Hid (ivL F n = L) := hL
      clear hL
      go_loopw [4, 5] (fun i _ wr => ∃ k : Nat, k ≤ m ∧ i = .int .i64 k ∧ Hid (hdF L K V m 0 = hdF L K V (m - k) k) ∧ Hid (Below w.heap.size w wr) ∧ wr.cell? ⟨B, 6, none⟩ = some (.slice a m cap) ∧ wr.cell? ⟨B, 7, none⟩ = some (.slice a' n cap')) (fun i _ _ => m - (intOf i).toNat)
      case atStart => exact ⟨0, Nat.zero_le _, rfl, rfl, HB0, x6, x7⟩
      case round =>
        clear x0 x6 x7 HB0
        obtain ⟨q, hq, rfl, HC, HB, x6, x7⟩ := hrel
        by_cases hlt : q < m
        · have hlt' : (q : Int) < (m : Int) := by omega
          have hk0 : (0 : Int) ≤ (q : Int) := by omega
          rcases HA.out.below HB.out with h | ⟨b, off, rfl, hl, h1, h2⟩
          · omega
          have g1 := h1 q hlt
          have g2 := h2 q hlt
          have HD : Hid (hdF L K V m 0 = _) := HC.out.trans (hdF_at hlt)
          clear HC
          go_upto_region 12 with fail
          obtain ⟨W, hW⟩ : ∃ x, x = wr.alloc (.cells #[.int .i64 (K q), .int .i64 (V q)] 126) := ⟨_, rfl⟩
          have hBW : Below wr.heap.size wr W := by rw [hW]; exact below_new _ _
          have p0 : W.cell? ⟨wr.heap.size, 0, none⟩ = some (.int .i64 (K q)) := by rw [hW]; simp
          have p1 : W.cell? ⟨wr.heap.size, 1, none⟩ = some (.int .i64 (V q)) := by rw [hW]; simp
          rw [← hW]
          clear hW
          replace HB : Hid (Below w.heap.size w W) := below_then HB.out hBW
          replace x6 := cell_below x6 hBW
          replace x7 := cell_below x7 hBW
          have g3 : ∀ j, j < m → W.cell? ⟨b, off + j * 2 + 1, none⟩ = some (.int .i64 (V j)) := fun j hj => cell_below (h2 j hj) hBW
          have HI : Hid (∀ mm, IntsAt (W.drewN mm) a' n F) := fun mm => (HA'.out.below HB.out).below (below_drewN (Below.refl _ _) _)
          have HI0 : Hid (IntsAt W a' n F) := HA'.out.below HB.out
          clear h1 h2 g1 g2 hBW
          obtain c1 | c1 := boolor (inB (V q) 0 31)
          · replace HD : Hid (hdF L K V m 0 = _) := HD.out.trans (if_pos c1)
            go_wp2_with (first | (go_at_call 64; refine (l1Key_any _ _).mono ?_; rintro e w' ⟨rfl, rfl⟩; rw [c1]))
            have HH : Hid (∀ v w2, IntsAt w2 a' n F → Calls Tryz.prog 52 #[.slice a' n cap', .int .i64 v] w2 fun e w' => e = .returned (.bool (decide (v ∈ L))) ∧ ∃ m, w' = w2.drewN m) := fun v w2 hI => by
              have := l1Has_q F n a' cap' v w2 (by have := HF.out; omega) hI
              rw [HLL.out] at this
              exact this
            obtain c2 | c2 := boolor (decide (K q ∈ L))
            · replace HD : Hid (hdF L K V m 0 = _) := HD.out.trans (if_pos c2)
              have hc2 : (K q ∈ L) = True := by simpa using c2
              go_quiet (first | (go_at_call 52; exact Calls.quiet_of (HH.out _ _ (by first | exact HI0.out | exact HI.out _))))
              rcases Nat.eq_zero_or_pos q with e0 | e0
              · have hd : decide ((0 : Int) < (q : Int)) = false := by simp; omega
                have hdn : decide (0 < q) = false := by simp; omega
                replace HD : Hid (hdF L K V m 0 = hdF L K V (m - (q + 1)) (q + 1)) := HD.out.trans (if_neg (by omega))
                clear g3 e0
                go_wp2_with fail
                go_quiet (fail)
                go_wp2_with fail
                go_roundw
                case rel => exact ⟨q + 1, hlt, by go_num, HD, by repeat (first | with_reducible exact HB.out | refine below_drewN ?_ _), by simpa [go_sem] using x6, by simpa [go_sem] using x7⟩
                case measure => simp [intOf]; omega
              · obtain ⟨j, rfl⟩ : ∃ j, q = j + 1 := ⟨q - 1, by omega⟩
                have g4 := g3 j (by omega)
                have hj1 : (j : Int) < (m : Int) := by omega
                have hj2 : j < m := by omega
                have hwj : IntKind.i64.wrap (j : Int) = (j : Int) := by rw [IntKind.wrap_i64]; omega
                by_cases c3 : V (j + 1) ≤ V j
                · replace HD : Hid (hdF L K V m 0 = 1) := HD.out.trans (if_pos ⟨by omega, c3⟩)
                  clear g3
                  go_wp2_with fail
                  go_quiet (fail)
                  go_wp2_with fail
                  go_ret
                  exact ⟨ret_int (by rw [HE.out, HD.out]), by repeat (first | with_reducible exact HB.out | refine below_drewN ?_ _)⟩
                · replace HD : Hid (hdF L K V m 0 = hdF L K V (m - (j + 1 + 1)) (j + 1 + 1)) := HD.out.trans (if_neg (by simp; omega))
                  have c4 : decide (V (j + 1) ≤ V j) = false := by simp; omega
                  clear g3
                  go_wp2_with fail
                  go_quiet (fail)
                  go_wp2_with fail
                  go_roundw
                  case rel => exact ⟨j + 1 + 1, hlt, by go_num, HD, by repeat (first | with_reducible exact HB.out | refine below_drewN ?_ _), by simpa [go_sem] using x6, by simpa [go_sem] using x7⟩
                  case measure => simp [intOf]; omega
            · replace HD : Hid (hdF L K V m 0 = 4) := HD.out.trans (if_neg (by simp [c2]))
              have hc2 : ¬ (K q ∈ L) := by simpa using c2
              clear g3
              go_quiet (first | (go_at_call 52; exact Calls.quiet_of (HH.out _ _ (by first | exact HI0.out | exact HI.out _))))
              go_wp2_with fail
              go_ret
              exact ⟨ret_int (by rw [HE.out, HD.out]), by repeat (first | with_reducible exact HB.out | refine below_drewN ?_ _)⟩
          · replace HD : Hid (hdF L K V m 0 = 3) := HD.out.trans (if_neg (by simp [c1]))
            clear g3
            go_wp2_with (first | (go_at_call 64; refine (l1Key_any _ _).mono ?_; rintro e w' ⟨rfl, rfl⟩; rw [c1]))
            go_ret
            exact ⟨ret_int (by rw [HE.out, HD.out]), HB.out⟩
        · have hnl : ¬ ((q : Int) < (m : Int)) := by omega
          have HD : Hid (hdF L K V m 0 = 0) := HC.out.trans (by rw [show m - q = 0 by omega]; rfl)
          clear HC
          go_wp2_with fail
          go_ret
          exact ⟨ret_int (by rw [HE.out, HD.out]), HB.out⟩
set_option maxHeartbeats 8000000 in
theorem l12Fault_any (t : Sto) (B : Nat) (a0 : Option Addr) (c0 : Nat) (a1 : Option Addr) (c1 : Nat) (a2 : Option Addr) (c2 : Nat) (a3 : Option Addr) (c3 : Nat) (a4 : Option Addr) (c4 : Nat) (a5 : Option Addr) (c5 : Nat) (a6 : Option Addr) (c6 : Nat) (w : World) (hS : SmSt t) (hby : LogByt t.g)
    (hX : BoxS w B (.int .i64 t.nx) (.slice a0 t.pn c0) (.slice a1 t.d.n c1) (.slice a2 t.d.m c2) (.slice a3 t.g.n1 c3) (.slice a4 t.g.n2 c4) (.slice a5 t.hn c5) (.slice a6 t.on c6)) (h : InSt w a0 a1 a2 a3 a4 a5 a6 t) :
    Calls Tryz.prog 24 #[.pointer (some ⟨B, 0, none⟩)] w fun e w' => e = .returned (.int .i64 (stF t)) ∧ Below w.heap.size w w' := by
  have HA : Hid (InSt w a0 a1 a2 a3 a4 a5 a6 t) := h
  obtain ⟨⟨hS0, hS1, hS2⟩, hSd, ⟨hSg, hSg'⟩, hSh, hSo⟩ := hS
  have HSP : Hid (∀ i, i < t.pn → SmPg (t.pT i)) := hS1
  have HE : Hid (stF t = if inB t.nx 1 999 = true then (if t.pn = 4 then (if psF t.pT t.pn 0 = 0 then (if df t.d = 0 then (if t.d.n = 4 then (if lgC t.g = 0 then (if onF t.nx t.oF t.on 0 = 0 then hdF (ivL t.oF t.on) t.hK t.hV t.hn 0 else onF t.nx t.oF t.on 0) else lgC t.g) else 1) else df t.d) else psF t.pT t.pn 0) else 1) else 3) := rfl
  generalize stF t = C at *
  have HX : Hid (BoxS w B (.int .i64 t.nx) (.slice a0 t.pn c0) (.slice a1 t.d.n c1) (.slice a2 t.d.m c2) (.slice a3 t.g.n1 c3) (.slice a4 t.g.n2 c4) (.slice a5 t.hn c5) (.slice a6 t.on c6)) := hX
  clear h hS1 hS2
  obtain ⟨x0, x1, x2, x3, x4, x5, x6, x7⟩ := hX
  go_enter Tryz.func24, Tryz.ntmps24
  obtain k1 | k1 := boolor (inB t.nx 1 999)
  case inr =>
    replace HE : Hid (C = 3) := HE.out.trans (if_neg (by simp [k1]))
    go_wp2_with (first | (go_at_call 81; refine (l3Txn_any _ _).mono ?_; rintro e w' ⟨rfl, hq⟩; have hq2 := hq.symm; clear hq; subst hq2; rw [k1]))
    go_ret
    exact ⟨ret_int HE.out.symm, Below.refl _ _⟩
  replace HE : Hid (C = _) := HE.out.trans (if_pos k1)
  go_wp2_with (first | (go_at_call 81; refine (l3Txn_any _ _).mono ?_; rintro e w' ⟨rfl, hq⟩; have hq2 := hq.symm; clear hq; subst hq2; rw [k1]))
  refine (l12Pages_any t.pn t.pT B a0 c0 _ hS0 HSP.out x1 HA.out.1).mono ?_
  rintro e w1 ⟨rfl, hb⟩
  have HB : Hid (Below w.heap.size w w1) := hb
  replace HX := HX.out.below hb
  clear hb x0 x1 x2 x3 x4 x5 x6 x7
  obtain ⟨x0, x1, x2, x3, x4, x5, x6, x7⟩ := HX
  by_cases k2 : t.pn = 4
  case neg =>
    replace HE : Hid (C = 1) := HE.out.trans (if_neg k2)
    rw [if_neg k2]
    clear k2
    go_wp2_with fail
    go_ret
    exact ⟨ret_int HE.out.symm, HB.out⟩
  replace HE : Hid (C = _) := HE.out.trans (if_pos k2)
  rw [if_pos k2]
  clear k2
  by_cases k3 : psF t.pT t.pn 0 = 0
  case neg =>
    replace HE : Hid (C = psF t.pT t.pn 0) := HE.out.trans (if_neg k3)
    generalize psF t.pT t.pn 0 = c at *
    have h0' : (c != 0) = true := by simp [k3]
    clear k3
    go_wp2_with fail
    go_ret
    exact ⟨ret_int HE.out.symm, HB.out⟩
  replace HE : Hid (C = _) := HE.out.trans (if_pos k3)
  rw [k3]
  clear k3
  go_wp2_with fail
  refine (specDf_any t.d a1 a2 c1 c2 _ hSd (HA.out.2.1.below HB.out)).mono ?_
  rintro e w2 ⟨rfl, hb⟩
  replace HB : Hid (Below w.heap.size w w2) := below_then HB.out hb
  replace x0 := cell_below x0 hb
  replace x2 := cell_below x2 hb
  replace x4 := cell_below x4 hb
  replace x5 := cell_below x5 hb
  replace x6 := cell_below x6 hb
  replace x7 := cell_below x7 hb
  clear hb x1 x3
  by_cases h0 : df t.d = 0
  case neg =>
    replace HE : Hid (C = df t.d) := HE.out.trans (if_neg h0)
    generalize df t.d = c at *
    have h0' : (c != 0) = true := by simp [h0]
    clear h0
    go_wp2_with fail
    go_ret
    exact ⟨ret_int HE.out.symm, HB.out⟩
  replace HE : Hid (C = _) := HE.out.trans (if_pos h0)
  rw [h0]
  clear h0
  by_cases h1 : t.d.n = 4
  case neg =>
    replace HE : Hid (C = 1) := HE.out.trans (if_neg h1)
    have h0' : ((t.d.n : Int) != 4) = true := by simp; omega
    clear h1
    go_wp2_with fail
    go_ret
    exact ⟨ret_int HE.out.symm, HB.out⟩
  replace HE : Hid (C = _) := HE.out.trans (if_pos h1)
  have h0' : ((t.d.n : Int) != 4) = false := by simp; omega
  clear h1
  go_wp2_with fail
  refine (specLf_any t.g a3 a4 c3 c4 _ hSg hSg' hby (HA.out.2.2.1.below HB.out)).mono ?_
  rintro e w3 ⟨rfl, hb⟩
  replace HB : Hid (Below w.heap.size w w3) := below_then HB.out hb
  replace x0 := cell_below x0 hb
  replace x6 := cell_below x6 hb
  replace x7 := cell_below x7 hb
  clear hb x2 x4 x5
  by_cases h2 : lgC t.g = 0
  case neg =>
    replace HE : Hid (C = lgC t.g) := HE.out.trans (if_neg h2)
    generalize lgC t.g = c at *
    have h0' : (c != 0) = true := by simp [h2]
    clear h2
    go_wp2_with fail
    go_ret
    exact ⟨ret_int HE.out.symm, HB.out⟩
  replace HE : Hid (C = ohF t.nx t.on t.oF t.hn t.hK t.hV) := HE.out.trans (if_pos h2)
  rw [h2]
  clear h2
  go_wp2_with fail
  refine (l12Held_any t.nx t.hn t.hK t.hV a5 c5 t.on t.oF a6 c6 B _ (inB_iff.1 k1) hSh hSo x0 x6 x7 (HA.out.2.2.2.1.below HB.out) (HA.out.2.2.2.2.below HB.out)).mono ?_
  rintro e w4 ⟨rfl, hb⟩
  go_wp2_with fail
  go_ret
  exact ⟨ret_int HE.out.symm, below_then HB.out hb⟩
theorem openStore {H : Type} {enc : TypeId × Value → H} {W : World} {r : Reach} {b0 : Nat} {v : Value} {d : DataW H} {p : List MemPlace}
    (hv : Value.okWide Tryz.prog W r b0 33 v) (h : DataW.Trod enc Tryz.prog W 0 (fun _ => true) true 33 v d p) :
    ∃ (t : Sto) (a0 : Option Addr) (c0 : Nat) (a1 : Option Addr) (c1 : Nat) (a2 : Option Addr) (c2 : Nat) (a3 : Option Addr) (c3 : Nat) (a4 : Option Addr) (c4 : Nat) (a5 : Option Addr) (c5 : Nat) (a6 : Option Addr) (c6 : Nat), v = .agg #[.int .i64 t.nx, .slice a0 t.pn c0, .slice a1 t.d.n c1, .slice a2 t.d.m c2, .slice a3 t.g.n1 c3, .slice a4 t.g.n2 c4, .slice a5 t.hn c5, .slice a6 t.on c6] ∧ BigSt t ∧ LogByt t.g ∧ DiskByt t.d ∧ InSt W a0 a1 a2 a3 a4 a5 a6 t := by
  obtain ⟨cs, rfl, hsz⟩ := okWide_struct Tryz.underlying33 hv
  obtain ⟨fuel, hf0⟩ := h
  obtain ⟨xs, n, _, _, hl, hlen, hf⟩ := DataW.trod_struct Tryz.underlying33 hf0
  rw [cellsStore] at hsz
  obtain ⟨l⟩ := cs
  match l, hsz, xs, hlen with
  | [v0, v1, v2, v3, v4, v5, v6, v7], _, [y0, y1, y2, y3, y4, y5], _ =>
    have g0 := hf 0 _ rfl
    have g1 := hf 1 _ rfl
    have g2 := hf 2 _ rfl
    have g3 := hf 3 _ rfl
    have g4 := hf 4 _ rfl
    have g5 := hf 5 _ rfl
    simp [Value.cells, cellsI1, cellsPageS, cellsHeldS, cellsIntS, cells62, cellsLog] at g0 g1 g2 g3 g4 g5
    obtain ⟨z0, f0, _, _⟩ := DataW.trod_int Tryz.underlying2 g0
    obtain ⟨p0, n0, r0, T0, f1, k0, l0, m0⟩ := openPgs g1
    obtain ⟨xs2, _, _, _, _, hlen2, hd2⟩ := DataW.trod_struct Tryz.underlying26 g2
    obtain ⟨xs3, _, _, _, _, hlen3, hd3⟩ := DataW.trod_struct Tryz.underlying29 g3
    obtain ⟨p5, n5, r5, K5, V5, f6, k5, l5, m5⟩ := openHeldS g4
    obtain ⟨p6, n6, r6, Z6, f7, k6, l6, m6⟩ := openIntS g5
    match xs2, hlen2, xs3, hlen3 with
    | [u0, u1], _, [u2, u3], _ =>
      have j0 := hd2 0 _ rfl
      have j1 := hd2 1 _ rfl
      have j2 := hd3 0 _ rfl
      have j3 := hd3 1 _ rfl
      simp [cellsByteSS, cellsLooseS, cells22] at j0 j1 j2 j3
      obtain ⟨p1, n1, r1, L1, Z1, f2, i1, i2, i3, i4⟩ := openPages j0
      obtain ⟨p2, n2, r2, P2, T2, L2, Z2, f3, i5, i6, i7, i8⟩ := openLooses j1
      obtain ⟨p3, n3, r3, Z3, f4, o1, o2, o3, -⟩ := openBytes j2
      obtain ⟨p4, n4, r4, Z4, f5, o4, o5, o6, -⟩ := openBytes j3
      simp at f0 f1 f2 f3 f4 f5 f6 f7
      subst f0 f1 f2 f3 f4 f5 f6 f7
      exact ⟨⟨z0, n0, T0, ⟨n1, L1, Z1, n2, P2, T2, L2, Z2⟩, ⟨n3, Z3, n4, Z4⟩, n5, K5, V5, n6, Z6⟩, p0, r0, p1, r1, p2, r2, p3, r3, p4, r4, p5, r5, p6, r6, rfl, ⟨⟨k0, l0⟩, ⟨i1, i2, i5, i6⟩, ⟨o1, o4⟩, l5, l6⟩, ⟨o2, o5⟩, ⟨i3, i7⟩, m0, ⟨i4, i8⟩, ⟨o3, o6⟩, m5, m6⟩
theorem pgF_good {p : Pg} {i : Nat} (h : pgF p i = 0) : pf p.id p.lsn p.cn p.cK p.cV = 0 ∧ p.id = (i : Int) ∧ ksB p.id p.cK p.cn 0 = true := by
  unfold pgF at h
  by_cases h1 : pf p.id p.lsn p.cn p.cK p.cV = 0
  · rw [if_pos h1] at h
    by_cases h2 : p.id = (i : Int)
    · rw [if_pos h2] at h
      by_cases h3 : ksB p.id p.cK p.cn 0 = true
      · exact ⟨h1, h2, h3⟩
      · rw [if_neg h3] at h; omega
    · rw [if_neg h2] at h; omega
  · rw [if_neg h1] at h; exact absurd h h1
theorem psF_good {T : Nat → Pg} {n : Nat} : ∀ d k, n - k = d → psF T (n - k) k = 0 → ∀ i, k ≤ i → i < n → pgF (T i) i = 0
  | 0, k, h, _, i, h1, h2 => by omega
  | d + 1, k, h, e, i, h1, h2 => by
    rw [psF_at (by omega)] at e
    by_cases c1 : pgF (T k) k = 0
    · rw [if_pos c1] at e
      by_cases q : i = k
      · subst q; exact c1
      · exact psF_good d (k + 1) (by omega) e i (by omega) h2
    · rw [if_neg c1] at e; exact absurd e c1
structure GoodSt (t : Sto) : Prop where
  nx : 1 ≤ t.nx ∧ t.nx ≤ 999
  pn : t.pn = 4
  pg : ∀ i, i < 4 → pf (t.pT i).id (t.pT i).lsn (t.pT i).cn (t.pT i).cK (t.pT i).cV = 0 ∧ (t.pT i).id = (i : Int) ∧ ksB (t.pT i).id (t.pT i).cK (t.pT i).cn 0 = true
  df : df t.d = 0
  dn : t.d.n = 4
  lg : lgC t.g = 0
  on : onF t.nx t.oF t.on 0 = 0
  hd : hdF (ivL t.oF t.on) t.hK t.hV t.hn 0 = 0
theorem stF_good {t : Sto} (h : stF t = 0) : GoodSt t := by
  unfold stF at h
  by_cases h1 : inB t.nx 1 999 = true
  · rw [if_pos h1] at h
    by_cases h2 : t.pn = 4
    · rw [if_pos h2] at h
      by_cases h3 : psF t.pT t.pn 0 = 0
      · rw [if_pos h3] at h
        by_cases h4 : df t.d = 0
        · rw [if_pos h4] at h
          by_cases h5 : t.d.n = 4
          · rw [if_pos h5] at h
            by_cases h6 : lgC t.g = 0
            · rw [if_pos h6] at h
              by_cases h7 : onF t.nx t.oF t.on 0 = 0
              · rw [if_pos h7] at h
                exact ⟨inB_iff.1 h1, h2, fun i hi => pgF_good (psF_good (n := t.pn) t.pn 0 rfl h3 i (by omega) (by omega)), h4, h5, h6, h7, h⟩
              · rw [if_neg h7] at h; exact absurd h h7
            · rw [if_neg h6] at h; exact absurd h h6
          · rw [if_neg h5] at h; omega
        · rw [if_neg h4] at h; exact absurd h h4
      · rw [if_neg h3] at h; exact absurd h h3
    · rw [if_neg h2] at h; omega
  · rw [if_neg h1] at h; omega
end Go.Proofs.YtaokclhcmgbgnaaGreat
