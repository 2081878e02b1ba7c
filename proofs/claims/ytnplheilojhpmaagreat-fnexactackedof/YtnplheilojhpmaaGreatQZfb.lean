/- Faults of stores: the transactions that are open and what is held, as functions; the program's walks. -/
import Derived.Test.YtnplheilojhpmaaGreatQZfa
namespace Go.Proofs.YtnplheilojhpmaaGreat
open Go.RowKit Go.Deep
set_option linter.unusedVariables false
set_option maxRecDepth 20000

/-- From k on, f open ones. -/
def onF (nx : Int) (F : Nat → Int) : Nat → Nat → Int
  | 0, _ => 0
  | f + 1, k => if inB (F k) 1 (nx - 1) = true then (if 0 < k ∧ F k ≤ F (k - 1) then 1 else onF nx F f (k + 1)) else 3
theorem onF_at {nx : Int} {F : Nat → Int} {n k : Nat} (h : k < n) : onF nx F (n - k) k = if inB (F k) 1 (nx - 1) = true then (if 0 < k ∧ F k ≤ F (k - 1) then 1 else onF nx F (n - (k + 1)) (k + 1)) else 3 := by
  rw [show n - k = (n - (k + 1)) + 1 by omega]; rfl
/-- From k on, f that are held; L: who is open. -/
def hdF (L : List Int) (K V : Nat → Int) : Nat → Nat → Int
  | 0, _ => 0
  | f + 1, k => if inB (V k) 0 31 = true then (if decide (K k ∈ L) = true then (if 0 < k ∧ V k ≤ V (k - 1) then 1 else hdF L K V f (k + 1)) else 4) else 3
theorem hdF_at {L : List Int} {K V : Nat → Int} {n k : Nat} (h : k < n) : hdF L K V (n - k) k = if inB (V k) 0 31 = true then (if decide (K k ∈ L) = true then (if 0 < k ∧ V k ≤ V (k - 1) then 1 else hdF L K V (n - (k + 1)) (k + 1)) else 4) else 3 := by
  rw [show n - k = (n - (k + 1)) + 1 by omega]; rfl
theorem onF_good {nx : Int} {F : Nat → Int} {n : Nat} : ∀ d k, n - k = d → onF nx F (n - k) k = 0 → ∀ i, k ≤ i → i < n → (1 ≤ F i ∧ F i ≤ nx - 1) ∧ (0 < i → F (i - 1) < F i)
  | 0, k, h, _, i, h1, h2 => by omega
  | d + 1, k, h, e, i, h1, h2 => by
    rw [onF_at (by omega)] at e
    by_cases c1 : inB (F k) 1 (nx - 1) = true
    · rw [if_pos c1] at e
      by_cases c2 : 0 < k ∧ F k ≤ F (k - 1)
      · rw [if_pos c2] at e; omega
      · rw [if_neg c2] at e
        by_cases q : i = k
        · subst q
          exact ⟨inB_iff.1 c1, fun h0 => by omega⟩
        · exact onF_good d (k + 1) (by omega) e i (by omega) h2
    · rw [if_neg c1] at e; omega
theorem onF_rise {nx : Int} {F : Nat → Int} {n : Nat} (h : onF nx F n 0 = 0) : ∀ i, i < n → (i : Int) + 1 ≤ F i
  | 0, hi => (onF_good n 0 rfl h 0 (by omega) hi).1.1
  | i + 1, hi => by
    have h1 := onF_rise h i (by omega)
    have h2 := (onF_good n 0 rfl h (i + 1) (by omega) hi).2 (by omega)
    simp at h2
    omega
theorem onF_few {nx : Int} {F : Nat → Int} {n : Nat} (hx : nx ≤ 999) (h : onF nx F n 0 = 0) : n ≤ 998 := by
  rcases Nat.eq_zero_or_pos n with e | e
  · omega
  · have h1 := onF_rise h (n - 1) (by omega)
    have h2 := (onF_good n 0 rfl h (n - 1) (by omega) (by omega)).1.2
    omega
set_option maxHeartbeats 4000000 in
theorem openFault_any (nx : Int) (v1 v2 v3 v4 v5 v6 : Value) (n : Nat) (F : Nat → Int) (a : Option Addr) (cap : Nat) (w : World) (hx : 1 ≤ nx ∧ nx ≤ 999) (hn : n ≤ 1048576) (h : IntsAt w a n F) :
    Calls Tryz.prog 63 #[.agg #[.int .i64 nx, v1, v2, v3, v4, v5, v6, .slice a n cap]] w fun e w' => e = .returned (.int .i64 (onF nx F n 0)) ∧ Below w.heap.size w w' := by
  have HA : Hid (IntsAt w a n F) := h
  have hwn : IntKind.i64.wrap (nx - 1) = nx - 1 := by rw [IntKind.wrap_i64]; omega
  clear h
  go_enter Tryz.func63, Tryz.ntmps63
  go_wp2_with fail
  go_loopw [3, 4, 8] (fun _ _ i wr => ∃ k : Nat, k ≤ n ∧ i = .int .i64 k ∧ Hid (onF nx F n 0 = onF nx F (n - k) k) ∧ Hid (Below w.heap.size w wr) ∧ wr.cell? ⟨w.heap.size, 0, none⟩ = some (.int .i64 nx) ∧ wr.cell? ⟨w.heap.size, 7, none⟩ = some (.slice a n cap)) (fun _ _ i _ => n - (intOf i).toNat)
  case atStart => exact ⟨0, Nat.zero_le _, rfl, rfl, below_new _ _, by simp [go_sem], by simp [go_sem]⟩
  case round =>
    obtain ⟨k, hk, rfl, HC, HB, x0, x7⟩ := hrel
    by_cases hlt : k < n
    · have hlt' : (k : Int) < (n : Int) := by omega
      have hk0 : (0 : Int) ≤ (k : Int) := by omega
      have HAr : Hid (IntsAt wr a n F) := HA.out.below HB.out
      rcases HAr.out with h | ⟨b, off, rfl, hl, hc⟩
      · omega
      have g := hc k hlt
      have HE : Hid (onF nx F n 0 = _) := HC.out.trans (onF_at hlt)
      clear HC
      obtain c1 | c1 := boolor (inB (F k) 1 (nx - 1))
      · replace HE : Hid (onF nx F n 0 = _) := HE.out.trans (if_pos c1)
        rcases Nat.eq_zero_or_pos k with e0 | e0
        · have hd : decide ((0 : Int) < (k : Int)) = false := by simp; omega
          have hd2 : ¬ ((0 : Int) < (k : Int)) := by omega
          replace HE : Hid (onF nx F n 0 = onF nx F (n - (k + 1)) (k + 1)) := HE.out.trans (if_neg (by omega))
          clear hc e0
          go_wp2_with (first | (go_at_call 89; refine (within_any _ _ _ _).mono ?_; rintro e w' ⟨rfl, rfl⟩; rw [c1]))
          go_roundw
          case rel => exact ⟨k + 1, hlt, by go_num, HE, HB, x0, x7⟩
          case measure => simp [intOf]; omega
        · obtain ⟨j, rfl⟩ : ∃ j, k = j + 1 := ⟨k - 1, by omega⟩
          have g2 := hc j (by omega)
          have hj1 : (j : Int) < (n : Int) := by omega
          have hj2 : j < n := by omega
          have hd2 : (0 : Int) < ((j + 1 : Nat) : Int) := by omega
          have hwj : IntKind.i64.wrap (j : Int) = (j : Int) := by rw [IntKind.wrap_i64]; omega
          by_cases c2 : F (j + 1) ≤ F j
          · replace HE : Hid (onF nx F n 0 = 1) := HE.out.trans (if_pos ⟨by omega, c2⟩)
            clear hc
            go_wp2_with (first | (go_at_call 89; refine (within_any _ _ _ _).mono ?_; rintro e w' ⟨rfl, rfl⟩; rw [c1]))
            go_ret
            exact ⟨ret_int HE.out.symm, HB.out⟩
          · replace HE : Hid (onF nx F n 0 = onF nx F (n - (j + 1 + 1)) (j + 1 + 1)) := HE.out.trans (if_neg (by simp; omega))
            have c3 : decide (F (j + 1) ≤ F j) = false := by simp; omega
            clear hc
            go_wp2_with (first | (go_at_call 89; refine (within_any _ _ _ _).mono ?_; rintro e w' ⟨rfl, rfl⟩; rw [c1]))
            go_roundw
            case rel => exact ⟨j + 1 + 1, hlt, by go_num, HE, HB, x0, x7⟩
            case measure => simp [intOf]; omega
      · replace HE : Hid (onF nx F n 0 = 3) := HE.out.trans (if_neg (by simp [c1]))
        clear hc
        go_wp2_with (first | (go_at_call 89; refine (within_any _ _ _ _).mono ?_; rintro e w' ⟨rfl, rfl⟩; rw [c1]))
        go_ret
        exact ⟨ret_int HE.out.symm, HB.out⟩
    · have hnl : ¬ ((k : Int) < (n : Int)) := by omega
      have HE : Hid (onF nx F n 0 = 0) := HC.out.trans (by rw [show n - k = 0 by omega]; rfl)
      clear HC
      go_wp2_with fail
      go_ret
      exact ⟨ret_int HE.out.symm, HB.out⟩
set_option maxHeartbeats 4000000 in
theorem heldFault_any (v0 v1 v2 v3 v4 v5 : Value) (m : Nat) (K V : Nat → Int) (a : Option Addr) (cap : Nat) (n : Nat) (F : Nat → Int) (a' : Option Addr) (cap' : Nat) (w : World) (hm : m ≤ 1048576) (hn : n ≤ 100000) (h : CellsAt w a m K V) (h' : IntsAt w a' n F) :
    Calls Tryz.prog 64 #[.agg #[v0, v1, v2, v3, v4, v5, .slice a m cap, .slice a' n cap']] w fun e w' => e = .returned (.int .i64 (hdF (ivL F n) K V m 0)) ∧ Below w.heap.size w w' := by
  have HA : Hid (CellsAt w a m K V) := h
  have HA' : Hid (IntsAt w a' n F) := h'
  clear h h'
  go_enter Tryz.func64, Tryz.ntmps64
  go_wp2_with fail
  generalize hL : ivL F n = L
  have HL : Hid (ivL F n = L) := hL
  clear hL
  go_loopw [3, 4, 8] (fun _ _ i wr => ∃ k : Nat, k ≤ m ∧ i = .int .i64 k ∧ Hid (hdF L K V m 0 = hdF L K V (m - k) k) ∧ Hid (Below w.heap.size w wr) ∧ wr.cell? ⟨w.heap.size, 6, none⟩ = some (.slice a m cap) ∧ wr.cell? ⟨w.heap.size, 7, none⟩ = some (.slice a' n cap')) (fun _ _ i _ => m - (intOf i).toNat)
  case atStart => exact ⟨0, Nat.zero_le _, rfl, rfl, below_new _ _, by simp [go_sem], by simp [go_sem]⟩
  case round =>
    obtain ⟨k, hk, rfl, HC, HB, x6, x7⟩ := hrel
    by_cases hlt : k < m
    · have hlt' : (k : Int) < (m : Int) := by omega
      have hk0 : (0 : Int) ≤ (k : Int) := by omega
      have HAr : Hid (CellsAt wr a m K V) := HA.out.below HB.out
      rcases HAr.out with h | ⟨b, off, rfl, hl, h1, h2⟩
      · omega
      have g1 := h1 k hlt
      have g2 := h2 k hlt
      have HE : Hid (hdF L K V m 0 = _) := HC.out.trans (hdF_at hlt)
      clear HC
      -- the copy of the one that is held
      go_upto_region 4 with fail
      obtain ⟨W, hW⟩ : ∃ x, x = wr.alloc (.cells #[.int .i64 (K k), .int .i64 (V k)] 104) := ⟨_, rfl⟩
      have hBW : Below wr.heap.size wr W := by rw [hW]; exact below_new _ _
      have p0 : W.cell? ⟨wr.heap.size, 0, none⟩ = some (.int .i64 (K k)) := by rw [hW]; simp
      have p1 : W.cell? ⟨wr.heap.size, 1, none⟩ = some (.int .i64 (V k)) := by rw [hW]; simp
      rw [← hW]
      clear hW
      replace HB : Hid (Below w.heap.size w W) := below_then HB.out hBW
      have y6 := cell_below x6 hBW
      have y7 := cell_below x7 hBW
      have g3 : ∀ j, j < m → W.cell? ⟨b, off + j * 2 + 1, none⟩ = some (.int .i64 (V j)) := fun j hj => cell_below (h2 j hj) hBW
      have HI : Hid (IntsAt W a' n F) := HA'.out.below HB.out
      clear h1 h2 g1 g2 x6 x7 HAr hBW
      obtain c1 | c1 := boolor (inB (V k) 0 31)
      · replace HE : Hid (hdF L K V m 0 = _) := HE.out.trans (if_pos c1)
        obtain c2 | c2 := boolor (decide (K k ∈ L))
        · replace HE : Hid (hdF L K V m 0 = _) := HE.out.trans (if_pos c2)
          go_wp2_with (first | (go_at_call 94; refine (isKey_any _ _).mono ?_; rintro e w' ⟨rfl, rfl⟩; rw [c1]) | (go_at_call 95; refine (containsF_any F n a' cap' (K k) _ hn HI.out).mono ?_; rintro e w' ⟨rfl, hq⟩; rw [hq, HL.out, c2]; clear hq))
          rcases Nat.eq_zero_or_pos k with e0 | e0
          · have hd : decide ((0 : Int) < (k : Int)) = false := by simp; omega
            have hdn : decide (0 < k) = false := by simp; omega
            replace HE : Hid (hdF L K V m 0 = hdF L K V (m - (k + 1)) (k + 1)) := HE.out.trans (if_neg (by omega))
            clear g3 e0
            go_quiet (fail)
            go_wp2_with fail
            go_roundw
            case rel => exact ⟨k + 1, hlt, by go_num, HE, below_drewN HB.out _, by simpa [go_sem] using y6, by simpa [go_sem] using y7⟩
            case measure => simp [intOf]; omega
          · obtain ⟨j, rfl⟩ : ∃ j, k = j + 1 := ⟨k - 1, by omega⟩
            have g4 := g3 j (by omega)
            have hj1 : (j : Int) < (m : Int) := by omega
            have hj2 : j < m := by omega
            have hwj : IntKind.i64.wrap (j : Int) = (j : Int) := by rw [IntKind.wrap_i64]; omega
            by_cases c3 : V (j + 1) ≤ V j
            · replace HE : Hid (hdF L K V m 0 = 1) := HE.out.trans (if_pos ⟨by omega, c3⟩)
              clear g3
              go_quiet (fail)
              go_wp2_with fail
              go_ret
              exact ⟨ret_int (by rw [HL.out]; exact HE.out.symm), below_drewN HB.out _⟩
            · replace HE : Hid (hdF L K V m 0 = hdF L K V (m - (j + 1 + 1)) (j + 1 + 1)) := HE.out.trans (if_neg (by simp; omega))
              have c4 : decide (V (j + 1) ≤ V j) = false := by simp; omega
              clear g3
              go_quiet (fail)
              go_wp2_with fail
              go_roundw
              case rel => exact ⟨j + 1 + 1, hlt, by go_num, HE, below_drewN HB.out _, by simpa [go_sem] using y6, by simpa [go_sem] using y7⟩
              case measure => simp [intOf]; omega
        · replace HE : Hid (hdF L K V m 0 = 4) := HE.out.trans (if_neg (by simp [c2]))
          clear g3
          go_wp2_with (first | (go_at_call 94; refine (isKey_any _ _).mono ?_; rintro e w' ⟨rfl, rfl⟩; rw [c1]) | (go_at_call 95; refine (containsF_any F n a' cap' (K k) _ hn HI.out).mono ?_; rintro e w' ⟨rfl, hq⟩; rw [hq, HL.out, c2]; clear hq))
          go_ret
          exact ⟨ret_int (by rw [HL.out]; exact HE.out.symm), HB.out⟩
      · replace HE : Hid (hdF L K V m 0 = 3) := HE.out.trans (if_neg (by simp [c1]))
        clear g3
        go_wp2_with (first | (go_at_call 94; refine (isKey_any _ _).mono ?_; rintro e w' ⟨rfl, rfl⟩; rw [c1]))
        go_ret
        exact ⟨ret_int (by rw [HL.out]; exact HE.out.symm), HB.out⟩
    · have hnl : ¬ ((k : Int) < (m : Int)) := by omega
      have HE : Hid (hdF L K V m 0 = 0) := HC.out.trans (by rw [show m - k = 0 by omega]; rfl)
      clear HC
      go_wp2_with fail
      go_ret
      exact ⟨ret_int (by rw [HL.out]; exact HE.out.symm), HB.out⟩
end Go.Proofs.YtnplheilojhpmaaGreat
