/- A page's images as numbers; impl.startsWithPage, impl.joinedPieces. -/
import Derived.Test.YtldnfiadafmomaaPgs
namespace Go.Proofs.Ytldnfiadafmomaa
open Go.RowKit Go.Deep
set_option linter.unusedVariables false
set_option maxRecDepth 20000

/-- Do the loose writes from the k-th on, f of them, write parts k, .. of the page 'idn'? -/
def swF (P T : Nat → Int) (idn : Int) : Nat → Nat → Bool
  | 0, _ => true
  | f + 1, k => if P k = idn ∧ T k = (k : Int) then swF P T idn f (k + 1) else false
theorem swF_at {P T : Nat → Int} {idn : Int} {k : Nat} (h : k < 3) : swF P T idn (3 - k) k = if P k = idn ∧ T k = (k : Int) then swF P T idn (3 - (k + 1)) (k + 1) else false := by
  obtain ⟨m, hm⟩ : ∃ m, 3 - k = m + 1 := ⟨3 - k - 1, by omega⟩
  rw [hm, swF, show 3 - (k + 1) = m by omega]
def swB (P T : Nat → Int) (n : Nat) (idn : Int) : Bool := if 3 ≤ n then swF P T idn 3 0 else false
theorem swB_iff {P T : Nat → Int} {n : Nat} {idn : Int} : swB P T n idn = true ↔ 3 ≤ n ∧ (P 0 = idn ∧ T 0 = 0) ∧ (P 1 = idn ∧ T 1 = 1) ∧ (P 2 = idn ∧ T 2 = 2) := by
  unfold swB
  by_cases h : 3 ≤ n
  · rw [if_pos h]
    simp only [swF]
    constructor
    · intro q
      by_cases c0 : P 0 = idn ∧ T 0 = ((0 : Nat) : Int)
      · rw [if_pos c0] at q
        by_cases c1 : P 1 = idn ∧ T 1 = ((1 : Nat) : Int)
        · rw [if_pos c1] at q
          by_cases c2 : P 2 = idn ∧ T 2 = ((2 : Nat) : Int)
          · exact ⟨h, c0, c1, c2⟩
          · rw [if_neg c2] at q; cases q
        · rw [if_neg c1] at q; cases q
      · rw [if_neg c0] at q; cases q
    · rintro ⟨_, c0, c1, c2⟩
      have d0 : P 0 = idn ∧ T 0 = ((0 : Nat) : Int) := c0
      have d1 : P 1 = idn ∧ T 1 = ((1 : Nat) : Int) := c1
      have d2 : P 2 = idn ∧ T 2 = ((2 : Nat) : Int) := c2
      rw [if_pos d0, if_pos d1, if_pos d2]
  · rw [if_neg h]
    exact ⟨fun q => (by cases q), fun q => absurd q.1 h⟩
/-- Is the page 'idn' written whole from the i-th loose write on? -/
def whB (D : Dk) (idn : Int) (i : Nat) : Bool := swB (fun j => D.P (i + j)) (fun j => D.T (i + j)) (D.m - i) idn
theorem whB_iff {D : Dk} {idn : Int} {i : Nat} : whB D idn i = true ↔ i + 2 < D.m ∧ (D.P i = idn ∧ D.T i = 0) ∧ (D.P (i + 1) = idn ∧ D.T (i + 1) = 1) ∧ (D.P (i + 2) = idn ∧ D.T (i + 2) = 2) := by
  unfold whB
  rw [swB_iff]
  exact and_congr (by omega) (by rw [Nat.add_zero])
/-- Three pieces as one page. -/
def pcZ (D : Dk) (i q : Nat) : Int := D.Y (i + q / 16) (q % 16)
/-- The images of a page, those that begin at the first k loose writes. -/
def imL (D : Dk) (idn : Nat) : Nat → List (Nat → Int)
  | 0 => [D.Z idn]
  | k + 1 => if whB D (idn : Int) k = true then imL D idn k ++ [pcZ D k] else imL D idn k
def imN (D : Dk) (idn k : Nat) : Nat := (imL D idn k).length
def imZ (D : Dk) (idn i : Nat) : Nat → Int := (imL D idn D.m).getD i (fun _ => 0)
theorem imN_le (D : Dk) (idn : Nat) : ∀ k, 1 ≤ imN D idn k ∧ imN D idn k ≤ k + 1
  | 0 => ⟨Nat.le_refl _, Nat.le_refl _⟩
  | k + 1 => by
    have h := imN_le D idn k
    unfold imN at *
    rw [imL]
    split
    · rw [List.length_append]
      exact ⟨by simp, by simp; omega⟩
    · exact ⟨h.1, by omega⟩
theorem imL_pre (D : Dk) (idn k : Nat) : ∀ m, k ≤ m → ∀ i, i < imN D idn k → (imL D idn m)[i]? = (imL D idn k)[i]?
  | 0, h, i, hi => by obtain rfl : k = 0 := by omega
                      rfl
  | m + 1, h, i, hi => by
    by_cases e : k = m + 1
    · rw [e]
    · have q := imL_pre D idn k m (by omega) i hi
      rw [imL]
      split
      · have hl : i < (imL D idn m).length := by
          have : i < (imL D idn k).length := hi
          have q2 : (imL D idn k)[i]? = some (imL D idn k)[i] := List.getElem?_eq_getElem this
          rw [q2] at q
          exact (List.getElem?_eq_some_iff.1 q).1
        rw [List.getElem?_append_left hl, q]
      · exact q
theorem imZ_zero (D : Dk) (idn : Nat) : imZ D idn 0 = D.Z idn := by
  unfold imZ
  rw [List.getD_eq_getElem?_getD, imL_pre D idn 0 D.m (Nat.zero_le _) 0 (by show 0 < 1; omega)]
  rfl
theorem im_yes {D : Dk} {idn k : Nat} (h : whB D (idn : Int) k = true) : imN D idn (k + 1) = imN D idn k + 1 := by
  unfold imN
  rw [imL, if_pos h]
  simp
theorem im_no {D : Dk} {idn k : Nat} (h : whB D (idn : Int) k = false) : imN D idn (k + 1) = imN D idn k := by
  unfold imN
  rw [imL, if_neg (by rw [h]; decide)]
theorem imZ_new {D : Dk} {idn k : Nat} (h : whB D (idn : Int) k = true) (hk : k < D.m) : imZ D idn (imN D idn k) = pcZ D k := by
  unfold imZ
  rw [List.getD_eq_getElem?_getD, imL_pre D idn (k + 1) D.m hk (imN D idn k) (by rw [im_yes h]; omega)]
  rw [imL, if_pos h]
  unfold imN
  rw [List.getElem?_append_right (Nat.le_refl _)]
  simp
theorem whB_end {D : Dk} {idn : Int} {k : Nat} (h : D.m ≤ k + 2) : whB D idn k = false := by
  cases e : whB D idn k
  · rfl
  · have := (whB_iff.1 e).1; omega
theorem imN_end {D : Dk} {idn k : Nat} (h : D.m ≤ k + 2) (hk : k ≤ D.m) : imN D idn D.m = imN D idn k := by
  have : ∀ j, k ≤ j → imN D idn j = imN D idn k := fun j hj => by
    induction j with
    | zero => obtain rfl : k = 0 := by omega
              rfl
    | succ j ih =>
      by_cases e : k = j + 1
      · rw [e]
      · rw [im_no (whB_end (by omega)), ih (by omega)]
  exact this D.m hk
theorem LoosesAt.drop {w : World} {b off n k : Nat} {P T : Nat → Int} {L : Nat → Nat} {Z : Nat → Nat → Int} (h : LoosesAt w (some ⟨b, off, none⟩) n P T L Z) (hk : k < n) : LoosesAt w (some ⟨b, off + k * 3, none⟩) (n - k) (fun j => P (k + j)) (fun j => T (k + j)) (fun j => L (k + j)) (fun j => Z (k + j)) := by
  rcases h with h | ⟨b1, off1, ha, hl, hc⟩
  · omega
  · simp at ha
    obtain ⟨rfl, rfl⟩ := ha
    refine .inr ⟨b, off + k * 3, rfl, hl, fun i hi => ?_⟩
    have q := hc (k + i) (by omega)
    rw [show off + (k + i) * 3 = off + k * 3 + i * 3 by omega] at q
    exact q
set_option maxHeartbeats 2000000 in
theorem startsWithPage_any (n : Nat) (P T : Nat → Int) (L : Nat → Nat) (Y : Nat → Nat → Int) (idn : Int) (a : Option Addr) (cap : Nat) (w : World) (hn : n ≤ 1048576) (h : LoosesAt w a n P T L Y) :
    Calls Try.prog 38 #[.slice a n cap, .int .i64 idn] w fun e w' => e = .returned (.bool (swB P T n idn)) ∧ w' = w := by
  by_cases h3 : 3 ≤ n
  · have HE : Hid (swB P T n idn = swF P T idn (3 - 0) 0) := if_pos h3
    have h3' : ¬ ((n : Int) < 3) := by omega
    rcases h with h | ⟨b, off, rfl, hl, hc⟩
    · omega
    have HC : Hid (∀ i, i < n → w.cell? ⟨b, off + i * 3, none⟩ = some (.int .i64 (P i)) ∧ w.cell? ⟨b, off + i * 3 + 1, none⟩ = some (.int .i64 (T i))) := fun i hi => ⟨(hc i hi).1, (hc i hi).2.1⟩
    clear hc
    generalize swB P T n idn = C at *
    go_enter Try.func38, Try.ntmps38
    go_wp2_with fail
    go_loopw [5, 9] (fun _ i wr => ∃ k : Nat, k ≤ 3 ∧ i = .int .i64 k ∧ Hid (C = swF P T idn (3 - k) k) ∧ wr = w) (fun _ i _ => 3 - (intOf i).toNat)
    case atStart => exact ⟨0, Nat.zero_le _, rfl, HE, rfl⟩
    case round =>
      obtain ⟨k, hk, rfl, HC2, rfl⟩ := hrel
      by_cases hlt : k < 3
      · have hlt' : (k : Int) < 3 := by omega
        have hk0 : (0 : Int) ≤ (k : Int) := by omega
        have hkn : (k : Int) < (n : Int) := by omega
        obtain ⟨q0, q1⟩ := HC.out k (by omega)
        have HN : Hid (C = _) := HC2.out.trans (swF_at hlt)
        clear HC2 HE
        by_cases c1 : P k = idn
        · by_cases c2 : T k = (k : Int)
          · have HC3 : Hid (C = swF P T idn (3 - (k + 1)) (k + 1)) := by refine HN.out.trans ?_; rw [if_pos ⟨c1, c2⟩]
            rw [c1] at q0
            rw [c2] at q1
            clear c1 c2 HN
            go_wp2_with fail
            go_roundw
            case rel => exact ⟨k + 1, hlt, by go_num, HC3, by first | rfl | trivial⟩
            case measure => simp [intOf]; omega
          · have HC3 : Hid (C = false) := by refine HN.out.trans ?_; rw [if_neg (fun h => c2 h.2)]
            have d2 : (T k != (k : Int)) = true := by simpa using c2
            rw [c1] at q0
            clear c1 c2 HN
            generalize T k = tt at *
            go_wp2_with fail
            go_ret
            exact ⟨ret_bool HC3.out.symm, rfl⟩
        · have HC3 : Hid (C = false) := by refine HN.out.trans ?_; rw [if_neg (fun h => c1 h.1)]
          have d2 : (P k != idn) = true := by simpa using c1
          clear c1 HN
          generalize P k = tt at *
          generalize T k = tu at *
          go_wp2_with fail
          go_ret
          exact ⟨ret_bool HC3.out.symm, rfl⟩
      · have HC3 : Hid (C = true) := by refine HC2.out.trans ?_; rw [show 3 - k = 0 by omega, swF]
        have hnl : ¬ ((k : Int) < 3) := by omega
        clear HC2 HE
        go_wp2_with fail
        go_ret
        exact ⟨ret_bool HC3.out.symm, rfl⟩
  · have HE : Hid (swB P T n idn = false) := if_neg h3
    have h3' : ((n : Int) < 3) := by omega
    clear h h3
    go_enter Try.func38, Try.ntmps38
    go_wp2_with fail
    go_ret
    exact ⟨ret_bool HE.out.symm, rfl⟩
def jZ (Y : Nat → Nat → Int) (q : Nat) : Int := Y (q / 16) (q % 16)
theorem jZ_cut (Y : Nat → Nat → Int) (k : Nat) : bvs (Y k) 16 = bvs (fun i => jZ Y (16 * k + i)) 16 := by
  refine List.map_congr_left fun i hi => ?_
  have hi' := List.mem_range.1 hi
  show Value.int .u8 (Y k i) = .int .u8 (Y ((16 * k + i) / 16) ((16 * k + i) % 16))
  rw [show (16 * k + i) / 16 = k by omega, show (16 * k + i) % 16 = i by omega]
set_option maxHeartbeats 2000000 in
theorem joinedPieces_any (n : Nat) (P T : Nat → Int) (L : Nat → Nat) (Y : Nat → Nat → Int) (a : Option Addr) (cap : Nat) (w : World) (hn : 3 ≤ n) (hL : ∀ i, i < n → L i = 16) (h : LoosesAt w a n P T L Y) :
    Calls Try.prog 39 #[.slice a n cap] w fun e w' => e = .returned (.agg (bvs (jZ Y) 48).toArray) ∧ Below w.heap.size w w' := by
  obtain ⟨b, off, rfl, hbl, hc⟩ : ∃ b off, a = some ⟨b, off, none⟩ ∧ b < w.heap.size ∧ ∀ i, i < n → ∃ ai ci, w.cell? ⟨b, off + i * 3 + 2, none⟩ = some (.slice ai 16 ci) ∧ BytesAt w ai 16 (Y i) := by
    rcases h with h | ⟨b, off, ha, hl, hc⟩
    · omega
    · refine ⟨b, off, ha, hl, fun i hi => ?_⟩
      obtain ⟨_, _, ai, ci, h1, h2, _⟩ := hc i hi
      rw [hL i hi] at h1 h2
      exact ⟨ai, ci, h1, h2⟩
  have HC : Hid (∀ i, i < n → ∃ ai ci, w.cell? ⟨b, off + i * 3 + 2, none⟩ = some (.slice ai 16 ci) ∧ BytesAt w ai 16 (Y i)) := hc
  have hn0 : (0 : Int) < (n : Int) := by omega
  have hn1 : (1 : Int) < (n : Int) := by omega
  have hn2 : (2 : Int) < (n : Int) := by omega
  clear h hc hL
  go_enter Try.func39, Try.ntmps39
  go_wp2_with fail
  go_loopw [4, 5] (fun _ i wr => ∃ k : Nat, k ≤ 3 ∧ i = .int .i64 k ∧ Below w.heap.size w wr ∧ wr.rowIs (w.heap.size + 1) 66 48 (fun i => .int .u8 (fz (jZ Y) k i)) ∧ wr.rowIs w.heap.size 66 48 (fun _ => .int .u8 0)) (fun _ i _ => 3 - (intOf i).toNat)
  case atStart =>
    refine ⟨0, by omega, rfl, ((Below.refl _ _).alloc (Nat.le_refl _) _).alloc (by simp) _, ?_, ?_⟩
    · have h := World.rowIs_alloc (w.alloc (.cells (zeros 48).toArray 66)) (zeros 48).toArray 66 (fun i => .int .u8 (fz (jZ Y) 0 i)) (fun i hi => by
        have hi' : i < 48 := by rw [zeros_size] at hi; exact hi
        rw [zeros_get _ _ hi']; simp [fz])
      rw [World.size_alloc] at h
      exact h
    · refine World.rowIs.alloc ?_ _
      exact World.rowIs_alloc w (zeros 48).toArray 66 (fun _ => .int .u8 0) (fun i hi => by
        have hi' : i < 48 := by rw [zeros_size] at hi; exact hi
        rw [zeros_get _ _ hi'])
  case round =>
    obtain ⟨k, hk, rfl, hb, hr, hr0⟩ := hrel
    by_cases hlt : k < 3
    · have hk3 : k = 0 ∨ k = 1 ∨ k = 2 := by omega
      have HR : Hid (wr.rowIs (w.heap.size + 1) 66 48 (fun i => .int .u8 (fz (jZ Y) k i))) := hr
      have HR0 : Hid (wr.rowIs w.heap.size 66 48 (fun _ => .int .u8 0)) := hr0
      have HB : Hid (Below w.heap.size w wr) := hb
      obtain ⟨ai, ci, hq0, hy0⟩ := HC.out k (by omega)
      have hq := cell_below hq0 hb
      have HY : Hid (BytesAt wr ai 16 (Y k)) := hy0.below hb
      clear hr hr0 hb hq0 hy0
      rcases hk3 with rfl | rfl | rfl
      · go_wp2_with fail
        refine (sectorOf_any 16 (Y 0) _ _ wr (by omega) HY.out).mono ?_
        rintro e w1 ⟨rfl, hb1⟩
        have hsz := HR.out.lt
        have hsz0 := HR0.out.lt
        have HR1 : Hid (w1.rowIs (w.heap.size + 1) 66 48 (fun i => .int .u8 (fz (jZ Y) 0 i))) := HR.out.of_block (hb1.block _ hsz)
        have HR2 : Hid (w1.rowIs w.heap.size 66 48 (fun _ => .int .u8 0)) := HR0.out.of_block (hb1.block _ hsz0)
        have HB1 : Hid (Below w.heap.size w w1) := below_then HB.out hb1
        clear hb1 hsz hsz0
        rw [jZ_cut Y 0]
        go_wp2_with (refine wpList_store_mid (by rfl) 64 (.tmp 15) (.tmp 14) (by rfl) (w.heap.size + 1) 0 (bvs (fun i => jZ Y (16 * 0 + i)) 16).toArray (by rfl) (by rfl) ?_ ?_ ?_ ?_)
        · rw [bvs_size]; exact row_there HR1.out (by omega)
        · rw [size144, bvs_size]
        · exact all_oneCell_toArray (bvs_one _ _)
        go_roundw
        case rel =>
          refine ⟨1, by omega, rfl, ?_, fz_step (k := 0) (by omega) HR1.out, rowIs_far _ HR2.out (by omega)⟩
          exact Writes.below HB1.out (Writes.setCells (lo := w.heap.size) (hi := w.heap.size + 2) (by omega) (by omega) _ _ _ (Writes.refl _ _ _)) (Nat.le_refl _)
        case measure => simp [intOf]
      · go_wp2_with fail
        refine (sectorOf_any 16 (Y 1) _ _ wr (by omega) HY.out).mono ?_
        rintro e w1 ⟨rfl, hb1⟩
        have hsz := HR.out.lt
        have hsz0 := HR0.out.lt
        have HR1 : Hid (w1.rowIs (w.heap.size + 1) 66 48 (fun i => .int .u8 (fz (jZ Y) 1 i))) := HR.out.of_block (hb1.block _ hsz)
        have HR2 : Hid (w1.rowIs w.heap.size 66 48 (fun _ => .int .u8 0)) := HR0.out.of_block (hb1.block _ hsz0)
        have HB1 : Hid (Below w.heap.size w w1) := below_then HB.out hb1
        clear hb1 hsz hsz0
        rw [jZ_cut Y 1]
        go_wp2_with (refine wpList_store_mid (by rfl) 64 (.tmp 15) (.tmp 14) (by rfl) (w.heap.size + 1) 16 (bvs (fun i => jZ Y (16 * 1 + i)) 16).toArray (by rfl) (by rfl) ?_ ?_ ?_ ?_)
        · rw [bvs_size]; exact row_there HR1.out (by omega)
        · rw [size144, bvs_size]
        · exact all_oneCell_toArray (bvs_one _ _)
        go_roundw
        case rel =>
          refine ⟨2, by omega, rfl, ?_, fz_step (k := 1) (by omega) HR1.out, rowIs_far _ HR2.out (by omega)⟩
          exact Writes.below HB1.out (Writes.setCells (lo := w.heap.size) (hi := w.heap.size + 2) (by omega) (by omega) _ _ _ (Writes.refl _ _ _)) (Nat.le_refl _)
        case measure => simp [intOf]
      · go_wp2_with fail
        refine (sectorOf_any 16 (Y 2) _ _ wr (by omega) HY.out).mono ?_
        rintro e w1 ⟨rfl, hb1⟩
        have hsz := HR.out.lt
        have hsz0 := HR0.out.lt
        have HR1 : Hid (w1.rowIs (w.heap.size + 1) 66 48 (fun i => .int .u8 (fz (jZ Y) 2 i))) := HR.out.of_block (hb1.block _ hsz)
        have HR2 : Hid (w1.rowIs w.heap.size 66 48 (fun _ => .int .u8 0)) := HR0.out.of_block (hb1.block _ hsz0)
        have HB1 : Hid (Below w.heap.size w w1) := below_then HB.out hb1
        clear hb1 hsz hsz0
        rw [jZ_cut Y 2]
        go_wp2_with (refine wpList_store_mid (by rfl) 64 (.tmp 15) (.tmp 14) (by rfl) (w.heap.size + 1) 32 (bvs (fun i => jZ Y (16 * 2 + i)) 16).toArray (by rfl) (by rfl) ?_ ?_ ?_ ?_)
        · rw [bvs_size]; exact row_there HR1.out (by omega)
        · rw [size144, bvs_size]
        · exact all_oneCell_toArray (bvs_one _ _)
        go_roundw
        case rel =>
          refine ⟨3, by omega, rfl, ?_, fz_step (k := 2) (by omega) HR1.out, rowIs_far _ HR2.out (by omega)⟩
          exact Writes.below HB1.out (Writes.setCells (lo := w.heap.size) (hi := w.heap.size + 2) (by omega) (by omega) _ _ _ (Writes.refl _ _ _)) (Nat.le_refl _)
        case measure => simp [intOf]
    · have hkn : k = 3 := by omega
      have HR : Hid (wr.rowIs (w.heap.size + 1) 66 48 (fun i => .int .u8 (jZ Y i))) := hr.congr fun i hi => by subst hkn; simp [fz]; omega
      have HR0 : Hid (wr.rowIs w.heap.size 66 48 (fun _ => .int .u8 0)) := hr0
      have HB : Hid (Below w.heap.size w wr) := hb
      clear hr hr0 hb
      go_wp2_with (first | (refine wpList_load_mid (by rfl) 66 (.tmp 3) (by rfl) (w.heap.size + 1) 0 (by rfl) (bvs (jZ Y) 48) _ (row_range HR.out) Try.underlying66 rfl (by rw [size147, bvs_len]) ?_) | (refine wpList_store_mid (by rfl) 66 (.tmp 2) (.tmp 17) (by rfl) w.heap.size 0 (bvs (jZ Y) 48).toArray (by rfl) (by rfl) ?_ ?_ ?_ ?_))
      · rw [bvs_size]; exact row_there HR0.out (by omega)
      · rw [size147, bvs_size]
      · exact all_oneCell_toArray (bvs_one _ _)
      have hlv : (loadVar 66 ⟨w.heap.size, 0, none⟩).run Try.prog (wr.setCells w.heap.size 0 (bvs (jZ Y) 48)) = .ok (.agg (bvs (jZ Y) 48).toArray) (wr.setCells w.heap.size 0 (bvs (jZ Y) 48)) :=
        run_loadVar_mid _ _ _ 66 (bvs (jZ Y) 48) _ (World.rangeAt_setCells_same _ _ _ _ (by rw [bvs_len]; exact row_there HR0.out (by omega))) Try.underlying66 rfl (by rw [size147, bvs_len])
      refine bodyPost_ret (v := .agg (bvs (jZ Y) 48).toArray) (results_one (by rfl) _ _ _ _ (by rfl) hlv) rfl ⟨rfl, ?_⟩
      exact Writes.below HB.out (Writes.setCells (lo := w.heap.size) (hi := w.heap.size + 1) (Nat.le_refl _) (by omega) _ _ _ (Writes.refl _ _ _)) (Nat.le_refl _)
end Go.Proofs.Ytldnfiadafmomaa
