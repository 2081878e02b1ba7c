/- The maker of bytes: fillTo and putSum. -/
import Derived.Test.YtaokclhcmgbgnaaGreatQBase
import Derived.Deep.AppendLies
import Derived.Deep.RegionHeld3
import Derived.Deep.RegionLaw
namespace Go.Proofs.YtaokclhcmgbgnaaGreat
open Go.RowKit Go.Deep
set_option linter.unusedVariables false

set_option maxHeartbeats 2000000 in
theorem specFault_some (id lsn : Int) (n : Nat) (K V : Nat → Int) (b off cap : Nat) (w : World) (hn : n ≤ 12) (hbl : b < w.heap.size)
    (hk : ∀ i, i < n → w.cell? ⟨b, off + i * 2, none⟩ = some (.int .i64 (K i))) (hv : ∀ i, i < n → w.cell? ⟨b, off + i * 2 + 1, none⟩ = some (.int .i64 (V i)))
    (hi1 : inB id 0 7 = true) (hi2 : inB lsn 0 1000000 = true) :
    Calls Tryz.prog 148 #[.agg #[.int .i64 id, .int .i64 lsn, .slice (some ⟨b, off, none⟩) n cap]] w fun e w' => e = .returned (.int .i64 (cff K V n 0)) ∧ Below w.heap.size w w' := by
  have hk2 : ∀ (o : Obj) (i : Nat), i < n → (w.alloc o).cell? ⟨b, off + i * 2, none⟩ = some (.int .i64 (K i)) := fun o i hi => cell_alloc (hk i hi) o
  have hv2 : ∀ (o : Obj) (i : Nat), i < n → (w.alloc o).cell? ⟨b, off + i * 2 + 1, none⟩ = some (.int .i64 (V i)) := fun o i hi => cell_alloc (hv i hi) o
  have HK : Hid (∀ (o : Obj) (i : Nat), i < n → (w.alloc o).cell? ⟨b, off + i * 2, none⟩ = some (.int .i64 (K i))) := hk2
  have HV : Hid (∀ (o : Obj) (i : Nat), i < n → (w.alloc o).cell? ⟨b, off + i * 2 + 1, none⟩ = some (.int .i64 (V i))) := hv2
  have hn' : ¬ (12 < n) := by omega
  clear hk hv hk2 hv2
  go_enter Tryz.func148, Tryz.ntmps148
  go_wp2_with (first | (go_at_call 64; refine (l1Key_any _ _).mono ?_; rintro e w' ⟨rfl, rfl⟩) | (go_at_call 65; refine (l1Value_any _ _).mono ?_; rintro e w' ⟨rfl, rfl⟩) | (go_at_call 26; refine (l1In_any _ _ _ _).mono ?_; rintro e w' ⟨rfl, rfl⟩) | (go_at_call 185; refine (l1Lsn_any _ _).mono ?_; rintro e w' ⟨rfl, rfl⟩))
  go_loopw [3] (fun i wr => ∃ k : Nat, k ≤ n ∧ i = .int .i64 k ∧ Hid (cff K V n 0 = cff K V (n - k) k) ∧ ∃ m, wr = (w.alloc (.cells #[.int .i64 id, .int .i64 lsn, .slice (some ⟨b, off, none⟩) n cap] 66)).drewN m) (fun i _ => n - (intOf i).toNat)
  case atStart => exact ⟨0, Nat.zero_le _, rfl, rfl, 0, rfl⟩
  case round =>
    obtain ⟨k, hk0, rfl, HC, m, rfl⟩ := hrel
    by_cases hlt : k < n
    · have h1 := fun o => HK.out o k hlt
      have h2 := fun o => HV.out o k hlt
      have hlt' : (k : Int) < (n : Int) := by omega
      have HA : Hid (cff K V n 0 = _) := HC.out.trans (cff_at hlt)
      clear HC
      by_cases hc1 : inB (K k) 0 31 = true
      · by_cases hc2 : inB (V k) 0 9999 = true
        · rcases Nat.eq_zero_or_pos k with hk9 | hpos
          · have hd : decide (0 < k) = false := by simp; omega
            have HC : Hid (cff K V n 0 = cff K V (n - (k + 1)) (k + 1)) := by
              refine HA.out.trans ?_
              rw [if_neg (by simp [hc1, hc2]), if_neg (by omega)]
            clear HA hk9
            go_wp2_with (first | (go_at_call 64; refine (l1Key_any _ _).mono ?_; rintro e w' ⟨rfl, rfl⟩) | (go_at_call 65; refine (l1Value_any _ _).mono ?_; rintro e w' ⟨rfl, rfl⟩) | (go_at_call 26; refine (l1In_any _ _ _ _).mono ?_; rintro e w' ⟨rfl, rfl⟩) | (go_at_call 185; refine (l1Lsn_any _ _).mono ?_; rintro e w' ⟨rfl, rfl⟩))
            go_quiet (fail)
            go_wp2
            go_roundw
            case rel => exact ⟨k + 1, hlt, by go_num, HC, _, rfl⟩
            case measure => simp [intOf]; omega
          · obtain ⟨j, rfl⟩ : ∃ j, k = j + 1 := ⟨k - 1, by omega⟩
            have h3 := fun o => HK.out o j (by omega)
            have hj1 : (j : Int) < (n : Int) := by omega
            have hj2 : j < n := by omega
            have hwj : IntKind.i64.wrap (j : Int) = (j : Int) := by rw [IntKind.wrap_i64]; omega
            by_cases hc3 : K (j + 1) ≤ K j
            · have HC : Hid (cff K V n 0 = 1) := by
                refine HA.out.trans ?_
                rw [if_neg (by simp [hc1, hc2]), if_pos ⟨by omega, by simpa using hc3⟩]
              clear HA
              go_wp2_with (first | (go_at_call 64; refine (l1Key_any _ _).mono ?_; rintro e w' ⟨rfl, rfl⟩) | (go_at_call 65; refine (l1Value_any _ _).mono ?_; rintro e w' ⟨rfl, rfl⟩) | (go_at_call 26; refine (l1In_any _ _ _ _).mono ?_; rintro e w' ⟨rfl, rfl⟩) | (go_at_call 185; refine (l1Lsn_any _ _).mono ?_; rintro e w' ⟨rfl, rfl⟩))
              go_quiet (fail)
              go_wp2
              go_ret
              exact ⟨ret_int HC.out.symm, by repeat (first | exact below_new _ _ | refine below_drewN ?_ _)⟩
            · have HC : Hid (cff K V n 0 = cff K V (n - (j + 1 + 1)) (j + 1 + 1)) := by
                refine HA.out.trans ?_
                rw [if_neg (by simp [hc1, hc2]), if_neg (by simp; omega)]
              have hc4 : decide (K (j + 1) ≤ K j) = false := by simp; omega
              clear HA
              go_wp2_with (first | (go_at_call 64; refine (l1Key_any _ _).mono ?_; rintro e w' ⟨rfl, rfl⟩) | (go_at_call 65; refine (l1Value_any _ _).mono ?_; rintro e w' ⟨rfl, rfl⟩) | (go_at_call 26; refine (l1In_any _ _ _ _).mono ?_; rintro e w' ⟨rfl, rfl⟩) | (go_at_call 185; refine (l1Lsn_any _ _).mono ?_; rintro e w' ⟨rfl, rfl⟩))
              go_quiet (fail)
              go_wp2
              go_roundw
              case rel => exact ⟨j + 1 + 1, hlt, by go_num, HC, _, rfl⟩
              case measure => simp [intOf]; omega
        · have hc4 : inB (V k) 0 9999 = false := by simpa using hc2
          have HC : Hid (cff K V n 0 = 3) := by
            refine HA.out.trans ?_
            rw [if_pos (.inr hc4)]
          clear HA hc2
          go_wp2_with (first | (go_at_call 64; refine (l1Key_any _ _).mono ?_; rintro e w' ⟨rfl, rfl⟩) | (go_at_call 65; refine (l1Value_any _ _).mono ?_; rintro e w' ⟨rfl, rfl⟩) | (go_at_call 26; refine (l1In_any _ _ _ _).mono ?_; rintro e w' ⟨rfl, rfl⟩) | (go_at_call 185; refine (l1Lsn_any _ _).mono ?_; rintro e w' ⟨rfl, rfl⟩))
          go_ret
          exact ⟨ret_int HC.out.symm, by repeat (first | exact below_new _ _ | refine below_drewN ?_ _)⟩
      · have hc4 : inB (K k) 0 31 = false := by simpa using hc1
        have HC : Hid (cff K V n 0 = 3) := by
          refine HA.out.trans ?_
          rw [if_pos (.inl hc4)]
        clear HA hc1
        go_wp2_with (first | (go_at_call 64; refine (l1Key_any _ _).mono ?_; rintro e w' ⟨rfl, rfl⟩) | (go_at_call 65; refine (l1Value_any _ _).mono ?_; rintro e w' ⟨rfl, rfl⟩) | (go_at_call 26; refine (l1In_any _ _ _ _).mono ?_; rintro e w' ⟨rfl, rfl⟩) | (go_at_call 185; refine (l1Lsn_any _ _).mono ?_; rintro e w' ⟨rfl, rfl⟩))
        go_ret
        exact ⟨ret_int HC.out.symm, by repeat (first | exact below_new _ _ | refine below_drewN ?_ _)⟩
    · have HC2 : Hid (cff K V n 0 = 0) := by
        refine HC.out.trans ?_
        rw [show n - k = 0 by omega, cff]
      clear HC
      go_wp2
      go_ret
      exact ⟨ret_int HC2.out.symm, by repeat (first | exact below_new _ _ | refine below_drewN ?_ _)⟩
theorem specFault_zero (id lsn : Int) (K V : Nat → Int) (a : Option Addr) (cap : Nat) (w : World) (hi1 : inB id 0 7 = true) (hi2 : inB lsn 0 1000000 = true) :
    Calls Tryz.prog 148 #[.agg #[.int .i64 id, .int .i64 lsn, .slice a 0 cap]] w fun e w' => e = .returned (.int .i64 (cff K V 0 0)) ∧ Below w.heap.size w w' := by
  go_enter Tryz.func148, Tryz.ntmps148
  go_wp2_with (first | (go_at_call 64; refine (l1Key_any _ _).mono ?_; rintro e w' ⟨rfl, rfl⟩) | (go_at_call 65; refine (l1Value_any _ _).mono ?_; rintro e w' ⟨rfl, rfl⟩) | (go_at_call 26; refine (l1In_any _ _ _ _).mono ?_; rintro e w' ⟨rfl, rfl⟩) | (go_at_call 185; refine (l1Lsn_any _ _).mono ?_; rintro e w' ⟨rfl, rfl⟩))
  go_loop [3] (fun i => i = .int .i64 0) (fun _ => 0)
  case atStart => exact rfl
  case round =>
    obtain rfl := hrel
    go_wp2
    go_ret
    exact ⟨rfl, below_new _ _⟩
theorem specFault_any (id lsn : Int) (n : Nat) (K V : Nat → Int) (a : Option Addr) (cap : Nat) (w : World) (hn : n ≤ 140737488355328) (h : CellsAt w a n K V) :
    Calls Tryz.prog 148 #[.agg #[.int .i64 id, .int .i64 lsn, .slice a n cap]] w fun e w' => e = .returned (.int .i64 (pf id lsn n K V)) ∧ Below w.heap.size w w' := by
  unfold pf
  by_cases h1 : inB id 0 7 = true
  · by_cases h2 : inB lsn 0 1000000 = true
    · rw [if_neg (by simp [h1, h2])]
      by_cases h3 : 12 < n
      · rw [if_pos h3]
        clear h
        go_enter Tryz.func148, Tryz.ntmps148
        go_wp2_with (first | (go_at_call 64; refine (l1Key_any _ _).mono ?_; rintro e w' ⟨rfl, rfl⟩) | (go_at_call 65; refine (l1Value_any _ _).mono ?_; rintro e w' ⟨rfl, rfl⟩) | (go_at_call 26; refine (l1In_any _ _ _ _).mono ?_; rintro e w' ⟨rfl, rfl⟩) | (go_at_call 185; refine (l1Lsn_any _ _).mono ?_; rintro e w' ⟨rfl, rfl⟩))
        go_ret
        exact ⟨rfl, below_new _ _⟩
      · rw [if_neg h3]
        rcases h with rfl | ⟨b, off, rfl, hbl, hk, hv⟩
        · exact specFault_zero id lsn K V a cap w h1 h2
        · exact specFault_some id lsn n K V b off cap w (by omega) hbl hk hv h1 h2
    · rw [if_pos (.inr (by simpa using h2))]
      have h4 : inB lsn 0 1000000 = false := by simpa using h2
      clear h2 h
      go_enter Tryz.func148, Tryz.ntmps148
      go_wp2_with (first | (go_at_call 64; refine (l1Key_any _ _).mono ?_; rintro e w' ⟨rfl, rfl⟩) | (go_at_call 65; refine (l1Value_any _ _).mono ?_; rintro e w' ⟨rfl, rfl⟩) | (go_at_call 26; refine (l1In_any _ _ _ _).mono ?_; rintro e w' ⟨rfl, rfl⟩) | (go_at_call 185; refine (l1Lsn_any _ _).mono ?_; rintro e w' ⟨rfl, rfl⟩))
      go_ret
      exact ⟨rfl, below_new _ _⟩
  · rw [if_pos (.inl (by simpa using h1))]
    have h4 : inB id 0 7 = false := by simpa using h1
    clear h1 h
    go_enter Tryz.func148, Tryz.ntmps148
    go_wp2_with (first | (go_at_call 64; refine (l1Key_any _ _).mono ?_; rintro e w' ⟨rfl, rfl⟩) | (go_at_call 65; refine (l1Value_any _ _).mono ?_; rintro e w' ⟨rfl, rfl⟩) | (go_at_call 26; refine (l1In_any _ _ _ _).mono ?_; rintro e w' ⟨rfl, rfl⟩) | (go_at_call 185; refine (l1Lsn_any _ _).mono ?_; rintro e w' ⟨rfl, rfl⟩))
    go_ret
    exact ⟨rfl, below_new _ _⟩
def plc (K : Nat → Int) (key : Int) : Nat → Nat → Nat
  | 0, i => i
  | m + 1, i => if K i < key then plc K key m (i + 1) else i
/-- The place of a key among n cells. -/
def pl (K : Nat → Int) (key : Int) (n : Nat) : Nat := plc K key n 0
def has (K : Nat → Int) (key : Int) (n : Nat) : Bool := decide (pl K key n < n) && decide (K (pl K key n) = key)
def Rising (K : Nat → Int) (n : Nat) : Prop := ∀ i j, i < j → j < n → K i < K j
/-- A page without a fault: its cells rise. -/
theorem cff_zero {K V : Nat → Int} : ∀ m i, cff K V m i = 0 → ∀ j, i ≤ j → j < i + m → (inB (K j) 0 31 = true ∧ inB (V j) 0 9999 = true ∧ (0 < j → K (j - 1) < K j))
  | 0, i, _ => fun j _ _ => by omega
  | m + 1, i, h => fun j h1 h2 => by
    rw [cff] at h
    by_cases c1 : inB (K i) 0 31 = false ∨ inB (V i) 0 9999 = false
    · rw [if_pos c1] at h; omega
    · rw [if_neg c1] at h
      by_cases c2 : 0 < i ∧ K i ≤ K (i - 1)
      · rw [if_pos c2] at h; omega
      · rw [if_neg c2] at h
        by_cases e : j = i
        · subst e
          refine ⟨?_, ?_, fun h0 => by omega⟩
          · cases hh : inB (K j) 0 31 with
            | true => rfl
            | false => exact absurd (.inl hh) c1
          · cases hh : inB (V j) 0 9999 with
            | true => rfl
            | false => exact absurd (.inr hh) c1
        · exact cff_zero m (i + 1) h j (by omega) (by omega)
structure GoodP (idn lsn : Int) (n : Nat) (K V : Nat → Int) : Prop where
  gid : inB idn 0 7 = true
  glsn : inB lsn 0 1000000 = true
  gn : n ≤ 12
  gkey : ∀ i, i < n → 0 ≤ K i ∧ K i ≤ 31
  gval : ∀ i, i < n → 0 ≤ V i ∧ V i ≤ 9999
  grise : Rising K n
theorem good_of {idn lsn : Int} {n : Nat} {K V : Nat → Int} (h : pf idn lsn n K V = 0) : GoodP idn lsn n K V := by
  unfold pf at h
  by_cases c1 : inB idn 0 7 = false ∨ inB lsn 0 1000000 = false
  · rw [if_pos c1] at h; omega
  · rw [if_neg c1] at h
    by_cases c2 : 12 < n
    · rw [if_pos c2] at h; omega
    · rw [if_neg c2] at h
      have hz := cff_zero n 0 h
      have hstep : ∀ i, i + 1 < n → K i < K (i + 1) := fun i hi => by
        have := (hz (i + 1) (Nat.zero_le _) (by omega)).2.2 (by omega)
        simpa using this
      refine ⟨?_, ?_, by omega, fun i hi => inB_iff.1 (hz i (Nat.zero_le _) (by omega)).1, fun i hi => inB_iff.1 (hz i (Nat.zero_le _) (by omega)).2.1, ?_⟩
      · cases hh : inB idn 0 7 with
        | true => rfl
        | false => exact absurd (.inl hh) c1
      · cases hh : inB lsn 0 1000000 with
        | true => rfl
        | false => exact absurd (.inr hh) c1
      · intro i j hij
        induction j with
        | zero => omega
        | succ j ih =>
          intro hj
          by_cases e : i = j
          · subst e; exact hstep i hj
          · have h1 := ih (by omega) (by omega)
            have h2 := hstep j hj
            omega

/-! ### the walks -/
def bl (zs : List Int) : List Value := zs.map (Value.int .u8)
theorem bl_len (zs : List Int) : (bl zs).length = zs.length := by simp [bl]
theorem bl_app (zs ys : List Int) : bl (zs ++ ys) = bl zs ++ bl ys := by simp [bl]
theorem bl_one (zs : List Int) : ∀ u ∈ bl zs, u.oneCell' = true := by
  intro u hu
  obtain ⟨z, _, rfl⟩ := List.mem_map.1 hu
  rfl
/-- The byte of a number at a place. -/
def byt (x : Int) (k : Nat) : Int := x / 2 ^ (8 * k) % 256
theorem byt_bd (x : Int) (k : Nat) : 0 ≤ byt x k ∧ byt x k ≤ 255 := by unfold byt; omega
/-- A number in so many bytes, the highest first. -/
def nb (x : Int) : Nat → List Int
  | 0 => []
  | s + 1 => byt x s :: nb x s
theorem nb_len (x : Int) : ∀ s, (nb x s).length = s
  | 0 => rfl
  | s + 1 => by simp [nb, nb_len x s]
/-- One byte appended. -/
theorem app_byte {w wr w1 : World} {B : Nat} {v v' : Value} {T : List Int} {z : Int} {c : Array Value} {t : TypeId} (hb : Below B w wr) (hB : B ≤ wr.heap.size) (hown : wr.ownsRow B 5 1 v T.length (bl T))
    (h1 : w1.ownsRow B 5 1 v' (T.length + 1) (bl T ++ [.int .u8 z])) (hg : (wr.alloc (.cells c t)).grownBy w1 v.ownBlock) :
    w1.ownsRow B 5 1 v' (T ++ [z]).length (bl (T ++ [z])) ∧ Below B w w1 := by
  refine ⟨?_, (hb.alloc hB _).grown hg (by simp; omega) fun q hq => (hown.lt q hq).1⟩
  rw [bl_app, List.length_append]
  exact h1
set_option maxHeartbeats 1000000 in
theorem l1Bytes_any (x : Int) (size : Nat) (w : World) (hs : size ≤ 4) (hx : 0 ≤ x) (hx2 : x ≤ 1000000) :
    Calls Tryz.prog 88 #[.int .i64 x, .int .i64 size] w fun e w' => ∃ v, e = .returned v ∧ Below w.heap.size w w' ∧ w'.ownsRow w.heap.size 5 1 v (nb x size).length (bl (nb x size)) ∧ v ≠ .slice none 0 0 := by
  obtain ⟨i0, hi, hz0, hz1, hz2⟩ := info_parts info5
  have HI : Hid (Tryz.prog.info? 5 = some i0 ∧ i0.zero = some (.int .u8 0) ∧ i0.size = 1 ∧ i0.bytes = 1) := ⟨hi, hz0, hz1, hz2⟩
  clear hi hz0 hz1 hz2
  go_enter Tryz.func88, Tryz.ntmps88
  go_wp2
  go_loopw [5, 6] (fun v i wr => ∃ j : Nat, j ≤ size ∧ i = .int .i64 ((j : Int) - 1) ∧ Below w.heap.size w wr ∧ Hid (v ≠ .slice none 0 0) ∧ ∃ T, Hid (T ++ nb x j = nb x size) ∧ wr.ownsRow w.heap.size 5 1 v T.length (bl T)) (fun _ i _ => (intOf i + 1).toNat)
  case atStart => exact ⟨size, Nat.le_refl _, by go_num, below_new _ _, by simp [Hid], [], rfl, World.ownsRow_lit w #[] 0 (Nat.le_refl _) (Nat.zero_le _) rfl⟩
  case round =>
    obtain ⟨j, hj, rfl, hb, HNE, T, HT, hown⟩ := hrel
    have HO : Hid (wr.ownsRow w.heap.size 5 1 u5 T.length (bl T)) := hown
    have HB : Hid (Below w.heap.size w wr) := hb
    have HS : Hid (w.heap.size ≤ wr.heap.size) := hb.size
    have HTL : Hid (T.length + j = size) := by have := congrArg List.length HT.out; rw [List.length_append, nb_len, nb_len] at this; exact this
    clear hown hb
    rcases Nat.eq_zero_or_pos j with rfl | hp
    · go_wp2
      go_ret
      refine ⟨_, rfl, HB.out, ?_, HNE.out⟩
      have := HT.out
      rw [nb, List.append_nil] at this
      rw [← this]
      exact HO.out
    · obtain ⟨k, rfl⟩ : ∃ k, j = k + 1 := ⟨j - 1, by omega⟩
      have hk : (k : Int) ≤ 3 := by omega
      go_wp2_with (at_builtin; refine wpList_append_own _ rfl _ _ 27 rfl w.heap.size 5 i0 (.int .u8 0) 1 1 Tryz.underlying27 HI.out.1 HI.out.2.1 HI.out.2.2.1 HI.out.2.2.2 rfl (by decide) _ _ _ rfl (HO.out.alloc _) ⟨wr.heap.size, 0, none⟩ 1 1 [.int .u8 (x / 2 ^ (8 * k) % 256)] rfl rfl (cell_one_new _ _ _) ?c2 ?c3 ?c4 ?c5 ?_)
      case c2 => intro u hu; simp at hu; subst hu; rfl
      case c3 => have := HTL.out; unfold maxLen; omega
      case c4 => have := HTL.out; omega
      case c5 => have := HS.out; simp; omega
      intro v' w1 ho1 hg1 hne1
      have HR : Hid _ := app_byte HB.out HS.out HO.out ho1 hg1
      have HNE1 : Hid (v' ≠ .slice none 0 0) := hne1
      clear ho1 hg1 hne1
      go_wp2
      go_roundw
      case rel => exact ⟨k, by omega, by go_num, HR.out.2, HNE1, T ++ [byt x k], by show T ++ [byt x k] ++ nb x k = nb x size; rw [← HT.out]; simp [nb], HR.out.1⟩
      case measure => simp [intOf]
/-! ### spec.SumBytes -/
set_option maxHeartbeats 400000 in
theorem specSum_some (n : Nat) (z : Nat → Int) (b off cap : Nat) (w : World) (hn : n ≤ 140737488355328) (hz : Byt n z) (hc : ∀ i, i < n → w.cell? ⟨b, off + i, none⟩ = some (.int .u8 (z i))) :
    Calls Tryz.prog 89 #[.slice (some ⟨b, off, none⟩) n cap] w fun e w' => e = .returned (.int .i64 (sumB z n)) ∧ w' = w := by
  go_enter Tryz.func89, Tryz.ntmps89
  go_wp2
  go_loop [3, 4] (fun h i => ∃ k : Nat, k ≤ n ∧ i = .int .i64 k ∧ h = .int .i64 (sumB z k)) (fun _ i => n - (intOf i).toNat)
  case atStart => exact ⟨0, Nat.zero_le _, rfl, rfl⟩
  case round =>
    obtain ⟨k, hk, rfl, rfl⟩ := hrel
    have hbd := sumB_bd z k
    obtain ⟨hb1, hb2⟩ := hbd
    by_cases hlt : k < n
    · have hcell := hc k hlt
      obtain ⟨hz1, hz2⟩ := hz k hlt
      have HS : Hid (sumB z (k + 1) = (sumB z k * 269 + z k + 1) % 65521) := rfl
      clear hc hz
      go_wp2
      go_round
      case rel => exact ⟨k + 1, hlt, by go_num, by rw [HS.out]⟩
      case measure => simp [intOf]; omega
    · have hkn : k = n := by omega
      clear hc hz
      go_wp2
      go_ret
      exact ⟨rfl, rfl⟩
theorem specSum_zero (z : Nat → Int) (a : Option Addr) (cap : Nat) (w : World) :
    Calls Tryz.prog 89 #[.slice a 0 cap] w fun e w' => e = .returned (.int .i64 (sumB z 0)) ∧ w' = w := by
  go_enter Tryz.func89, Tryz.ntmps89
  go_wp2
  go_loop [3, 4] (fun h i => i = .int .i64 0 ∧ h = .int .i64 9) (fun _ _ => 0)
  case atStart => exact ⟨rfl, rfl⟩
  case round =>
    obtain ⟨rfl, rfl⟩ := hrel
    go_wp2
    go_ret
    exact ⟨rfl, rfl⟩
theorem specSum_any (n : Nat) (z : Nat → Int) (a : Option Addr) (cap : Nat) (w : World) (hn : n ≤ 140737488355328) (hz : Byt n z) (h : BytesAt w a n z) :
    Calls Tryz.prog 89 #[.slice a n cap] w fun e w' => e = .returned (.int .i64 (sumB z n)) ∧ w' = w := by
  rcases h with rfl | ⟨b, off, rfl, _, hc⟩
  · exact specSum_zero z a cap w
  · exact specSum_some n z b off cap w hn hz hc

/-! ### impl.SumBytes -/
set_option maxHeartbeats 400000 in
theorem implSum_some (n : Nat) (z : Nat → Int) (b off cap : Nat) (w : World) (hn : n ≤ 140737488355328) (hz : Byt n z) (hc : ∀ i, i < n → w.cell? ⟨b, off + i, none⟩ = some (.int .u8 (z i))) :
    Calls Tryz.prog 220 #[.slice (some ⟨b, off, none⟩) n cap] w fun e w' => e = .returned (.int .i64 (sumB z n)) ∧ w' = w := by
  go_enter Tryz.func220, Tryz.ntmps220
  go_wp2
  go_loop [3, 5, 8] (fun h _ i => ∃ k : Nat, k ≤ n ∧ i = .int .i64 k ∧ h = .int .i64 (sumB z k)) (fun _ _ i => n - (intOf i).toNat)
  case atStart => exact ⟨0, Nat.zero_le _, rfl, rfl⟩
  case round =>
    obtain ⟨k, hk, rfl, rfl⟩ := hrel
    have hbd := sumB_bd z k
    obtain ⟨hb1, hb2⟩ := hbd
    by_cases hlt : k < n
    · have hcell := hc k hlt
      obtain ⟨hz1, hz2⟩ := hz k hlt
      have HS : Hid (sumB z (k + 1) = (sumB z k * 269 + z k + 1) % 65521) := rfl
      clear hc hz
      go_wp2
      go_round
      case rel => exact ⟨k + 1, hlt, by go_num, by rw [HS.out]⟩
      case measure => simp [intOf]; omega
    · have hkn : k = n := by omega
      clear hc hz
      go_wp2
      go_ret
      exact ⟨rfl, rfl⟩
theorem implSum_zero (z : Nat → Int) (a : Option Addr) (cap : Nat) (w : World) :
    Calls Tryz.prog 220 #[.slice a 0 cap] w fun e w' => e = .returned (.int .i64 (sumB z 0)) ∧ w' = w := by
  go_enter Tryz.func220, Tryz.ntmps220
  go_wp2
  go_loop [3, 5, 8] (fun h _ i => i = .int .i64 0 ∧ h = .int .i64 9) (fun _ _ _ => 0)
  case atStart => exact ⟨rfl, rfl⟩
  case round =>
    obtain ⟨rfl, rfl⟩ := hrel
    go_wp2
    go_ret
    exact ⟨rfl, rfl⟩
theorem implSum_any (n : Nat) (z : Nat → Int) (a : Option Addr) (cap : Nat) (w : World) (hn : n ≤ 140737488355328) (hz : Byt n z) (h : BytesAt w a n z) :
    Calls Tryz.prog 220 #[.slice a n cap] w fun e w' => e = .returned (.int .i64 (sumB z n)) ∧ w' = w := by
  rcases h with rfl | ⟨b, off, rfl, _, hc⟩
  · exact implSum_zero z a cap w
  · exact implSum_some n z b off cap w hn hz hc

/-! ### laws.toByteS -/
set_option maxHeartbeats 400000 in
theorem toByteS_some (n : Nat) (z : Nat → Int) (b off cap : Nat) (w : World) (hn : n ≤ 140737488355328) (hbl : b < w.heap.size) (hc : ∀ i, i < n → w.cell? ⟨b, off + i, none⟩ = some (.int .u8 (z i))) :
    Calls Tryz.prog 94 #[.slice (some ⟨b, off, none⟩) n cap] w fun e w' =>
      e = .returned (.slice (some ⟨w.heap.size, 0, none⟩) n n) ∧ Below w.heap.size w w' ∧ w'.rowIs w.heap.size 5 n (fun i => .int .u8 (z i)) := by
  have hmk := run_make_row' (P := Tryz.prog) 27 5 (.int .u8 0) 1 Tryz.underlying27 info5 rfl .i64 .i64 n (by omega) (by omega)
  go_enter Tryz.func94, Tryz.ntmps94
  go_wp2
  go_loopw [4] (fun i wr => ∃ k : Nat, k ≤ n ∧ i = .int .i64 k ∧ Below w.heap.size w wr ∧ wr.rowIs w.heap.size 5 n (fun j => if j < k then .int .u8 (z j) else .int .u8 0)) (fun i _ => n - (intOf i).toNat)
  case atStart => exact ⟨0, Nat.zero_le _, rfl, (Below.refl _ _).alloc (Nat.le_refl _) _, (World.rowIs_made w _ n 5).congr (fun i _ => by simp)⟩
  case round =>
    obtain ⟨k, hk, rfl, hb, hrow⟩ := hrel
    by_cases hlt : k < n
    · have hcell : wr.cell? ⟨b, off + k, none⟩ = some (.int .u8 (z k)) := (hb.cell (p := ⟨b, off + k, none⟩) hbl).trans (hc k hlt)
      obtain ⟨v3, hv3⟩ : ∃ v, wr.cell? ⟨w.heap.size, k, none⟩ = some v := ⟨_, hrow.cell hlt⟩
      have hfz := hrow.frozen k
      clear hc hmk
      have HR : Hid (wr.rowIs w.heap.size 5 n (fun j => if j < k then .int .u8 (z j) else .int .u8 0)) := hrow
      have HB : Hid (Below w.heap.size w wr) := hb
      clear hrow hb
      go_wp2
      go_roundw
      case rel => exact ⟨k + 1, hlt, by go_num, HB.out.setCell (Nat.le_refl _) _, (HR.out.set k _).congr (fun i hi => by by_cases e : i = k <;> by_cases e2 : i < k <;> simp [e, e2] <;> omega)⟩
      case measure => simp [intOf]; omega
    · have hkn : k = n := by omega
      have HR : Hid (wr.rowIs w.heap.size 5 n (fun j => .int .u8 (z j))) := hrow.congr (fun i hi => by simp; omega)
      clear hc hmk hrow
      go_wp2
      go_ret
      exact ⟨rfl, hb, HR.out⟩
theorem toByteS_zero (z : Nat → Int) (a : Option Addr) (cap : Nat) (w : World) :
    Calls Tryz.prog 94 #[.slice a 0 cap] w fun e w' =>
      e = .returned (.slice (some ⟨w.heap.size, 0, none⟩) 0 0) ∧ Below w.heap.size w w' ∧ w'.rowIs w.heap.size 5 0 (fun i => .int .u8 (z i)) := by
  have hmk : ∀ w, (Instr.makeSlice 27 (.int .i64 0) (.int .i64 0)).run Tryz.prog w = .ok (.slice (some ⟨w.heap.size, 0, none⟩) 0 0) (w.alloc (.cells #[] 5)) := fun w => by
    have h := run_make_row' (P := Tryz.prog) 27 5 (.int .u8 0) 1 Tryz.underlying27 info5 rfl .i64 .i64 0 (by omega) (by omega) w
    rw [made_none] at h
    exact h
  go_enter Tryz.func94, Tryz.ntmps94
  go_wp2
  go_loop [4] (fun i => i = .int .i64 0) (fun _ => 0)
  case atStart => exact rfl
  case round =>
    obtain rfl := hrel
    go_wp2
    go_ret
    exact ⟨rfl, (Below.refl _ _).alloc (Nat.le_refl _) _, World.rowIs_alloc w #[] 5 _ (fun i hi => by simp at hi)⟩
theorem toByteS_any (n : Nat) (z : Nat → Int) (a : Option Addr) (cap : Nat) (w : World) (hn : n ≤ 140737488355328) (h : BytesAt w a n z) :
    Calls Tryz.prog 94 #[.slice a n cap] w fun e w' =>
      e = .returned (.slice (some ⟨w.heap.size, 0, none⟩) n n) ∧ Below w.heap.size w w' ∧ w'.rowIs w.heap.size 5 n (fun i => .int .u8 (z i)) := by
  rcases h with rfl | ⟨b, off, rfl, hbl, hc⟩
  · exact toByteS_zero z a cap w
  · exact toByteS_some n z b off cap w hn hbl hc

/-! ### laws.eqByteS: two rows of the same bytes -/
set_option maxHeartbeats 400000 in
theorem eqByteS_same (n : Nat) (z : Nat → Int) (b off cap b' off' cap' : Nat) (w : World) (hn : n ≤ 140737488355328) (hc : ∀ i, i < n → w.cell? ⟨b, off + i, none⟩ = some (.int .u8 (z i))) (hc' : ∀ i, i < n → w.cell? ⟨b', off' + i, none⟩ = some (.int .u8 (z i))) :
    Calls Tryz.prog 106 #[.slice (some ⟨b, off, none⟩) n cap, .slice (some ⟨b', off', none⟩) n cap'] w fun e w' => e = .returned (.bool true) ∧ ∃ m, w' = w.drewN m := by
  go_enter Tryz.func106, Tryz.ntmps106
  go_wp2
  go_loopw [5] (fun i wr => ∃ k : Nat, k ≤ n ∧ i = .int .i64 k ∧ ∃ m, wr = w.drewN m) (fun i _ => n - (intOf i).toNat)
  case atStart => exact ⟨0, Nat.zero_le _, rfl, 0, rfl⟩
  case round =>
    obtain ⟨k, hk, rfl, m, rfl⟩ := hrel
    by_cases hlt : k < n
    · have hcell := hc k hlt
      have hcell' := hc' k hlt
      have hlt' : (k : Int) < (n : Int) := by omega
      clear hc hc'
      go_wp2
      go_quiet (fail)
      go_wp2
      go_roundw
      case rel => exact ⟨k + 1, hlt, by go_num, _, rfl⟩
      case measure => simp [intOf]; omega
    · have hkn : k = n := by omega
      clear hc hc'
      go_wp2
      go_ret
      exact ⟨rfl, _, rfl⟩
/-- The maker's cell holds a slice that owns the bytes zs. -/
def MK (w : World) (C base : Nat) (v : Value) (zs : List Int) : Prop := w.cell? ⟨C, 0, none⟩ = some v ∧ w.frozen? ⟨C, 0, none⟩ = false ∧ w.ownsRow base 5 1 v zs.length (bl zs)
/-- What was there is as it was, but for the maker's cell and its row. -/
structure Upd (C : Nat) (v : Value) (w w' : World) : Prop where
  os : w'.os = w.os
  tape : w'.tape = w.tape
  output : w'.output = w.output
  size : w.heap.size ≤ w'.heap.size
  block : ∀ k, k < w.heap.size → k ≠ C → v.ownBlock ≠ some k → w'.heap[k]? = w.heap[k]?
def Lies (w : World) (v v' : Value) : Prop := v'.ownBlock = v.ownBlock ∨ ∃ g, w.heap.size ≤ g ∧ v'.ownBlock = some g
theorem Upd.refl (C : Nat) (v : Value) (w : World) : Upd C v w w := ⟨rfl, rfl, rfl, Nat.le_refl _, fun _ _ _ _ => rfl⟩
theorem Upd.trans {C : Nat} {v v1 : Value} {w w1 w2 : World} (h : Upd C v w w1) (l : Lies w v v1) (k : Upd C v1 w1 w2) : Upd C v w w2 := by
  refine ⟨k.os.trans h.os, k.tape.trans h.tape, k.output.trans h.output, Nat.le_trans h.size k.size, fun i hi hC hv => ?_⟩
  refine (k.block i (Nat.lt_of_lt_of_le hi h.size) hC ?_).trans (h.block i hi hC hv)
  rcases l with l | ⟨g, hg, l⟩
  · rw [l]; exact hv
  · rw [l]; intro e; simp at e; omega
theorem Lies.trans {w w1 : World} {v v1 v2 : Value} (h : Lies w v v1) (hs : w.heap.size ≤ w1.heap.size) (k : Lies w1 v1 v2) : Lies w v v2 := by
  rcases k with k | ⟨g, hg, k⟩
  · rcases h with h | ⟨g, hg, h⟩
    · exact .inl (k.trans h)
    · exact .inr ⟨g, hg, k.trans h⟩
  · exact .inr ⟨g, by omega, k⟩
theorem slice_of_own {w : World} {base n : Nat} {v : Value} {xs : List Value} (h : w.ownsRow base 5 1 v n xs) : ∃ a cap, v = .slice a n cap ∧ n ≤ cap + 0 := by
  rcases h.2 with ⟨rfl, h0⟩ | ⟨g, cap, cur, rfl, _, _, hnc, _⟩
  · exact ⟨none, 0, by rw [h0], by omega⟩
  · exact ⟨_, cap, rfl, by omega⟩
/-- One byte appended through the maker's cell. -/
theorem mk_step {wr w1 : World} {C base g cap2 : Nat} {v : Value} {Z : List Int} {z : Int} {c : Array Value} (hC : C < base) (hB : base ≤ wr.heap.size) (hm : MK wr C base v Z)
    (h1 : w1.ownsRow base 5 1 (.slice (some ⟨g, 0, none⟩) (Z.length + 1) cap2) (Z.length + 1) (bl Z ++ [.int .u8 z])) (hg : (wr.alloc (.cells c 5)).drew.grownBy w1 v.ownBlock) (hat : v.ownBlock = some g ∨ g = wr.heap.size + 1) :
    MK (w1.setCell ⟨C, 0, none⟩ (.slice (some ⟨g, 0, none⟩) (Z.length + 1) cap2)) C base (.slice (some ⟨g, 0, none⟩) (Z.length + 1) cap2) (Z ++ [z]) ∧ Upd C v wr (w1.setCell ⟨C, 0, none⟩ (.slice (some ⟨g, 0, none⟩) (Z.length + 1) cap2)) ∧ Lies wr v (.slice (some ⟨g, 0, none⟩) (Z.length + 1) cap2) := by
  obtain ⟨m1, m2, m3⟩ := hm
  have hlt : C < (wr.alloc (.cells c 5)).drew.heap.size := by show C < (wr.alloc (.cells c 5)).heap.size; rw [World.size_alloc]; omega
  have hne : some C ≠ v.ownBlock := fun e => by have := (m3.lt C e.symm).1; omega
  have hblk : ∀ k, k < wr.heap.size → v.ownBlock ≠ some k → w1.heap[k]? = wr.heap[k]? := fun k hk hv => by
    rw [hg.block k (by show k < (wr.alloc (.cells c 5)).heap.size; rw [World.size_alloc]; omega) (fun e => hv e.symm)]
    exact Below.heap_alloc _ _ _ hk
  have hcell : w1.cell? ⟨C, 0, none⟩ = some v := (World.cell?_of_block (w := wr) (a := ⟨C, 0, none⟩) (hblk C (by omega) (fun e => hne e.symm))).trans m1
  have hfz : w1.frozen? ⟨C, 0, none⟩ = false := (World.frozen?_of_block (w := wr) (a := ⟨C, 0, none⟩) (hblk C (by omega) (fun e => hne e.symm))).trans m2
  have hsz : wr.heap.size ≤ w1.heap.size := by have := hg.size; simp at this; omega
  refine ⟨⟨?_, ?_, ?_⟩, ⟨?_, ?_, ?_, ?_, ?_⟩, ?_⟩
  · exact World.cell?_setCell_same _ _ _ hcell
  · show (w1.setCell ⟨C, 0, none⟩ _).frozen? ⟨C, 0, none⟩ = false
    rw [World.frozen?_setCell]; exact hfz
  · rw [List.length_append, bl_app]
    exact ownsRow_setCell_below (a := ⟨C, 0, none⟩) h1 hC _
  · exact hg.os
  · exact hg.tape
  · exact hg.output
  · show wr.heap.size ≤ (w1.setCell ⟨C, 0, none⟩ _).heap.size
    simpa [World.setCell] using hsz
  · intro k hk hkC hv
    show (w1.setCell ⟨C, 0, none⟩ _).heap[k]? = _
    rw [Below.heap_setCell _ _ _ _ hkC]
    exact hblk k hk hv
  · rcases hat with h | h
    · exact .inl h.symm
    · exact .inr ⟨g, by omega, rfl⟩
theorem cell_C {wr w1 : World} {C base : Nat} {v : Value} {Z : List Int} {c : Array Value} (hC : C < base) (hB : base ≤ wr.heap.size) (hm : MK wr C base v Z) (hg : (wr.alloc (.cells c 5)).drew.grownBy w1 v.ownBlock) :
    w1.cell? ⟨C, 0, none⟩ = some v ∧ w1.frozen? ⟨C, 0, none⟩ = false := by
  obtain ⟨m1, m2, m3⟩ := hm
  have hne : some C ≠ v.ownBlock := fun e => by have := (m3.lt C e.symm).1; omega
  have hblk : w1.heap[C]? = wr.heap[C]? := by
    rw [hg.block C (by show C < (wr.alloc (.cells c 5)).heap.size; rw [World.size_alloc]; omega) hne]
    exact Below.heap_alloc _ _ _ (by omega)
  exact ⟨(World.cell?_of_block (w := wr) (a := ⟨C, 0, none⟩) hblk).trans m1, (World.frozen?_of_block (w := wr) (a := ⟨C, 0, none⟩) hblk).trans m2⟩

theorem one_u8 (z : Int) : ∀ u ∈ [Value.int .u8 z], u.oneCell' = true := by intro u hu; simp at hu; subst hu; rfl
theorem le_max {n : Nat} (h : n ≤ 1004) : n + 1 ≤ maxLen := by unfold maxLen; omega
theorem le_by {n : Nat} (h : n ≤ 1004) : (n + 1) * 1 ≤ 140737488355328 := by omega
theorem le_al {w : World} {o : Obj} {b : Nat} (h : b ≤ w.heap.size) : b ≤ (w.alloc o).drew.heap.size := by show b ≤ (w.alloc o).heap.size; rw [World.size_alloc]; omega
set_option maxHeartbeats 2000000 in
theorem putNumber_any (C base : Nat) (x : Int) (width : Nat) (v : Value) (zs : List Int) (w : World) (hs : width ≤ 4) (hx : 0 ≤ x) (hx2 : x ≤ 1000000) (hz : zs.length ≤ 1000) (hC : C < base) (hB : base ≤ w.heap.size) (hm : MK w C base v zs) :
    Calls Tryz.prog 214 #[.pointer (some ⟨C, 0, none⟩), .int .i64 x, .int .i64 width] w fun e w' => e = .returned (.tuple #[]) ∧ ∃ v', MK w' C base v' (zs ++ nb x width) ∧ Upd C v w w' ∧ Lies w v v' := by
  obtain ⟨i0, hi, hz0, hz1, hz2⟩ := info_parts info5
  have HI : Hid (Tryz.prog.info? 5 = some i0 ∧ i0.zero = some (.int .u8 0) ∧ i0.size = 1 ∧ i0.bytes = 1) := ⟨hi, hz0, hz1, hz2⟩
  have HM0 : Hid (MK w C base v zs) := hm
  have HCB : Hid (C < base ∧ base ≤ w.heap.size) := ⟨hC, hB⟩
  have hwx : IntKind.u64.wrap x = x := by rw [IntKind.wrap_u64]; omega
  clear hi hz0 hz1 hz2 hm hC hB
  go_enter Tryz.func214, Tryz.ntmps214
  go_wp2
  go_loopw [7] (fun i wr => ∃ j : Nat, j ≤ width ∧ i = .int .i64 (8 * ((j : Int) - 1)) ∧ ∃ T v', Hid (T ++ nb x j = nb x width) ∧ Hid (MK wr C base v' (zs ++ T)) ∧ Hid (Upd C v w wr) ∧ Hid (Lies w v v')) (fun i _ => (intOf i + 8).toNat)
  case atStart => exact ⟨width, Nat.le_refl _, by go_num, [], v, rfl, by rw [List.append_nil]; exact HM0, Upd.refl _ _ _, .inl rfl⟩
  case round =>
    obtain ⟨j, hj, rfl, T, v', HT, HM, HU, HL⟩ := hrel
    rcases Nat.eq_zero_or_pos j with rfl | hp
    · go_wp2
      go_end0
      refine ⟨rfl, v', ?_, HU.out, HL.out⟩
      have h := HT.out
      rw [nb, List.append_nil] at h
      rw [← h]
      exact HM.out
    · obtain ⟨k, rfl⟩ : ∃ k, j = k + 1 := ⟨j - 1, by omega⟩
      have hk : (k : Int) ≤ 3 := by omega
      obtain ⟨a, cap, rfl, -⟩ := slice_of_own HM.out.2.2
      have hc0 := HM.out.1
      have hc1 : ∀ o : Obj, (wr.alloc o).cell? ⟨C, 0, none⟩ = some (.slice a (zs ++ T).length cap) := fun o => cell_alloc hc0 o
      have HTL : Hid (T.length + (k + 1) = width) := by have := congrArg List.length HT.out; rw [List.length_append, nb_len, nb_len] at this; exact this
      have HZL : Hid ((zs ++ T).length ≤ 1004) := by have := HTL.out; show (zs ++ T).length ≤ 1004; rw [List.length_append]; omega
      generalize hZ : zs ++ T = Z at *
      have HZ : Hid (zs ++ T = Z) := hZ
      clear hZ
      have HBW : Hid (base ≤ wr.heap.size) := Nat.le_trans HCB.out.2 HU.out.size
      go_wp2
      go_region_law ((refine step_append_lies (P := Tryz.prog) (wr.alloc (.cells #[.int .u8 (x / 2 ^ (8 * k) % 256)] 5)).drew rfl (.tmp 20) (.tmp 25) 232 rfl base 5 i0 (.int .u8 0) 1 1 Tryz.underlying232 HI.out.1 HI.out.2.1 HI.out.2.2.1 HI.out.2.2.2 rfl (by decide) (.slice a Z.length cap) Z.length (bl Z) rfl (HM.out.2.2.alloc _) ⟨wr.heap.size, 0, none⟩ 1 1 [.int .u8 (x / 2 ^ (8 * k) % 256)] rfl rfl (cell_one_new _ _ _) (one_u8 _) (by decide) (le_max HZL.out) (le_by HZL.out) (le_al HBW.out) (wr.heap.size + 1) (World.size_alloc _ _) ?_; intro g cap2 w1 hown1 hgrow hat hlt; obtain ⟨kc, kf⟩ := cell_C HCB.out.1 HBW.out HM.out hgrow))
      all_goals
        have HR : Hid _ := mk_step HCB.out.1 HBW.out HM.out hown1 hgrow hat
        go_wp2
        go_roundw
        case rel => exact ⟨k, by omega, by go_num, T ++ [byt x k], _, by show T ++ [byt x k] ++ nb x k = nb x width; rw [← HT.out]; simp [nb], by show MK _ C base _ (zs ++ (T ++ [byt x k])); rw [← List.append_assoc, HZ.out]; exact HR.out.1, HU.out.trans HL.out HR.out.2.1, HL.out.trans HU.out.size HR.out.2.2⟩
        case measure => simp [intOf]; omega
/-- One byte appended through the maker's cell, in a plain region. -/
theorem mk_step' {wr w1 : World} {C base g cap2 : Nat} {v : Value} {Z : List Int} {z : Int} {c : Array Value} (hC : C < base) (hB : base ≤ wr.heap.size) (hm : MK wr C base v Z)
    (h1 : w1.ownsRow base 5 1 (.slice (some ⟨g, 0, none⟩) (Z.length + 1) cap2) (Z.length + 1) (bl Z ++ [.int .u8 z])) (hg : (wr.alloc (.cells c 5)).grownBy w1 v.ownBlock) (hat : v.ownBlock = some g ∨ g = wr.heap.size + 1) :
    MK (w1.setCell ⟨C, 0, none⟩ (.slice (some ⟨g, 0, none⟩) (Z.length + 1) cap2)) C base (.slice (some ⟨g, 0, none⟩) (Z.length + 1) cap2) (Z ++ [z]) ∧ Upd C v wr (w1.setCell ⟨C, 0, none⟩ (.slice (some ⟨g, 0, none⟩) (Z.length + 1) cap2)) ∧ Lies wr v (.slice (some ⟨g, 0, none⟩) (Z.length + 1) cap2) :=
  mk_step (c := c) hC hB hm h1 ⟨hg.os, hg.tape, hg.output, hg.size, hg.block⟩ hat
theorem cell_C' {wr w1 : World} {C base : Nat} {v : Value} {Z : List Int} {c : Array Value} (hC : C < base) (hB : base ≤ wr.heap.size) (hm : MK wr C base v Z) (hg : (wr.alloc (.cells c 5)).grownBy w1 v.ownBlock) :
    w1.cell? ⟨C, 0, none⟩ = some v ∧ w1.frozen? ⟨C, 0, none⟩ = false :=
  cell_C (c := c) hC hB hm ⟨hg.os, hg.tape, hg.output, hg.size, hg.block⟩

set_option maxHeartbeats 2000000 in
theorem fillTo_any (C base : Nat) (v : Value) (zs : List Int) (w : World) (hz : zs.length ≤ 46) (hC : C < base) (hB : base ≤ w.heap.size) (hm : MK w C base v zs) :
    Calls Tryz.prog 215 #[.pointer (some ⟨C, 0, none⟩), .int .i64 46] w fun e w' => e = .returned (.tuple #[]) ∧ ∃ v', MK w' C base v' (zs ++ List.replicate (46 - zs.length) 0) ∧ Upd C v w w' ∧ Lies w v v' := by
  obtain ⟨i0, hi, hz0, hz1, hz2⟩ := info_parts info5
  have HI : Hid (Tryz.prog.info? 5 = some i0 ∧ i0.zero = some (.int .u8 0) ∧ i0.size = 1 ∧ i0.bytes = 1) := ⟨hi, hz0, hz1, hz2⟩
  have HM0 : Hid (MK w C base v zs) := hm
  have HCB : Hid (C < base ∧ base ≤ w.heap.size) := ⟨hC, hB⟩
  clear hi hz0 hz1 hz2 hm hC hB
  go_enter Tryz.func215, Tryz.ntmps215
  go_wp2
  go_loopg [4] (46 - zs.length) (fun gk _ wr => ∃ m v', gk + m = 46 - zs.length ∧ Hid (MK wr C base v' (zs ++ List.replicate m 0)) ∧ Hid (Upd C v w wr) ∧ Hid (Lies w v v'))
  case atStart => exact ⟨0, v, by omega, by rw [List.replicate_zero, List.append_nil]; exact HM0, Upd.refl _ _ _, .inl rfl⟩
  case round =>
    obtain ⟨m, v', hgk, HM, HU, HL⟩ := hrel
    obtain ⟨a, cap, rfl, -⟩ := slice_of_own HM.out.2.2
    have hc0 := HM.out.1
    have hc1 : ∀ o : Obj, (wr.alloc o).cell? ⟨C, 0, none⟩ = some (.slice a (zs ++ List.replicate m 0).length cap) := fun o => cell_alloc hc0 o
    have hZl : (zs ++ List.replicate m 0).length = zs.length + m := by simp
    have HZL : Hid ((zs ++ List.replicate m 0).length = zs.length + m) := hZl
    generalize hZ : zs ++ List.replicate m 0 = Z at *
    have HZ : Hid (zs ++ List.replicate m 0 = Z) := hZ
    clear hZ hZl
    have HBW : Hid (base ≤ wr.heap.size) := Nat.le_trans HCB.out.2 HU.out.size
    have HZ4 : Hid (Z.length ≤ 1004) := by have := HZL.out; show Z.length ≤ 1004; omega
    by_cases hlt : Z.length < 46
    · have hlt' : (Z.length : Int) < 46 := by omega
      go_wp2_with (at_builtin; refine wpList_append_lies _ rfl (.tmp 13) (.tmp 14) 232 rfl base 5 i0 (.int .u8 0) 1 1 Tryz.underlying232 HI.out.1 HI.out.2.1 HI.out.2.2.1 HI.out.2.2.2 rfl (by decide) (.slice a Z.length cap) Z.length (bl Z) rfl (HM.out.2.2.alloc _) ⟨wr.heap.size, 0, none⟩ 1 1 [.int .u8 0] rfl rfl (cell_one_new _ _ _) (one_u8 _) (by decide) (le_max HZ4.out) (le_by HZ4.out) (le_al HBW.out) (wr.heap.size + 1) (World.size_alloc _ _) ?_)
      intro g cap2 w1 hown1 hgrow hat hlt1
      obtain ⟨kc, kf⟩ := cell_C' HCB.out.1 HBW.out HM.out hgrow
      have HR : Hid _ := mk_step' HCB.out.1 HBW.out HM.out hown1 hgrow hat
      have HGK : Hid (m + 1 + (gk - 1) = 46 - zs.length ∧ 0 < gk) := by have := HZL.out; exact ⟨by omega, by omega⟩
      clear hown1 hgrow hat hlt1 hc0 hc1
      go_wp2
      go_roundg (gk - 1)
      case measure => have := HGK.out.2; omega
      case rel => exact ⟨m + 1, _, by have := HGK.out.1; omega, by show MK _ C base _ (zs ++ List.replicate (m + 1) 0); rw [List.replicate_succ', ← List.append_assoc, HZ.out]; exact HR.out.1, HU.out.trans HL.out HR.out.2.1, HL.out.trans HU.out.size HR.out.2.2⟩
    · have hge : ¬ ((Z.length : Int) < 46) := by omega
      have HM46 : Hid (m = 46 - zs.length) := by have := HZL.out; show m = 46 - zs.length; omega
      go_wp2
      go_end0
      refine ⟨rfl, _, ?_, HU.out, HL.out⟩
      rw [← HM46.out, HZ.out]
      exact HM.out
theorem bytes_of_own {w : World} {base : Nat} {a : Option Addr} {cap : Nat} {zs : List Int} (h : w.ownsRow base 5 1 (.slice a zs.length cap) zs.length (bl zs)) : BytesAt w a zs.length (fun i => zs.getD i 0) := by
  rcases h.2 with ⟨_, h0⟩ | ⟨g, cap2, cur, e, hbg, hg, hnc, hcm, hcs, htake⟩
  · exact .inl h0
  · simp only [Value.slice.injEq] at e
    obtain ⟨rfl, -, rfl⟩ := e
    refine .inr ⟨g, 0, rfl, ?_, fun i hi => ?_⟩
    · obtain ⟨hlt, _⟩ := Array.getElem?_eq_some_iff.1 hg
      exact hlt
    · have := h.cellAt i (by omega)
      rw [Nat.zero_add, this]
      simp [bl, hi]
def sm (zs : List Int) : Int := sumB (fun i => zs.getD i 0) zs.length
def BytL (zs : List Int) : Prop := ∀ z ∈ zs, 0 ≤ z ∧ z ≤ 255
theorem byt_of {zs : List Int} (h : BytL zs) : Byt zs.length (fun i => zs.getD i 0) := fun i hi => by
  have : zs.getD i 0 = zs[i] := by simp [hi]
  show 0 ≤ zs.getD i 0 ∧ zs.getD i 0 ≤ 255
  rw [this]; exact h _ (List.getElem_mem hi)
set_option maxHeartbeats 2000000 in
theorem putSum_any (C base : Nat) (v : Value) (zs : List Int) (w : World) (hz : zs.length ≤ 1000) (hby : BytL zs) (hC : C < base) (hB : base ≤ w.heap.size) (hm : MK w C base v zs) :
    Calls Tryz.prog 216 #[.pointer (some ⟨C, 0, none⟩)] w fun e w' => e = .returned (.tuple #[]) ∧ ∃ v', MK w' C base v' (zs ++ nb (sm zs) 2) ∧ Upd C v w w' ∧ Lies w v v' := by
  obtain ⟨a, cap, rfl, -⟩ := slice_of_own hm.2.2
  have hc0 := hm.1
  have hsb := sumB_bd (fun i => zs.getD i 0) zs.length
  have HM : Hid (MK w C base (.slice a zs.length cap) zs) := hm
  have HS : Hid (0 ≤ sm zs ∧ sm zs ≤ 65520) := hsb
  clear hm hsb
  go_enter Tryz.func216, Tryz.ntmps216
  go_wp2_with fail
  refine (implSum_any zs.length (fun i => zs.getD i 0) a cap w (by omega) (byt_of hby) (bytes_of_own HM.out.2.2)).mono ?_
  rintro e w1 ⟨rfl, rfl⟩
  go_wp2_with fail
  refine (putNumber_any C base (sm zs) 2 _ zs _ (by omega) HS.out.1 (by have := HS.out.2; omega) hz hC hB HM.out).mono ?_
  rintro e w2 ⟨rfl, v', hm', hu', hl'⟩
  go_wp2_with fail
  go_end0
  exact ⟨rfl, v', hm', hu', hl'⟩
end Go.Proofs.YtaokclhcmgbgnaaGreat
