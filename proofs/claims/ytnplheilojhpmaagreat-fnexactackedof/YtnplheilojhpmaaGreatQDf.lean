/- The fault of a disk: impl.DiskFault and spec.DiskFault. -/
import Derived.Test.YtnplheilojhpmaaGreatQDe
import Derived.Test.YtnplheilojhpmaaGreatQFault
namespace Go.Proofs.YtnplheilojhpmaaGreat
open Go.RowKit Go.Deep
set_option linter.unusedVariables false
set_option maxRecDepth 20000

/-- Pages from the k-th on: whether one has not 48 bytes. -/
def pgf (L : Nat → Nat) : Nat → Nat → Int
  | 0, _ => 0
  | f + 1, k => if L k = 48 then pgf L f (k + 1) else 1
/-- The fault of the loose writes from the k-th on. -/
def lsf (n : Nat) (P T : Nat → Int) (M : Nat → Nat) : Nat → Nat → Int
  | 0, _ => 0
  | f + 1, k => if inB (P k) 0 ((n : Int) - 1) = false ∨ inB (T k) 0 2 = false then 3 else if M k = 16 then lsf n P T M f (k + 1) else 1
theorem pgf_at {L : Nat → Nat} {n k : Nat} (h : k < n) : pgf L (n - k) k = if L k = 48 then pgf L (n - (k + 1)) (k + 1) else 1 := by
  obtain ⟨f, hf⟩ : ∃ f, n - k = f + 1 := ⟨n - k - 1, by omega⟩
  rw [hf, pgf, show n - (k + 1) = f by omega]
theorem lsf_at {n : Nat} {P T : Nat → Int} {M : Nat → Nat} {m k : Nat} (h : k < m) : lsf n P T M (m - k) k = if inB (P k) 0 ((n : Int) - 1) = false ∨ inB (T k) 0 2 = false then 3 else if M k = 16 then lsf n P T M (m - (k + 1)) (k + 1) else 1 := by
  obtain ⟨f, hf⟩ : ∃ f, m - k = f + 1 := ⟨m - k - 1, by omega⟩
  rw [hf, lsf, show m - (k + 1) = f by omega]
/-- The fault of a disk. -/
def df (D : Dk) : Int :=
  if inB D.n 1 8 = false then 1 else if pgf D.L D.n 0 = 1 then 1 else if 60 < D.m then 2 else lsf D.n D.P D.T D.M D.m 0
theorem isPlace_any (v : Int) (c : Nat) (w : World) (hc : c ≤ 1048576) : Calls Tryz.prog 116 #[.int .i64 v, .int .i64 c] w fun e w' => e = .returned (.bool (inB v 0 ((c : Int) - 1))) ∧ w' = w := by
  by_cases h : 0 ≤ v
  · by_cases h2 : v < c
    · go_enter Tryz.func116, Tryz.ntmps116
      go_wp2
      go_ret
      exact ⟨ret_bool (by simp [inB]; omega), rfl⟩
    · have h3 : decide (v < (c : Int)) = false := by simp; omega
      clear h2
      go_enter Tryz.func116, Tryz.ntmps116
      go_wp2
      go_ret
      exact ⟨ret_bool (by simp [inB] at *; omega), rfl⟩
  · have h3 : decide (0 ≤ v) = false := by simp; omega
    clear h
    go_enter Tryz.func116, Tryz.ntmps116
    go_wp2
    go_ret
    exact ⟨ret_bool (by simp [inB] at *; omega), rfl⟩
theorem isPlace3 (v : Int) (w : World) : Calls Tryz.prog 116 #[.int .i64 v, .int .i64 3] w fun e w' => e = .returned (.bool (inB v 0 2)) ∧ w' = w := by
  refine (isPlace_any v 3 w (by omega)).mono ?_
  rintro e w' ⟨rfl, rfl⟩
  exact ⟨rfl, rfl⟩
set_option maxHeartbeats 1000000 in
theorem looseFault_any (n m : Nat) (P T : Nat → Int) (M : Nat → Nat) (Y : Nat → Nat → Int) (a a' : Option Addr) (cap cap' : Nat) (w : World) (hn : n ≤ 1048576) (hm : m ≤ 1048576) (h : LoosesAt w a' m P T M Y) :
    Calls Tryz.prog 92 #[.agg #[.slice a n cap, .slice a' m cap']] w fun e w' => e = .returned (.int .i64 (lsf n P T M m 0)) ∧ Below w.heap.size w w' := by
  have HA0 : Hid (LoosesAt w a' m P T M Y) := h
  clear h
  go_enter Tryz.func92, Tryz.ntmps92
  go_wp2
  go_loopw [4, 8] (fun _ i wr => ∃ k : Nat, k ≤ m ∧ i = .int .i64 k ∧ Hid (lsf n P T M m 0 = lsf n P T M (m - k) k) ∧ Below w.heap.size w wr ∧ Box2 wr w.heap.size (.slice a n cap) (.slice a' m cap')) (fun _ i _ => m - (intOf i).toNat)
  case atStart => exact ⟨0, Nat.zero_le _, rfl, rfl, below_new _ _, Box2.new _ _ _ _⟩
  case round =>
    obtain ⟨k, hk0, rfl, HC, hb, hbx⟩ := hrel
    by_cases hlt : k < m
    · rcases HA0.out.below hb with h | ⟨b, off, rfl, hl, hc⟩
      · omega
      obtain ⟨h0, h1, ai, ci, h2, -⟩ := hc k hlt
      have HBX : Hid (Box2 wr w.heap.size (.slice a n cap) (.slice (some ⟨b, off, none⟩) m cap')) := hbx
      have q0 := fun o : Obj => cell_alloc hbx.1 o
      have hlt' : (k : Int) < (m : Int) := by omega
      have HB : Hid (Below w.heap.size w wr) := hb
      have HA : Hid (lsf n P T M m 0 = _) := HC.out.trans (lsf_at hlt)
      clear HC hc hbx hb
      by_cases hc1 : inB (P k) 0 ((n : Int) - 1) = true
      · by_cases hc2 : inB (T k) 0 2 = true
        · by_cases hc3 : M k = 16
          · have HC : Hid (lsf n P T M m 0 = lsf n P T M (m - (k + 1)) (k + 1)) := by
              refine HA.out.trans ?_
              rw [if_neg (by simp [hc1, hc2]), if_pos hc3]
            clear HA
            go_wp2_with fail
            refine (isPlace_any (P k) n _ hn).mono ?_
            rintro e w' ⟨rfl, rfl⟩
            go_wp2_with fail
            refine (isPlace3 (T k) _).mono ?_
            rintro e w' ⟨rfl, rfl⟩
            go_wp2_with fail
            go_roundw
            case rel => exact ⟨k + 1, hlt, by go_num, HC, by have hs := HB.out.size; repeat (first | exact HB.out | apply Below.drew | refine below_drewN ?_ _ | refine Below.alloc ?_ (by first | omega | (simp; omega)) _), HBX.out.alloc _⟩
            case measure => simp [intOf]; omega
          · have HC : Hid (lsf n P T M m 0 = 1) := by
              refine HA.out.trans ?_
              rw [if_neg (by simp [hc1, hc2]), if_neg hc3]
            clear HA
            go_wp2_with fail
            refine (isPlace_any (P k) n _ hn).mono ?_
            rintro e w' ⟨rfl, rfl⟩
            go_wp2_with fail
            refine (isPlace3 (T k) _).mono ?_
            rintro e w' ⟨rfl, rfl⟩
            go_wp2_with fail
            go_ret
            exact ⟨ret_int HC.out.symm, by have hs := HB.out.size; repeat (first | exact HB.out | apply Below.drew | refine below_drewN ?_ _ | refine Below.alloc ?_ (by first | omega | (simp; omega)) _)⟩
        · have hc4 : inB (T k) 0 2 = false := by simpa using hc2
          have HC : Hid (lsf n P T M m 0 = 3) := by
            refine HA.out.trans ?_
            rw [if_pos (.inr hc4)]
          clear HA hc2
          go_wp2_with fail
          refine (isPlace_any (P k) n _ hn).mono ?_
          rintro e w' ⟨rfl, rfl⟩
          go_wp2_with fail
          refine (isPlace3 (T k) _).mono ?_
          rintro e w' ⟨rfl, rfl⟩
          go_wp2_with fail
          go_ret
          exact ⟨ret_int HC.out.symm, by have hs := HB.out.size; repeat (first | exact HB.out | apply Below.drew | refine below_drewN ?_ _ | refine Below.alloc ?_ (by first | omega | (simp; omega)) _)⟩
      · have hc4 : inB (P k) 0 ((n : Int) - 1) = false := by simpa using hc1
        have HC : Hid (lsf n P T M m 0 = 3) := by
          refine HA.out.trans ?_
          rw [if_pos (.inl hc4)]
        clear HA hc1
        go_wp2_with fail
        refine (isPlace_any (P k) n _ hn).mono ?_
        rintro e w' ⟨rfl, rfl⟩
        go_wp2_with fail
        go_ret
        exact ⟨ret_int HC.out.symm, by have hs := HB.out.size; repeat (first | exact HB.out | apply Below.drew | refine below_drewN ?_ _ | refine Below.alloc ?_ (by first | omega | (simp; omega)) _)⟩
    · have HC2 : Hid (lsf n P T M m 0 = 0) := by
        refine HC.out.trans ?_
        rw [show m - k = 0 by omega, lsf]
      clear HC hbx
      go_wp2
      go_ret
      exact ⟨ret_int HC2.out.symm, hb⟩
set_option maxHeartbeats 1000000 in
theorem implDf_any (D : Dk) (a a' : Option Addr) (cap cap' : Nat) (w : World) (hs : Small D) (h : DiskAt w a a' D) :
    Calls Tryz.prog 61 #[.agg #[.slice a D.n cap, .slice a' D.m cap']] w fun e w' => e = .returned (.int .i64 (df D)) ∧ Below w.heap.size w w' := by
  have hn := hs.n
  have hm := hs.m
  generalize hdf : df D = c
  unfold df at hdf
  obtain ⟨n, L, Z, m, P, T, M, Y⟩ := D
  obtain ⟨h1, h2⟩ := h
  dsimp only at *
  have HA : Hid (PagesAt w a n L Z) := h1
  have HA' : Hid (LoosesAt w a' m P T M Y) := h2
  have HDF : Hid ((if inB n 1 8 = false then 1 else if pgf L n 0 = 1 then 1 else if 60 < m then 2 else lsf n P T M m 0) = c) := hdf
  clear h1 h2 hs hdf
  by_cases hr : inB (n : Int) 1 8 = true
  · have HD1 : Hid ((if pgf L n 0 = 1 then 1 else if 60 < m then 2 else lsf n P T M m 0) = c) := by have h := HDF.out; rw [if_neg (by simp [hr])] at h; exact h
    clear HDF
    go_enter Tryz.func61, Tryz.ntmps61
    go_wp2_with fail
    refine (within_any (n : Int) 1 8 _).mono ?_
    rintro e w' ⟨rfl, rfl⟩
    go_wp2_with fail
    go_loop [4, 13] (fun _ i => ∃ k : Nat, k ≤ n ∧ i = .int .i64 k ∧ Hid (pgf L n 0 = pgf L (n - k) k)) (fun _ i => n - (intOf i).toNat)
    case atStart => exact ⟨0, Nat.zero_le _, rfl, rfl⟩
    case round =>
      obtain ⟨k, hk, rfl, HC⟩ := hrel
      by_cases hlt : k < n
      · rcases HA.out.below (below_new w (.cells #[.slice a n cap, .slice a' m cap'] 41)) with h | ⟨b, off, rfl, hl, hc⟩
        · omega
        obtain ⟨ai, ci, h1, -⟩ := hc k hlt
        have HD : Hid (pgf L n 0 = _) := HC.out.trans (pgf_at hlt)
        clear HC hc
        by_cases hc1 : L k = 48
        · have HC : Hid (pgf L n 0 = pgf L (n - (k + 1)) (k + 1)) := HD.out.trans (if_pos hc1)
          clear HD
          go_wp2
          go_round
          case rel => exact ⟨k + 1, hlt, by go_num, HC⟩
          case measure => simp [intOf]; omega
        · have HC : Hid (pgf L n 0 = 1) := HD.out.trans (if_neg hc1)
          clear HD
          go_wp2
          go_ret
          exact ⟨ret_int (by rw [← HD1.out, if_pos HC.out]), below_new _ _⟩
      · have HC0 : Hid (pgf L n 0 = 0) := by
          refine HC.out.trans ?_
          rw [show n - k = 0 by omega, pgf]
        clear HC
        by_cases hc2 : 60 < m
        · go_wp2
          go_ret
          exact ⟨ret_int (by rw [← HD1.out, if_neg (by rw [HC0.out]; omega), if_pos hc2]), below_new _ _⟩
        · go_wp2_with fail
          refine (looseFault_any n m P T M Y a a' cap cap' _ hn hm (HA'.out.below (below_new _ _))).mono ?_
          rintro e w1 ⟨rfl, hb1⟩
          go_wp2_with fail
          go_ret
          exact ⟨ret_int (by rw [← HD1.out, if_neg (by rw [HC0.out]; omega), if_neg (by omega)]), below_then (below_new _ _) hb1⟩
  · have hr' : inB (n : Int) 1 8 = false := by simpa using hr
    have HD1 : Hid (1 = c) := by have h := HDF.out; rw [if_pos hr'] at h; exact h
    clear HDF
    clear hr
    go_enter Tryz.func61, Tryz.ntmps61
    go_wp2_with fail
    refine (within_any (n : Int) 1 8 _).mono ?_
    rintro e w' ⟨rfl, rfl⟩
    go_wp2_with fail
    go_ret
    exact ⟨ret_int HD1.out, below_new _ _⟩
end Go.Proofs.YtnplheilojhpmaaGreat
