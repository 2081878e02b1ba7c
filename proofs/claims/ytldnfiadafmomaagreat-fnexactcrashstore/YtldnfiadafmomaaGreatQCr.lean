/- impl.rises, impl.CrashDisk. -/
import Derived.Test.YtldnfiadafmomaaGreatQBase
import Derived.Test.YtldnfiadafmomaaGreatQSy
namespace Go.Proofs.YtldnfiadafmomaaGreat
open Go.RowKit Go.Deep
set_option linter.unusedVariables false
set_option maxRecDepth 20000

/-- From k on, f numbers: each is above the one before. -/
def rsf (F : Nat → Int) : Nat → Nat → Bool
  | 0, _ => true
  | f + 1, k => if 0 < k ∧ F k ≤ F (k - 1) then false else rsf F f (k + 1)
theorem rsf_at {F : Nat → Int} {n k : Nat} (h : k < n) : rsf F (n - k) k = if 0 < k ∧ F k ≤ F (k - 1) then false else rsf F (n - (k + 1)) (k + 1) := by
  have : n - k = (n - (k + 1)) + 1 := by omega
  rw [this, rsf]
/-- From k on, f numbers: each is a place among m. -/
def inf (F : Nat → Int) (m : Nat) : Nat → Nat → Bool
  | 0, _ => true
  | f + 1, k => if inB (F k) 0 ((m : Int) - 1) = true then inf F m f (k + 1) else false
theorem inf_at {F : Nat → Int} {m n k : Nat} (h : k < n) : inf F m (n - k) k = if inB (F k) 0 ((m : Int) - 1) = true then inf F m (n - (k + 1)) (k + 1) else false := by
  have : n - k = (n - (k + 1)) + 1 := by omega
  rw [this, inf]
theorem inf_all {F : Nat → Int} {m : Nat} : ∀ f k, inf F m f k = true → ∀ i, k ≤ i → i < k + f → 0 ≤ F i ∧ F i < m
  | 0, k, _, i, h1, h2 => by omega
  | f + 1, k, h, i, h1, h2 => by
    rw [inf] at h
    by_cases e : inB (F k) 0 ((m : Int) - 1) = true
    · rw [if_pos e] at h
      by_cases d : i = k
      · subst d
        simp [inB] at e
        omega
      · exact inf_all f (k + 1) h i (by omega) (by omega)
    · rw [if_neg e] at h; simp at h
set_option maxHeartbeats 1000000 in
theorem rises_any (n : Nat) (F : Nat → Int) (a : Option Addr) (cap : Nat) (w : World) (hn : n ≤ 1048576) (h : IntsAt w a n F) :
    Calls Tryz.prog 71 #[.slice a n cap] w fun e w' => e = .returned (.bool (rsf F n 0)) ∧ w' = w := by
  have H : Hid (IntsAt w a n F) := h
  clear h
  go_enter Tryz.func71, Tryz.ntmps71
  go_wp2_with fail
  go_loop [7] (fun i => ∃ k : Nat, k ≤ n ∧ i = .int .i64 k ∧ Hid (rsf F n 0 = rsf F (n - k) k)) (fun i => n - (intOf i).toNat)
  case atStart => exact ⟨0, Nat.zero_le _, rfl, rfl⟩
  case round =>
    obtain ⟨k, hk, rfl, HC⟩ := hrel
    by_cases hlt : k < n
    · rcases H.out with h | ⟨b, off, rfl, hl, hc⟩
      · omega
      have h0 := hc k hlt
      have hlt' : (k : Int) < (n : Int) := by omega
      have HD : Hid (rsf F n 0 = _) := HC.out.trans (rsf_at hlt)
      clear HC
      by_cases hk0 : k = 0
      · subst hk0
        have HC : Hid (rsf F n 0 = rsf F (n - (0 + 1)) (0 + 1)) := HD.out.trans (if_neg (by omega))
        clear HD hc
        rw [Nat.add_zero] at h0
        go_wp2_with fail
        go_round
        case rel => exact ⟨0 + 1, hlt, by go_num, HC⟩
        case measure => simp [intOf]; omega
      · have h1 := hc (k - 1) (by omega)
        have hp : (k : Int) > 0 := by omega
        have hp2 : (0 : Int) < (k : Int) := by omega
        have hw : IntKind.i64.wrap ((k : Int) - 1) = (k : Int) - 1 := by rw [IntKind.wrap_i64]; omega
        have hw3 : ((k : Int) - 1).toNat = k - 1 := by omega
        have i1 : (k : Int) - 1 < (n : Int) := by omega
        have i2 : 0 ≤ (k : Int) - 1 := by omega
        clear hc
        by_cases hle : F k ≤ F (k - 1)
        · have HC : Hid (rsf F n 0 = false) := HD.out.trans (if_pos ⟨by omega, hle⟩)
          clear HD
          go_wp2_with fail
          go_ret
          exact ⟨ret_bool HC.out.symm, rfl⟩
        · have HC : Hid (rsf F n 0 = rsf F (n - (k + 1)) (k + 1)) := HD.out.trans (if_neg (by omega))
          have hle' : decide (F k ≤ F (k - 1)) = false := by simp; omega
          clear HD
          go_wp2_with fail
          go_round
          case rel => exact ⟨k + 1, hlt, by go_num, HC⟩
          case measure => simp [intOf]; omega
    · have HC0 : Hid (rsf F n 0 = true) := by
        refine HC.out.trans ?_
        rw [show n - k = 0 by omega, rsf]
      clear HC
      go_wp2_with fail
      go_ret
      exact ⟨ret_bool HC0.out.symm, rfl⟩
/-- CrashDisk's code. -/
def crC (D : Dk) (k : Nat) (F : Nat → Int) : Int := if df D = 0 then (if inf F D.m k 0 = true then (if rsf F k 0 = true then 0 else 1) else 3) else df D
set_option maxHeartbeats 1600000 in
theorem implCrash_any (D : Dk) (k3 : Nat) (F : Nat → Int) (a a' a3 : Option Addr) (cap cap' cap3 : Nat) (w : World) (hs : Small D) (hk : k3 ≤ 1048576) (h : DiskAt w a a' D) (h3 : IntsAt w a3 k3 F) :
    Calls Tryz.prog 30 #[.agg #[.slice a D.n cap, .slice a' D.m cap'], .slice a3 k3 cap3] w (DRes (crC D k3 F) (syD D F k3) w) := by
  have hb0 : ∀ o1 o2, Below w.heap.size w ((w.alloc o1).alloc o2) := fun o1 o2 => ((Below.refl _ _).alloc (Nat.le_refl _) _).alloc (by simp) _
  have HS : Hid (Small D) := hs
  have HA : Hid (DiskAt w a a' D) := h
  have H3 : Hid (IntsAt w a3 k3 F) := h3
  have hm := hs.m
  clear hs h h3
  by_cases hf : df D = 0
  · have HG : Hid (GoodD D) := goodD_of hf
    have hpl : crC D k3 F = (if inf F D.m k3 0 = true then (if rsf F k3 0 = true then 0 else 1) else 3) := by unfold crC; rw [if_pos hf]
    generalize hc : crC D k3 F = c at *
    have HC : Hid (c = (if inf F D.m k3 0 = true then (if rsf F k3 0 = true then 0 else 1) else 3)) := hpl
    clear hpl hc
    go_enter Tryz.func30, Tryz.ntmps30
    go_wp2_with fail
    refine (implDf_any D a a' cap cap' _ HS.out (HA.out.below (hb0 _ _))).mono ?_
    rintro e w1 ⟨rfl, hb1⟩
    rw [hf]
    obtain ⟨hcc, hff⟩ := bcell hb1
    have hz : w.heap.size + 1 < w1.heap.size := by have := hb1.size; simp at this; omega
    have q0 : w1.cell? ⟨w.heap.size, 0, none⟩ = some (.slice a D.n cap) := by rw [hcc _ _ (by simp <;> omega)]; simp [go_sem]
    have q1 : w1.cell? ⟨w.heap.size, 1, none⟩ = some (.slice a' D.m cap') := by rw [hcc _ _ (by simp <;> omega)]; simp [go_sem]
    have r0 : w1.cell? ⟨w.heap.size + 1, 0, none⟩ = some (.int .i64 0) := by rw [hcc _ _ (by simp <;> omega)]; simp [go_sem]
    have r1 : w1.cell? ⟨w.heap.size + 1, 1, none⟩ = some (.slice none 0 0) := by rw [hcc _ _ (by simp <;> omega)]; simp [go_sem]
    have r2 : w1.cell? ⟨w.heap.size + 1, 2, none⟩ = some (.slice none 0 0) := by rw [hcc _ _ (by simp <;> omega)]; simp [go_sem]
    have fz : ∀ i, w1.frozen? ⟨w.heap.size + 1, i, none⟩ = false := fun i => by rw [hff _ _ (by simp <;> omega)]; simp [go_sem]
    have HB1 : Hid (Below w.heap.size w w1) := below_then (hb0 _ _) hb1
    clear hcc hff hb1 hb0
    go_wp2_with fail
    go_loop [16] (fun i => ∃ k : Nat, k ≤ k3 ∧ i = .int .i64 k ∧ Hid (inf F D.m k3 0 = inf F D.m (k3 - k) k)) (fun i => k3 - (intOf i).toNat)
    case atStart => exact ⟨0, Nat.zero_le _, rfl, rfl⟩
    case round =>
      obtain ⟨k, hk0, rfl, HI⟩ := hrel
      by_cases hlt : k < k3
      · rcases H3.out.below HB1.out with h | ⟨b3, o3, rfl, hl3, hc3⟩
        · omega
        have h3k := hc3 k hlt
        have hlt' : (k : Int) < (k3 : Int) := by omega
        have HD : Hid (inf F D.m k3 0 = _) := HI.out.trans (inf_at hlt)
        clear HI hc3
        by_cases hin : inB (F k) 0 ((D.m : Int) - 1) = true
        · have HI : Hid (inf F D.m k3 0 = inf F D.m (k3 - (k + 1)) (k + 1)) := HD.out.trans (if_pos hin)
          clear HD
          go_wp2_with fail
          refine (isPlace_any (F k) D.m _ hm).mono ?_
          rintro e w' ⟨rfl, hw'⟩
          rw [hw']
          clear hw' w'
          go_wp2_with fail
          go_round
          case rel => exact ⟨k + 1, hlt, by go_num, HI⟩
          case measure => simp [intOf]; omega
        · have HI : Hid (inf F D.m k3 0 = false) := HD.out.trans (if_neg hin)
          have hin' : inB (F k) 0 ((D.m : Int) - 1) = false := by simpa using hin
          have HC2 : Hid (c = 3) := by have h := HC.out; rw [HI.out, if_neg (by simp)] at h; exact h
          clear HD HC hin
          go_wp2_with fail
          refine (isPlace_any (F k) D.m _ hm).mono ?_
          rintro e w' ⟨rfl, hw'⟩
          rw [hw']
          clear hw' w'
          go_wp2_with fail
          rw [HC2.out]
          refine bodyPost_ret (v := .agg #[.int .i64 3, .slice none 0 0, .slice none 0 0]) (by simp [results, Tryz.results30, go_sem, *]) rfl ?_
          refine dres_bad ?_ (by decide)
          repeat (first | exact HB1.out | refine Below.setCell ?_ (by first | omega | (simp <;> omega)) _)
      · have HI0 : Hid (inf F D.m k3 0 = true) := by
          refine HI.out.trans ?_
          rw [show k3 - k = 0 by omega, inf]
        have HFI : Hid (∀ i, i < k3 → 0 ≤ F i ∧ F i < D.m) := fun i hi => inf_all k3 0 HI0.out i (by omega) (by omega)
        clear HI
        by_cases hrs : rsf F k3 0 = true
        · have HC2 : Hid (c = 0) := by have h := HC.out; rw [if_pos HI0.out, if_pos hrs] at h; exact h
          clear HC
          go_wp2_with fail
          refine (rises_any k3 F a3 cap3 _ hk (H3.out.below HB1.out)).mono ?_
          rintro e w' ⟨rfl, hw'⟩
          rw [hw']
          clear hw' w'
          go_wp2_with fail
          refine (settle_any D k3 F a a' a3 cap cap' cap3 _ HG.out hk HFI.out (HA.out.below HB1.out) (H3.out.below HB1.out)).mono ?_
          rintro e w3 ⟨ap, cp, rfl, hb3, hop⟩
          have t0 := cell_below r0 hb3
          have t1 := cell_below r1 hb3
          have t2 := cell_below r2 hb3
          have tf : ∀ i, w3.frozen? ⟨w.heap.size + 1, i, none⟩ = false := fun i => (hb3.frozen (p := ⟨w.heap.size + 1, i, none⟩) (by show w.heap.size + 1 < _; omega)).trans (fz i)
          have HB3 : Hid (Below w.heap.size w w3) := below_then HB1.out hb3
          have hz3 : w1.heap.size ≤ w3.heap.size := hb3.size
          have HOP : Hid (OwnP w3 w1.heap.size w3.heap.size ap D.n (fun _ => 48) (stl D F k3)) := hop
          clear hb3 hop q0 q1 r0 r1 r2 fz
          go_wp2_with fail
          rw [HC2.out]
          refine bodyPost_ret (v := .agg #[.int .i64 0, .slice ap D.n cp, .slice none 0 0]) (by simp [results, Tryz.results30, go_sem, *]) rfl ?_
          refine ⟨ap, none, cp, 0, rfl, ?_, ?_⟩
          · repeat (first | exact HB3.out | refine Below.setCell ?_ (by first | omega | (simp <;> omega)) _)
          · have hw : ∀ w7, Writes (w.heap.size + 1) (w.heap.size + 2) w3 w7 → w7.heap.size = w3.heap.size → OwnD w7 w.heap.size w7.heap.size ap none (syD D F k3) := fun w7 h e => by
              rw [e]
              exact ownD_sy ((HOP.out.writes h (.inr (by omega))).wide (by omega) (Nat.le_refl _) (by omega)) (by omega)
            refine hw _ ?_ (by simp [World.setCell])
            repeat (first | exact Writes.refl _ _ _ | refine Writes.setCell ?_ (by first | omega | (simp <;> omega)) (by first | omega | (simp <;> omega)) _)
        · have hrs' : rsf F k3 0 = false := by simpa using hrs
          have HC2 : Hid (c = 1) := by have h := HC.out; rw [if_pos HI0.out, if_neg hrs] at h; exact h
          clear HC hrs
          go_wp2_with fail
          refine (rises_any k3 F a3 cap3 _ hk (H3.out.below HB1.out)).mono ?_
          rintro e w' ⟨rfl, hw'⟩
          rw [hw']
          clear hw' w'
          go_wp2_with fail
          rw [HC2.out]
          refine bodyPost_ret (v := .agg #[.int .i64 1, .slice none 0 0, .slice none 0 0]) (by simp [results, Tryz.results30, go_sem, *]) rfl ?_
          refine dres_bad ?_ (by decide)
          repeat (first | exact HB1.out | refine Below.setCell ?_ (by first | omega | (simp <;> omega)) _)
  · have hpl : crC D k3 F = df D := by unfold crC; rw [if_neg hf]
    rw [hpl]
    have hd : (df D != 0) = true := by simpa using hf
    have HNZ : Hid (df D ≠ 0) := hf
    clear hpl
    go_enter Tryz.func30, Tryz.ntmps30
    go_wp2_with fail
    refine (implDf_any D a a' cap cap' _ HS.out (HA.out.below (hb0 _ _))).mono ?_
    rintro e w1 ⟨rfl, hb1⟩
    obtain ⟨hcc, hff⟩ := bcell hb1
    generalize df D = c at *
    clear hf
    go_wp2_with fail
    refine bodyPost_ret (v := .agg #[.int .i64 c, .slice none 0 0, .slice none 0 0]) (by simp [results, Tryz.results30, go_sem, hcc]) rfl ?_
    refine dres_bad ?_ HNZ.out
    repeat (first | exact below_then (hb0 _ _) hb1 | refine Below.setCell ?_ (by first | omega | (simp <;> omega)) _)
end Go.Proofs.YtldnfiadafmomaaGreat
