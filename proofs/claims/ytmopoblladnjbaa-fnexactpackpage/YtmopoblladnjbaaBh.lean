/- The laws' own helpers over bytes; spec.PackPage. -/
import Derived.Test.YtmopoblladnjbaaSp
namespace Go.Proofs.Ytmopoblladnjbaa
open Go.RowKit Go.Deep
set_option linter.unusedVariables false

def bk (m : Int) (i : Nat) : Int := (m + i) % 256
def mkb (m : Int) (z : Nat → Int) (j i : Nat) : Int := if i < j then bk m i else z i
def Row1 (w : World) (b off n : Nat) (z : Nat → Int) : Prop := (∀ i, i < n → w.cell? ⟨b, off + i, none⟩ = some (.int .u8 (z i))) ∧ (∀ i, i < n → w.frozen? ⟨b, off + i, none⟩ = false)
theorem row1_step {w : World} {b off n k : Nat} {z : Nat → Int} {m : Int} (hlt : k < n) (h : Row1 w b off n (mkb m z k)) : Row1 (w.setCell ⟨b, off + k, none⟩ (.int .u8 ((m + k) % 256))) b off n (mkb m z (k + 1)) := by
  obtain ⟨hc, hf⟩ := h
  refine ⟨fun i hi => ?_, fun i hi => ?_⟩
  · by_cases e : i = k
    · subst e; rw [setS (hc i hi)]; simp [mkb, bk]
    · rw [setO (by omega), hc i hi]
      have : (i < k + 1) ↔ (i < k) := by omega
      simp only [mkb, this]
  · rw [World.frozen?_setCell]; exact hf i hi
set_option maxHeartbeats 400000 in
theorem markByteS_some (n : Nat) (z : Nat → Int) (b off cap lo hi : Nat) (m : Int) (w : World) (hn : n ≤ 8796093022208) (hm1 : 0 ≤ m) (hm2 : m ≤ 8796093022208) (hlo : lo ≤ b) (hhi : b < hi) (hr : Row1 w b off n z) :
    Calls Try.prog 43 #[.slice (some ⟨b, off, none⟩) n cap, .int .i64 m] w fun e w' =>
      e = .returned (.int .i64 (m + n)) ∧ Writes lo hi w w' ∧ Row1 w' b off n (mkb m z n) := by
  go_enter Try.func43, Try.ntmps43
  go_wp2
  go_loopw [1, 5] (fun q i wr => ∃ k : Nat, k ≤ n ∧ i = .int .i64 k ∧ q = .int .i64 (m + k) ∧ Writes lo hi w wr ∧ Row1 wr b off n (mkb m z k)) (fun _ i _ => n - (intOf i).toNat)
  case atStart => exact ⟨0, Nat.zero_le _, rfl, by go_num, Writes.refl _ _ _, ⟨fun i h => by rw [hr.1 i h]; simp [mkb], hr.2⟩⟩
  case round =>
    obtain ⟨k, hk0, rfl, rfl, hb, hrow⟩ := hrel
    by_cases hlt : k < n
    · have h1 := hrow.1 k hlt
      have h3 := hrow.2 k hlt
      have hw : IntKind.u8.wrap (m + k) = (m + k) % 256 := by rw [IntKind.wrap_u8]
      generalize mkb m z k k = x1 at h1
      have HR : Hid (Row1 wr b off n (mkb m z k)) := hrow
      have HB : Hid (Writes lo hi w wr) := hb
      clear hr hrow hb
      go_wp2
      go_roundw
      case rel => exact ⟨k + 1, hlt, by go_num, by go_num, HB.out.setCell (p := ⟨b, _, none⟩) hlo hhi _, row1_step hlt HR.out⟩
      case measure => simp [intOf]; omega
    · have hkn : k = n := by omega
      have HR : Hid (Row1 wr b off n (mkb m z n)) := by have h := hrow; rw [hkn] at h; exact h
      clear hr hrow
      go_wp2
      go_ret
      exact ⟨ret_int (by rw [hkn]), hb, HR.out⟩
theorem markByteS_zero (a : Option Addr) (cap : Nat) (m : Int) (w : World) : Calls Try.prog 43 #[.slice a 0 cap, .int .i64 m] w fun e w' => e = .returned (.int .i64 m) ∧ w' = w := by
  go_enter Try.func43, Try.ntmps43
  go_wp2
  go_loop [1, 5] (fun q i => q = .int .i64 m ∧ i = .int .i64 0) (fun _ _ => 0)
  case atStart => exact ⟨rfl, rfl⟩
  case round =>
    obtain ⟨rfl, rfl⟩ := hrel
    go_wp2
    go_ret
    exact ⟨rfl, rfl⟩
theorem markByteS_any (n : Nat) (z : Nat → Int) (a : Option Addr) (cap lo hi : Nat) (m : Int) (w : World) (hn : n ≤ 8796093022208) (hm1 : 0 ≤ m) (hm2 : m ≤ 8796093022208) (h : OwnB w lo hi a n z) :
    Calls Try.prog 43 #[.slice a n cap, .int .i64 m] w fun e w' => e = .returned (.int .i64 (m + n)) ∧ Writes lo hi w w' ∧ OwnB w' lo hi a n (bk m) := by
  obtain ⟨h0, rfl | ⟨b, off, rfl, hlo, hhi, hr⟩⟩ := h
  · refine (markByteS_zero a cap m w).mono ?_
    rintro e w' ⟨rfl, rfl⟩
    exact ⟨ret_int (by omega), Writes.refl _ _ _, h0, .inl rfl⟩
  · refine (markByteS_some n z b off cap lo hi m w hn hm1 hm2 hlo hhi hr).mono ?_
    rintro e w' ⟨rfl, hw, h1, h2⟩
    exact ⟨rfl, hw, Nat.le_trans h0 hw.size, .inr ⟨b, off, rfl, hlo, hhi, fun i hi => by rw [h1 i hi]; simp [mkb, hi], h2⟩⟩
set_option maxHeartbeats 400000 in
theorem heldByteS_some (n b off cap : Nat) (m : Int) (w : World) (hn : n ≤ 8796093022208) (hm1 : 0 ≤ m) (hm2 : m ≤ 8796093022208) (hc : ∀ i, i < n → w.cell? ⟨b, off + i, none⟩ = some (.int .u8 (bk m i))) :
    Calls Try.prog 124 #[.slice (some ⟨b, off, none⟩) n cap, .int .i64 m] w fun e w' => e = .returned (.int .i64 (m + n)) ∧ w' = w := by
  go_enter Try.func124, Try.ntmps124
  go_wp2
  go_loop [1, 5] (fun q i => ∃ k : Nat, k ≤ n ∧ i = .int .i64 k ∧ q = .int .i64 (m + k)) (fun _ i => n - (intOf i).toNat)
  case atStart => exact ⟨0, Nat.zero_le _, rfl, by go_num⟩
  case round =>
    obtain ⟨k, hk0, rfl, rfl⟩ := hrel
    by_cases hlt : k < n
    · have h1 : w.cell? ⟨b, off + k, none⟩ = some (.int .u8 ((m + k) % 256)) := hc k hlt
      have hw : IntKind.u8.wrap (m + k) = (m + k) % 256 := by rw [IntKind.wrap_u8]
      clear hc
      go_wp2
      go_round
      case rel => exact ⟨k + 1, hlt, by go_num, by go_num⟩
      case measure => simp [intOf]; omega
    · have hkn : k = n := by omega
      clear hc
      go_wp2
      go_ret
      exact ⟨rfl, rfl⟩
theorem heldByteS_zero (a : Option Addr) (cap : Nat) (m : Int) (w : World) : Calls Try.prog 124 #[.slice a 0 cap, .int .i64 m] w fun e w' => e = .returned (.int .i64 m) ∧ w' = w := by
  go_enter Try.func124, Try.ntmps124
  go_wp2
  go_loop [1, 5] (fun q i => q = .int .i64 m ∧ i = .int .i64 0) (fun _ _ => 0)
  case atStart => exact ⟨rfl, rfl⟩
  case round =>
    obtain ⟨rfl, rfl⟩ := hrel
    go_wp2
    go_ret
    exact ⟨rfl, rfl⟩
theorem heldByteS_any (n : Nat) (a : Option Addr) (cap : Nat) (m : Int) (w : World) (hn : n ≤ 8796093022208) (hm1 : 0 ≤ m) (hm2 : m ≤ 8796093022208) (h : BytesAt w a n (bk m)) :
    Calls Try.prog 124 #[.slice a n cap, .int .i64 m] w fun e w' => e = .returned (.int .i64 (m + n)) ∧ w' = w := by
  rcases h with rfl | ⟨b, off, rfl, _, hc⟩
  · refine (heldByteS_zero a cap m w).mono ?_
    rintro e w' ⟨rfl, rfl⟩
    exact ⟨ret_int (by omega), rfl⟩
  · exact heldByteS_some n b off cap m w hn hm1 hm2 hc
theorem eqByteS_zero (a a' : Option Addr) (cap cap' : Nat) (w : World) : Calls Try.prog 42 #[.slice a 0 cap, .slice a' 0 cap'] w fun e w' => e = .returned (.bool true) ∧ w' = w := by
  go_enter Try.func42, Try.ntmps42
  go_wp2
  go_loop [5] (fun i => i = .int .i64 0) (fun _ => 0)
  case atStart => exact rfl
  case round =>
    obtain rfl := hrel
    go_wp2
    go_ret
    exact ⟨rfl, rfl⟩
theorem eqByteS_any (n : Nat) (z : Nat → Int) (a a' : Option Addr) (cap cap' : Nat) (w : World) (hn : n ≤ 8796093022208) (h : BytesAt w a n z) (h' : BytesAt w a' n z) :
    Calls Try.prog 42 #[.slice a n cap, .slice a' n cap'] w fun e w' => e = .returned (.bool true) ∧ Below w.heap.size w w' := by
  have z0 : ∀ (e : Ending) (w' : World), (e = .returned (.bool true) ∧ w' = w) → e = .returned (.bool true) ∧ Below w.heap.size w w' := by
    rintro e w' ⟨rfl, rfl⟩
    exact ⟨rfl, Below.refl _ _⟩
  rcases h with rfl | ⟨b, off, rfl, _, hc⟩
  · exact (eqByteS_zero a a' cap cap' w).mono z0
  · rcases h' with rfl | ⟨b', off', rfl, _, hc'⟩
    · exact (eqByteS_zero _ a' cap cap' w).mono z0
    · refine (eqByteS_same n z b off cap b' off' cap' w (by omega) hc hc').mono ?_
      rintro e w' ⟨rfl, m, rfl⟩
      exact ⟨rfl, below_drewN (Below.refl _ _) _⟩
theorem eqBytesResult_same (c : Int) (n : Nat) (z : Nat → Int) (a a' : Option Addr) (cap cap' : Nat) (w : World) (hn : n ≤ 8796093022208) (h : BytesAt w a n z) (h' : BytesAt w a' n z) :
    Calls Try.prog 35 #[.agg #[.int .i64 c, .slice a n cap], .agg #[.int .i64 c, .slice a' n cap']] w fun e w' => e = .returned (.bool true) ∧ Below w.heap.size w w' := by
  go_enter Try.func35, Try.ntmps35
  go_wp2_with fail
  have hb0 : ∀ o1 o2, Below w.heap.size w ((w.alloc o1).alloc o2) := fun o1 o2 => ((Below.refl _ _).alloc (Nat.le_refl _) _).alloc (by simp) _
  refine (eqByteS_any n z a a' cap cap' _ hn (h.below (hb0 _ _)) (h'.below (hb0 _ _))).mono ?_
  rintro e w1 ⟨rfl, hb1⟩
  go_wp2_with fail
  go_ret
  exact ⟨rfl, below_then (hb0 _ _) hb1⟩
theorem markBytesResult_any (c : Int) (n : Nat) (z : Nat → Int) (a : Option Addr) (cap lo hi : Nat) (w : World) (hn : n ≤ 8796093022208) (h : OwnB w lo hi a n z) :
    Calls Try.prog 38 #[.agg #[.int .i64 c, .slice a n cap], .int .i64 1] w fun e w' => e = .returned (.int .i64 (1 + n)) ∧ Writes lo hi w w' ∧ OwnB w' lo hi a n (bk 1) := by
  go_enter Try.func38, Try.ntmps38
  go_wp2_with fail
  refine (markByteS_any n z a cap lo hi 1 _ hn (by omega) (by omega) (h.below (below_new _ _))).mono ?_
  rintro e w1 ⟨rfl, hw, ho⟩
  go_wp2_with fail
  go_ret
  exact ⟨rfl, (Writes.of_below (below_new _ _)).trans hw, ho⟩
theorem heldBytesResult_any (c : Int) (n : Nat) (a : Option Addr) (cap : Nat) (w : World) (hn : n ≤ 8796093022208) (h : BytesAt w a n (bk 1)) :
    Calls Try.prog 39 #[.agg #[.int .i64 c, .slice a n cap], .int .i64 1] w fun e w' => e = .returned (.int .i64 (1 + n)) ∧ Below w.heap.size w w' := by
  go_enter Try.func39, Try.ntmps39
  go_wp2_with fail
  refine (heldByteS_any n a cap 1 _ hn (by omega) (by omega) (h.below (below_new _ _))).mono ?_
  rintro e w1 ⟨rfl, rfl⟩
  go_wp2_with fail
  go_ret
  exact ⟨rfl, below_new _ _⟩

set_option maxHeartbeats 2000000 in
theorem specPack_any (idn lsn : Int) (n : Nat) (K V : Nat → Int) (a : Option Addr) (cap : Nat) (w : World) (hn : n ≤ 140737488355328) (h : CellsAt w a n K V) :
    Calls Try.prog 33 #[.agg #[.int .i64 idn, .int .i64 lsn, .slice a n cap]] w (BRes (pf idn lsn n K V) (pgb idn lsn n K V) w) := by
  have hb0 : ∀ o1 o2, Below w.heap.size w ((w.alloc o1).alloc o2) := fun o1 o2 => ((Below.refl _ _).alloc (Nat.le_refl _) _).alloc (by simp) _
  by_cases h0 : pf idn lsn n K V = 0
  · have HG : Hid (GoodP idn lsn n K V) := good_of h0
    have E : Hid (pf idn lsn n K V = 0) := h0
    go_enter Try.func33, Try.ntmps33
    go_wp2_with fail
    refine (specFault_any idn lsn n K V _ cap _ (by omega) (h.below (hb0 _ _))).mono ?_
    rintro e w1 ⟨rfl, hb1⟩
    rw [h0]
    have HA : Hid (CellsAt w1 a n K V) := (h.below (hb0 _ _)).below hb1
    obtain ⟨hc, hf⟩ := bcell hb1
    have hz : w.heap.size + 1 < w1.heap.size := by have hq := hb1.size; simp at hq; omega
    have k0 : w1.cell? ⟨w.heap.size, 0, none⟩ = some (.int .i64 idn) := by rw [hc _ _ (by simp <;> omega)]; simp [go_sem]
    have k1 : w1.cell? ⟨w.heap.size, 1, none⟩ = some (.int .i64 lsn) := by rw [hc _ _ (by simp <;> omega)]; simp [go_sem]
    have k2 : w1.cell? ⟨w.heap.size, 2, none⟩ = some (.slice a n cap) := by rw [hc _ _ (by simp <;> omega)]; simp [go_sem]
    have r0 : w1.cell? ⟨w.heap.size + 1, 0, none⟩ = some (.int .i64 0) := by simp [hc]
    have r1 : w1.cell? ⟨w.heap.size + 1, 1, none⟩ = some (.slice none 0 0) := by simp [hc]
    have f0 : ∀ i, w1.frozen? ⟨w.heap.size + 1, i, none⟩ = false := fun i => by simp [hf, go_sem]
    have HB : Hid (Below w.heap.size w w1) := below_then (hb0 _ _) hb1
    clear h0 hc hf hb1 hb0 h
    go_wp2_with fail
    refine (specPk_any idn lsn n K V a cap w1 HG.out HA.out).mono ?_
    rintro e w3 ⟨v3, rfl, hb3, hown3⟩
    obtain ⟨a3, cap3, rfl, ho3⟩ := ownB_of_row hown3
    have t0 := cell_below r0 hb3
    have t1 := cell_below r1 hb3
    have fz : ∀ i, w3.frozen? ⟨w.heap.size + 1, i, none⟩ = false := fun i => (hb3.frozen (p := ⟨w.heap.size + 1, i, none⟩) hz).trans (f0 i)
    have HB3 : Hid (Below w.heap.size w w3) := below_then HB.out hb3
    have HO3 : Hid (OwnB w3 w1.heap.size w3.heap.size a3 (pgb idn lsn n K V).length (zOf (pgb idn lsn n K V))) := ho3
    generalize pgb idn lsn n K V = Z at *
    clear ho3 hown3 hb3 r0 r1 f0 k0 k1 k2 HA
    go_wp2_with fail
    refine bodyPost_ret (v := .agg #[.int .i64 0, .slice a3 Z.length cap3]) (by simp [results, Try.results33, go_sem, *]) rfl ?_
    refine bres_ok E HB3.out (by omega) HO3.out ?_ (by simp [World.setCell])
    repeat (first | exact Writes.refl _ _ _ | refine Writes.setCell ?_ (by first | omega | (simp <;> omega)) (by first | omega | (simp <;> omega)) _)
  · have hd : (pf idn lsn n K V != 0) = true := by simpa using h0
    have HNZ : Hid (pf idn lsn n K V ≠ 0) := h0
    go_enter Try.func33, Try.ntmps33
    go_wp2_with fail
    refine (specFault_any idn lsn n K V _ cap _ (by omega) (h.below (hb0 _ _))).mono ?_
    rintro e w1 ⟨rfl, hb1⟩
    obtain ⟨hc, hf⟩ := bcell hb1
    generalize pf idn lsn n K V = c at *
    clear h0
    go_wp2_with fail
    refine bodyPost_ret (v := .agg #[.int .i64 c, .slice none 0 0]) (by simp [results, Try.results33, go_sem, hc]) rfl ?_
    refine bres_bad ?_ HNZ.out
    repeat (first | exact below_then (hb0 _ _) hb1 | refine Below.setCell ?_ (by first | omega | (simp <;> omega)) _)
end Go.Proofs.Ytmopoblladnjbaa
