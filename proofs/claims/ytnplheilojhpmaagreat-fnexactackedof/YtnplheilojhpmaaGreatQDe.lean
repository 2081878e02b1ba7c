/- Two disks that hold the same: the laws' eqDisk. -/
import Derived.Test.YtnplheilojhpmaaGreatQCq
namespace Go.Proofs.YtnplheilojhpmaaGreat
open Go.RowKit Go.Deep
set_option linter.unusedVariables false
set_option maxRecDepth 20000

theorem eqByteS_q (n : Nat) (z : Nat → Int) (a a' : Option Addr) (cap cap' : Nat) (w : World) (hn : n ≤ 8796093022208) (h : BytesAt w a n z) (h' : BytesAt w a' n z) :
    Calls Tryz.prog 71 #[.slice a n cap, .slice a' n cap'] w fun e w' => e = .returned (.bool true) ∧ ∃ m, w' = w.drewN m := by
  have z0 : ∀ (e : Ending) (w' : World), (e = .returned (.bool true) ∧ w' = w) → e = .returned (.bool true) ∧ ∃ m, w' = w.drewN m := by
    rintro e w' ⟨rfl, rfl⟩
    exact ⟨rfl, 0, rfl⟩
  rcases h with rfl | ⟨b, off, rfl, _, hc⟩
  · exact (eqByteS_zero a a' cap cap' w).mono z0
  · rcases h' with rfl | ⟨b', off', rfl, _, hc'⟩
    · exact (eqByteS_zero _ a' cap cap' w).mono z0
    · exact eqByteS_same n z b off cap b' off' cap' w (by omega) hc hc'
set_option maxHeartbeats 400000 in
theorem eqByteSS_any (n : Nat) (L : Nat → Nat) (Z : Nat → Nat → Int) (a a' : Option Addr) (cap cap' : Nat) (w : World) (hn : n ≤ 1048576) (hL : ∀ i, i < n → L i ≤ 1048576) (h : PagesAt w a n L Z) (h' : PagesAt w a' n L Z) :
    Calls Tryz.prog 69 #[.slice a n cap, .slice a' n cap'] w fun e w' => e = .returned (.bool true) ∧ Below w.heap.size w w' := by
  have HL : Hid (∀ i, i < n → L i ≤ 1048576) := hL
  have HA : Hid (PagesAt w a n L Z) := h
  have HA' : Hid (PagesAt w a' n L Z) := h'
  clear hL h h'
  go_enter Tryz.func69, Tryz.ntmps69
  go_wp2
  go_loopw [5] (fun i wr => ∃ k : Nat, k ≤ n ∧ i = .int .i64 k ∧ Below w.heap.size w wr) (fun i _ => n - (intOf i).toNat)
  case atStart => exact ⟨0, Nat.zero_le _, rfl, Below.refl _ _⟩
  case round =>
    obtain ⟨k, hk0, rfl, hb⟩ := hrel
    by_cases hlt : k < n
    · rcases HA.out.below hb with h | ⟨b, off, rfl, hl, hc⟩
      · omega
      rcases HA'.out.below hb with h | ⟨b', off', rfl, hl', hc'⟩
      · omega
      obtain ⟨ai, ci, h1, hy, -⟩ := hc k hlt
      obtain ⟨ai', ci', h1', hy', -⟩ := hc' k hlt
      have HY : Hid (BytesAt wr ai (L k) (Z k)) := hy
      have HY' : Hid (BytesAt wr ai' (L k) (Z k)) := hy'
      have HLk : Hid (L k ≤ 8796093022208) := Nat.le_trans (HL.out k hlt) (by omega)
      have hlt' : (k : Int) < (n : Int) := by omega
      have HB : Hid (Below w.heap.size w wr) := hb
      clear hc hc' hy hy' hb
      go_wp2
      go_region_held3 (fun w' => w'.cell? ⟨b, off + k, none⟩ = some (.slice ai (L k) ci) ∧ w'.cell? ⟨b', off' + k, none⟩ = some (.slice ai' (L k) ci')) (go_keep)
        (first | (go_at_call 71; refine (eqByteS_q (L k) (Z k) ai ai' ci ci' wr.drew HLk.out HY.out HY'.out).mono ?_; rintro e w' ⟨rfl, m, rfl⟩))
      go_wp2
      go_roundw
      case rel => exact ⟨k + 1, hlt, by go_num, by have hs := HB.out.size; first | exact below_drewN HB.out _ | exact below_drewN HB.out.drew _ | exact (below_drewN HB.out.drew _).drew⟩
      case measure => simp [intOf]; omega
    · have hkn : k = n := by omega
      go_wp2
      go_ret
      exact ⟨rfl, hb⟩
theorem eqLoose_same (p t : Int) (n : Nat) (z : Nat → Int) (a a' : Option Addr) (cap cap' : Nat) (w : World) (hn : n ≤ 8796093022208) (h : BytesAt w a n z) (h' : BytesAt w a' n z) :
    Calls Tryz.prog 110 #[.agg #[.int .i64 p, .int .i64 t, .slice a n cap], .agg #[.int .i64 p, .int .i64 t, .slice a' n cap']] w fun e w' => e = .returned (.bool true) ∧ ∃ c1 c2 : Array Value, ∃ m, w' = ((w.alloc (.cells c1 129)).alloc (.cells c2 129)).drewN m := by
  have HA : Hid (BytesAt w a n z) := h
  have HA' : Hid (BytesAt w a' n z) := h'
  clear h h'
  go_enter Tryz.func110, Tryz.ntmps110
  go_wp2_with fail
  have hb0 : ∀ o1 o2, Below w.heap.size w ((w.alloc o1).alloc o2) := fun o1 o2 => (((Below.refl _ _).alloc (Nat.le_refl _) _).alloc (by simp) _)
  refine (eqByteS_q n z a a' cap cap' _ hn (HA.out.below (hb0 _ _)) (HA'.out.below (hb0 _ _))).mono ?_
  rintro e w' ⟨rfl, m, rfl⟩
  go_wp2_with fail
  go_ret
  exact ⟨rfl, _, _, m, rfl⟩
set_option maxHeartbeats 400000 in
theorem eqLooseS_any (n : Nat) (P T : Nat → Int) (L : Nat → Nat) (Z : Nat → Nat → Int) (a a' : Option Addr) (cap cap' : Nat) (w : World) (hn : n ≤ 1048576) (hL : ∀ i, i < n → L i ≤ 1048576) (h : LoosesAt w a n P T L Z) (h' : LoosesAt w a' n P T L Z) :
    Calls Tryz.prog 70 #[.slice a n cap, .slice a' n cap'] w fun e w' => e = .returned (.bool true) ∧ Below w.heap.size w w' := by
  have HL : Hid (∀ i, i < n → L i ≤ 1048576) := hL
  have HA : Hid (LoosesAt w a n P T L Z) := h
  have HA' : Hid (LoosesAt w a' n P T L Z) := h'
  clear hL h h'
  go_enter Tryz.func70, Tryz.ntmps70
  go_wp2
  go_loopw [5] (fun i wr => ∃ k : Nat, k ≤ n ∧ i = .int .i64 k ∧ Below w.heap.size w wr) (fun i _ => n - (intOf i).toNat)
  case atStart => exact ⟨0, Nat.zero_le _, rfl, Below.refl _ _⟩
  case round =>
    obtain ⟨k, hk0, rfl, hb⟩ := hrel
    by_cases hlt : k < n
    · rcases HA.out.below hb with h | ⟨b, off, rfl, hl, hc⟩
      · omega
      rcases HA'.out.below hb with h | ⟨b', off', rfl, hl', hc'⟩
      · omega
      obtain ⟨p1, t1, ai, ci, h1, hy, -⟩ := hc k hlt
      obtain ⟨p1', t1', ai', ci', h1', hy', -⟩ := hc' k hlt
      have HY : Hid (BytesAt wr ai (L k) (Z k)) := hy
      have HY' : Hid (BytesAt wr ai' (L k) (Z k)) := hy'
      have HLk : Hid (L k ≤ 8796093022208) := Nat.le_trans (HL.out k hlt) (by omega)
      have hlt' : (k : Int) < (n : Int) := by omega
      have HB : Hid (Below w.heap.size w wr) := hb
      clear hc hc' hy hy' hb
      go_wp2
      go_region_held3 (fun w' => w'.cell? ⟨b, off + k * 3, none⟩ = some (.int .i64 (P k)) ∧ w'.cell? ⟨b, off + k * 3 + 1, none⟩ = some (.int .i64 (T k)) ∧ w'.cell? ⟨b, off + k * 3 + 2, none⟩ = some (.slice ai (L k) ci) ∧ w'.cell? ⟨b', off' + k * 3, none⟩ = some (.int .i64 (P k)) ∧ w'.cell? ⟨b', off' + k * 3 + 1, none⟩ = some (.int .i64 (T k)) ∧ w'.cell? ⟨b', off' + k * 3 + 2, none⟩ = some (.slice ai' (L k) ci')) (go_keep)
        (first | (go_at_call 110; refine (eqLoose_same (P k) (T k) (L k) (Z k) ai ai' ci ci' wr.drew HLk.out HY.out HY'.out).mono ?_; rintro e w' ⟨rfl, o1, o2, m, rfl⟩))
      go_wp2
      go_roundw
      case rel => exact ⟨k + 1, hlt, by go_num, by have hs := HB.out.size; repeat (first | exact HB.out | apply Below.drew | (refine below_drewN ?_ _) | refine Below.alloc ?_ (by first | omega | (simp; omega)) _)⟩
      case measure => simp [intOf]; omega
    · have hkn : k = n := by omega
      go_wp2
      go_ret
      exact ⟨rfl, hb⟩
theorem eqDisk_same (D : Dk) (a a' c c' : Option Addr) (cap cap' dap dap' : Nat) (w : World) (hs : Small D) (h : DiskAt w a a' D) (h' : DiskAt w c c' D) :
    Calls Tryz.prog 32 #[.agg #[.slice a D.n cap, .slice a' D.m cap'], .agg #[.slice c D.n dap, .slice c' D.m dap']] w fun e w' => e = .returned (.bool true) ∧ Below w.heap.size w w' := by
  have HS : Hid (Small D) := hs
  obtain ⟨n, L, Z, m, P, T, M, Y⟩ := D
  obtain ⟨h1, h2⟩ := h
  obtain ⟨h3, h4⟩ := h'
  dsimp only at *
  have H1 : Hid (PagesAt w a n L Z) := h1
  have H2 : Hid (LoosesAt w a' m P T M Y) := h2
  have H3 : Hid (PagesAt w c n L Z) := h3
  have H4 : Hid (LoosesAt w c' m P T M Y) := h4
  clear h1 h2 h3 h4 hs
  have hb0 : ∀ o1 o2, Below w.heap.size w ((w.alloc o1).alloc o2) := fun o1 o2 => (((Below.refl _ _).alloc (Nat.le_refl _) _).alloc (by simp) _)
  go_enter Tryz.func32, Tryz.ntmps32
  go_wp2_with fail
  refine (eqByteSS_any n L Z a c cap dap _ HS.out.n HS.out.L (H1.out.below (hb0 _ _)) (H3.out.below (hb0 _ _))).mono ?_
  rintro e w1 ⟨rfl, hb1⟩
  obtain ⟨hc, hf⟩ := bcell hb1
  have q0 : w1.cell? ⟨w.heap.size, 1, none⟩ = some (.slice a' m cap') := by rw [hc _ _ (by simp <;> omega)]; simp [go_sem]
  have q1 : w1.cell? ⟨w.heap.size + 1, 1, none⟩ = some (.slice c' m dap') := by rw [hc _ _ (by simp <;> omega)]; simp [go_sem]
  have HB : Hid (Below w.heap.size w w1) := below_then (hb0 _ _) hb1
  clear hc hf hb1 hb0
  go_wp2_with fail
  refine (eqLooseS_any m P T M Y a' c' cap' dap' _ HS.out.m HS.out.M (H2.out.below HB.out) (H4.out.below HB.out)).mono ?_
  rintro e w2 ⟨rfl, hb2⟩
  go_wp2_with fail
  go_ret
  exact ⟨rfl, below_then HB.out hb2⟩
end Go.Proofs.YtnplheilojhpmaaGreat
