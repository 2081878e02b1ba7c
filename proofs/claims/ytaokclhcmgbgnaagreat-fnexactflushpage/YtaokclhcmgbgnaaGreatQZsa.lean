/- Marks in whole disks and in answers that are disks; two answers that hold the same. -/
import Derived.Test.YtaokclhcmgbgnaaGreatQRb
import Derived.Test.YtaokclhcmgbgnaaGreatQCq
import Derived.Test.YtaokclhcmgbgnaaGreatQRe
namespace Go.Proofs.YtaokclhcmgbgnaaGreat
open Go.ChangeShapes Go.WideShapes Go.ChangeAt Go.RowKit Go.Deep Go.Joins
set_option linter.unusedVariables false
set_option maxRecDepth 20000
open Go.RowKit Go.Deep

structure Sto where
  nx : Int
  pn : Nat
  pT : Nat → Pg
  d : Dk
  g : Lo
  hn : Nat
  hK : Nat → Int
  hV : Nat → Int
  on : Nat
  oF : Nat → Int
def BigD (d : Dk) : Prop := d.n ≤ 9223372036854775807 ∧ (∀ i, i < d.n → d.L i ≤ 9223372036854775807) ∧ d.m ≤ 9223372036854775807 ∧ (∀ i, i < d.m → d.M i ≤ 9223372036854775807)
def BigSt (t : Sto) : Prop := (t.pn ≤ 9223372036854775807 ∧ ∀ i, i < t.pn → BigPg (t.pT i)) ∧ BigD t.d ∧ (t.g.n1 ≤ 9223372036854775807 ∧ t.g.n2 ≤ 9223372036854775807) ∧ t.hn ≤ 9223372036854775807 ∧ t.on ≤ 9223372036854775807
def SmSt (t : Sto) : Prop := (t.pn ≤ 1048576 ∧ (∀ i, i < t.pn → SmPg (t.pT i)) ∧ smPg t.pT t.pn ≤ 1048576) ∧ Small t.d ∧ (t.g.n1 ≤ 1048576 ∧ t.g.n2 ≤ 1048576) ∧ t.hn ≤ 1048576 ∧ t.on ≤ 1048576
/-- How many elements its slices have. -/
def szSt (t : Sto) : Nat := t.pn + smPg t.pT t.pn + (t.d.n + sumL t.d.L t.d.n + t.d.m + sumL t.d.M t.d.m) + (t.g.n1 + t.g.n2) + t.hn + t.on
theorem smallSt {t : Sto} (h : 0 ≤ (1048576 : Int) - szSt t) : SmSt t := by
  unfold szSt at h
  refine ⟨⟨by omega, fun i hi => ?_, by omega⟩, small_of (by omega), ⟨by omega, by omega⟩, by omega, by omega⟩
  have := smf9_ge (fun i => szPg (t.pT i)) t.pn i hi
  unfold smPg at h
  unfold szPg at *
  exact ⟨by omega, trivial⟩
/-- What its slices hold. -/
def InSt (w : World) (a0 a1 a2 a3 a4 a5 a6 : Option Addr) (t : Sto) : Prop := PgsAt w a0 t.pn t.pT ∧ DiskAt w a1 a2 t.d ∧ LogAt w a3 a4 t.g ∧ CellsAt w a5 t.hn t.hK t.hV ∧ IntsAt w a6 t.on t.oF
theorem InSt.below {w w' : World} {a0 a1 a2 a3 a4 a5 a6 : Option Addr} {t : Sto} (h : InSt w a0 a1 a2 a3 a4 a5 a6 t) (hb : Below w.heap.size w w') : InSt w' a0 a1 a2 a3 a4 a5 a6 t := by
  obtain ⟨h0, h1, h2, h3, h4⟩ := h
  exact ⟨h0.below hb, h1.below hb, h2.below hb, h3.below hb, h4.below hb⟩
/-- In blocks of their own, one behind the other, from l on, below h. -/
def OwnInSt (w : World) (l h : Nat) (a0 a1 a2 a3 a4 a5 a6 : Option Addr) (t : Sto) : Prop := ∃ m0 m1 m2 m3 m4 m5, l ≤ m0 ∧ m0 ≤ m1 ∧ m1 ≤ m2 ∧ m2 ≤ m3 ∧ m3 ≤ m4 ∧ m4 ≤ m5 ∧ m5 ≤ h ∧ h ≤ w.heap.size ∧ OwnPg w m0 m1 a0 t.pn t.pT ∧ OwnD w m1 m2 a1 a2 t.d ∧ OwnG w m2 m3 a3 a4 t.g ∧ Own w m3 m4 a5 t.hn t.hK t.hV ∧ OwnI w m4 m5 a6 t.on t.oF
theorem OwnInSt.writes {w w' : World} {l h lo' hi' : Nat} {a0 a1 a2 a3 a4 a5 a6 : Option Addr} {t : Sto} (k : OwnInSt w l h a0 a1 a2 a3 a4 a5 a6 t) (hw : Writes lo' hi' w w') (hd : h ≤ lo' ∨ hi' ≤ l) : OwnInSt w' l h a0 a1 a2 a3 a4 a5 a6 t := by
  obtain ⟨m0, m1, m2, m3, m4, m5, g0, g1, g2, g3, g4, g5, g6, gz, k0, k1, k2, k3, k4⟩ := k
  exact ⟨m0, m1, m2, m3, m4, m5, g0, g1, g2, g3, g4, g5, g6, Nat.le_trans gz hw.size, k0.writes hw (by omega), k1.writes hw (by omega), k2.writes hw (by omega), k3.writes hw (by omega), k4.writes hw (by omega)⟩
theorem OwnInSt.at {w : World} {l h : Nat} {a0 a1 a2 a3 a4 a5 a6 : Option Addr} {t : Sto} (k : OwnInSt w l h a0 a1 a2 a3 a4 a5 a6 t) : InSt w a0 a1 a2 a3 a4 a5 a6 t := by
  obtain ⟨m0, m1, m2, m3, m4, m5, g0, g1, g2, g3, g4, g5, g6, gz, k0, k1, k2, k3, k4⟩ := k
  exact ⟨k0.at, k1.at, k2.at, k3.at, k4.at⟩
theorem OwnInSt.below {w w' : World} {l h : Nat} {a0 a1 a2 a3 a4 a5 a6 : Option Addr} {t : Sto} (k : OwnInSt w l h a0 a1 a2 a3 a4 a5 a6 t) (hb : Below w.heap.size w w') : OwnInSt w' l h a0 a1 a2 a3 a4 a5 a6 t :=
  k.writes (Writes.of_below (lo := h) (hi := h) hb) (.inl (Nat.le_refl _))
theorem OwnInSt.wide {w : World} {l h l' h' : Nat} {a0 a1 a2 a3 a4 a5 a6 : Option Addr} {t : Sto} (k : OwnInSt w l h a0 a1 a2 a3 a4 a5 a6 t) (h1 : l' ≤ l) (h2 : h ≤ h') (h3 : h' ≤ w.heap.size) : OwnInSt w l' h' a0 a1 a2 a3 a4 a5 a6 t := by
  obtain ⟨m0, m1, m2, m3, m4, m5, g0, g1, g2, g3, g4, g5, g6, gz, k0, k1, k2, k3, k4⟩ := k
  exact ⟨m0, m1, m2, m3, m4, m5, by omega, by omega, by omega, by omega, by omega, by omega, by omega, h3, k0, k1, k2, k3, k4⟩
/-! ### sizes -/
theorem szDisk_xx (n m : Nat) (L : Nat → Nat) (Z : Nat → Nat → Int) (P T : Nat → Int) (L' : Nat → Nat) (Z' : Nat → Nat → Int) (a a' : Option Addr) (cap cap' : Nat) (x : Int) (w : World) (hx0 : 0 ≤ x) (hx1 : x ≤ 1048576)
    (hn : n ≤ 9223372036854775807) (hL : ∀ i, i < n → L i ≤ 9223372036854775807) (hm : m ≤ 9223372036854775807) (hL' : ∀ i, i < m → L' i ≤ 9223372036854775807) (h : PagesAt w a n L Z) (h' : LoosesAt w a' m P T L' Z') :
    Calls Tryz.prog 20 #[.agg #[.slice a n cap, .slice a' m cap'], .int .i64 x] w fun e w' => Below w.heap.size w w' ∧ ∃ r : Int, e = .returned (.int .i64 r) ∧ (r = -1 ∨ (0 ≤ r ∧ r = x - n - sumL L n - m - sumL L' m)) := by
  have HL : Hid (∀ i, i < n → L i ≤ 9223372036854775807) := hL
  have HL' : Hid (∀ i, i < m → L' i ≤ 9223372036854775807) := hL'
  have HA : Hid (PagesAt w a n L Z) := h
  have HA' : Hid (LoosesAt w a' m P T L' Z') := h'
  clear hL hL' h h'
  go_enter Tryz.func20, Tryz.ntmps20
  go_wp2_with fail
  refine (szByteSS_any n L Z a cap x _ hn HL.out (by omega) (by omega) (HA.out.below (below_new _ _))).mono ?_
  rintro e w1 ⟨rfl, r, rfl, hr⟩
  rcases hr with rfl | ⟨hr0, hr1⟩
  · go_wp2
    go_ret
    exact ⟨below_new _ _, _, rfl, .inl rfl⟩
  · have hr2 : r ≤ 1048576 := by omega
    have HR : Hid (r = x - n - sumL L n) := hr1
    clear hr1
    go_wp2_with fail
    refine (szLooseS_any m P T L' Z' a' cap' r _ hm HL'.out hr0 hr2 (HA'.out.below (below_new _ _))).mono ?_
    rintro e w2 ⟨hb, s, rfl, hs⟩
    have HB := below_then (below_new w _) hb
    rcases hs with rfl | ⟨hs0, hs1⟩
    · go_wp2
      go_ret
      exact ⟨HB, _, rfl, .inl rfl⟩
    · have HS : Hid (s = r - m - sumL L' m) := hs1
      clear hs1
      go_wp2
      go_ret
      exact ⟨HB, _, rfl, .inr ⟨hs0, by rw [HS.out, HR.out]⟩⟩
theorem szDisk_x (d : Dk) (a a' : Option Addr) (cap cap' : Nat) (x : Int) (w : World) (h1 : d.n ≤ 9223372036854775807) (h2 : ∀ i, i < d.n → d.L i ≤ 9223372036854775807) (h3 : d.m ≤ 9223372036854775807) (h4 : ∀ i, i < d.m → d.M i ≤ 9223372036854775807) (hx0 : 0 ≤ x) (hx1 : x ≤ 1048576) (h : DiskAt w a a' d) :
    Calls Tryz.prog 20 #[.agg #[.slice a d.n cap, .slice a' d.m cap'], .int .i64 x] w fun e w' => Below w.heap.size w w' ∧ ∃ r : Int, e = .returned (.int .i64 r) ∧ (r = -1 ∨ (0 ≤ r ∧ r = x - d.n - sumL d.L d.n - d.m - sumL d.M d.m)) :=
  szDisk_xx d.n d.m d.L d.Z d.P d.T d.M d.Y a a' cap cap' x w hx0 hx1 h1 h2 h3 h4 h.1 h.2
theorem szLog_x (L : Lo) (a1 a2 : Option Addr) (c1 c2 : Nat) (x : Int) (w : World) (hn1 : L.n1 ≤ 9223372036854775807) (hn2 : L.n2 ≤ 9223372036854775807) (hx0 : 0 ≤ x) (hx1 : x ≤ 1048576) :
    Calls Tryz.prog 21 #[.agg #[.slice a1 L.n1 c1, .slice a2 L.n2 c2], .int .i64 x] w fun e w' => Below w.heap.size w w' ∧ ∃ r : Int, e = .returned (.int .i64 r) ∧ (r = -1 ∨ (0 ≤ r ∧ r = x - L.n1 - L.n2)) := by
  go_enter Tryz.func21, Tryz.ntmps21
  go_wp2_with fail
  refine (szByteS_any L.n1 a1 c1 x _ hn1 (by omega) (by omega)).mono ?_
  rintro e w1 ⟨rfl, rfl⟩
  by_cases h1 : x - L.n1 < 0
  · rw [if_pos h1]
    go_wp2_with fail
    go_ret
    exact ⟨below_new _ _, _, rfl, .inl rfl⟩
  · rw [if_neg h1]
    go_wp2_with fail
    refine (szByteS_any L.n2 a2 c2 (x - L.n1) _ hn2 (by omega) (by omega)).mono ?_
    rintro e w2 ⟨rfl, rfl⟩
    by_cases h2 : x - L.n1 - L.n2 < 0
    · rw [if_pos h2]
      go_wp2_with fail
      go_ret
      exact ⟨below_new _ _, _, rfl, .inl rfl⟩
    · rw [if_neg h2]
      go_wp2_with fail
      go_ret
      exact ⟨below_new _ _, _, rfl, .inr ⟨by omega, rfl⟩⟩
set_option maxHeartbeats 2000000 in
theorem szStore_any (t : Sto) (a0 : Option Addr) (c0 : Nat) (a1 : Option Addr) (c1 : Nat) (a2 : Option Addr) (c2 : Nat) (a3 : Option Addr) (c3 : Nat) (a4 : Option Addr) (c4 : Nat) (a5 : Option Addr) (c5 : Nat) (a6 : Option Addr) (c6 : Nat) (x : Int) (w : World) (hB : BigSt t) (h0 : 0 ≤ x) (h1 : x ≤ 1048576) (h : InSt w a0 a1 a2 a3 a4 a5 a6 t) :
    Calls Tryz.prog 6 #[.agg #[.int .i64 t.nx, .slice a0 t.pn c0, .slice a1 t.d.n c1, .slice a2 t.d.m c2, .slice a3 t.g.n1 c3, .slice a4 t.g.n2 c4, .slice a5 t.hn c5, .slice a6 t.on c6], .int .i64 x] w fun e w' => Below w.heap.size w w' ∧ ∃ r : Int, e = .returned (.int .i64 r) ∧ (r = -1 ∨ (0 ≤ r ∧ r = x - szSt t)) := by
  obtain ⟨hB0, hB1, hB2, hB3, hB4⟩ := hB
  have HA : Hid (InSt w a0 a1 a2 a3 a4 a5 a6 t) := h
  have HZ : Hid (szSt t = t.pn + smPg t.pT t.pn + (t.d.n + sumL t.d.L t.d.n + t.d.m + sumL t.d.M t.d.m) + (t.g.n1 + t.g.n2) + t.hn + t.on) := rfl
  clear h
  go_enter Tryz.func6, Tryz.ntmps6
  go_wp2_with fail
  refine (szPageS_any t.pn t.pT a0 c0 x _ hB0.1 hB0.2 (by omega) (by omega) ((HA.out.1).below (below_new _ _))).mono ?_
  rintro e w1 ⟨hb, r0, rfl, hr⟩
  have HB1 : Hid (Below w.heap.size w w1) := below_then (below_new _ _) hb
  have q1 : w1.cell? ⟨w.heap.size, 2, none⟩ = some (.slice a1 t.d.n c1) := by rw [(bcell29 hb).1 _ _ (by simp)]; simp [go_sem]
  have q2 : w1.cell? ⟨w.heap.size, 3, none⟩ = some (.slice a2 t.d.m c2) := by rw [(bcell29 hb).1 _ _ (by simp)]; simp [go_sem]
  have q3 : w1.cell? ⟨w.heap.size, 4, none⟩ = some (.slice a3 t.g.n1 c3) := by rw [(bcell29 hb).1 _ _ (by simp)]; simp [go_sem]
  have q4 : w1.cell? ⟨w.heap.size, 5, none⟩ = some (.slice a4 t.g.n2 c4) := by rw [(bcell29 hb).1 _ _ (by simp)]; simp [go_sem]
  have q5 : w1.cell? ⟨w.heap.size, 6, none⟩ = some (.slice a5 t.hn c5) := by rw [(bcell29 hb).1 _ _ (by simp)]; simp [go_sem]
  have q6 : w1.cell? ⟨w.heap.size, 7, none⟩ = some (.slice a6 t.on c6) := by rw [(bcell29 hb).1 _ _ (by simp)]; simp [go_sem]
  clear hb
  rcases hr with rfl | ⟨hr0, hr1⟩
  · go_wp2_with fail
    go_ret
    exact ⟨HB1.out, _, rfl, .inl rfl⟩
  have hng0 : ¬ r0 < 0 := by omega
  have HR0 : Hid (r0 = x - t.pn - smPg t.pT t.pn) := hr1
  have hle0 : r0 ≤ 1048576 := by omega
  clear hr1
  go_wp2_with fail
  refine (szDisk_x t.d a1 a2 c1 c2 r0 _ hB1.1 hB1.2.1 hB1.2.2.1 hB1.2.2.2 (by omega) (by omega) ((HA.out.2.1).below HB1.out)).mono ?_
  rintro e w2 ⟨hb, r1, rfl, hr⟩
  have HB2 : Hid (Below w.heap.size w w2) := below_then HB1.out hb
  replace q3 := cell_below q3 hb
  replace q4 := cell_below q4 hb
  replace q5 := cell_below q5 hb
  replace q6 := cell_below q6 hb
  clear hb
  rcases hr with rfl | ⟨hr0, hr1⟩
  · go_wp2_with fail
    go_ret
    exact ⟨HB2.out, _, rfl, .inl rfl⟩
  have hng1 : ¬ r1 < 0 := by omega
  have HR1 : Hid (r1 = r0 - t.d.n - sumL t.d.L t.d.n - t.d.m - sumL t.d.M t.d.m) := hr1
  have hle1 : r1 ≤ 1048576 := by omega
  clear hr1
  go_wp2_with fail
  refine (szLog_x t.g a3 a4 c3 c4 r1 _ hB2.1 hB2.2 (by omega) (by omega)).mono ?_
  rintro e w3 ⟨hb, r2, rfl, hr⟩
  have HB3 : Hid (Below w.heap.size w w3) := below_then HB2.out hb
  replace q5 := cell_below q5 hb
  replace q6 := cell_below q6 hb
  clear hb
  rcases hr with rfl | ⟨hr0, hr1⟩
  · go_wp2_with fail
    go_ret
    exact ⟨HB3.out, _, rfl, .inl rfl⟩
  have hng2 : ¬ r2 < 0 := by omega
  have HR2 : Hid (r2 = r1 - t.g.n1 - t.g.n2) := hr1
  have hle2 : r2 ≤ 1048576 := by omega
  clear hr1
  go_wp2_with fail
  refine (szHeldS_r t.hn a5 c5 r2 _ hB3 (by omega) (by omega)).mono ?_
  rintro e w4 ⟨hb, r3, rfl, hr⟩
  have HB4 : Hid (Below w.heap.size w w4) := below_then HB3.out hb
  replace q6 := cell_below q6 hb
  clear hb
  rcases hr with rfl | ⟨hr0, hr1⟩
  · go_wp2_with fail
    go_ret
    exact ⟨HB4.out, _, rfl, .inl rfl⟩
  have hng3 : ¬ r3 < 0 := by omega
  have HR3 : Hid (r3 = r2 - t.hn) := hr1
  have hle3 : r3 ≤ 1048576 := by omega
  clear hr1
  go_wp2_with fail
  refine (szInt64S_r t.on a6 c6 r3 _ hB4 (by omega) (by omega)).mono ?_
  rintro e w5 ⟨hb, r4, rfl, hr⟩
  have HB5 : Hid (Below w.heap.size w w5) := below_then HB4.out hb
  clear hb
  rcases hr with rfl | ⟨hr0, hr1⟩
  · go_wp2_with fail
    go_ret
    exact ⟨HB5.out, _, rfl, .inl rfl⟩
  have hng4 : ¬ r4 < 0 := by omega
  have HR4 : Hid (r4 = r3 - t.on) := hr1
  have hle4 : r4 ≤ 1048576 := by omega
  clear hr1
  go_wp2_with fail
  go_ret
  exact ⟨HB5.out, _, rfl, .inr ⟨hr0, by have e0 := HR0.out; have e1 := HR1.out; have e2 := HR2.out; have e3 := HR3.out; have e4 := HR4.out; have ez := HZ.out; omega⟩⟩
/-! ### one copied -/
set_option maxHeartbeats 8000000 in
theorem toStore_any (t : Sto) (a0 : Option Addr) (c0 : Nat) (a1 : Option Addr) (c1 : Nat) (a2 : Option Addr) (c2 : Nat) (a3 : Option Addr) (c3 : Nat) (a4 : Option Addr) (c4 : Nat) (a5 : Option Addr) (c5 : Nat) (a6 : Option Addr) (c6 : Nat) (w : World) (hS : SmSt t) (h : InSt w a0 a1 a2 a3 a4 a5 a6 t) :
    Calls Tryz.prog 8 #[.agg #[.int .i64 t.nx, .slice a0 t.pn c0, .slice a1 t.d.n c1, .slice a2 t.d.m c2, .slice a3 t.g.n1 c3, .slice a4 t.g.n2 c4, .slice a5 t.hn c5, .slice a6 t.on c6]] w fun e w' =>
      ∃ B0 B1 B2 B3 B4 B5 B6, e = .returned (.agg #[.int .i64 t.nx, .slice (some ⟨B0, 0, none⟩) t.pn t.pn, .slice (some ⟨B1, 0, none⟩) t.d.n t.d.n, .slice (some ⟨B2, 0, none⟩) t.d.m t.d.m, .slice (some ⟨B3, 0, none⟩) t.g.n1 t.g.n1, .slice (some ⟨B4, 0, none⟩) t.g.n2 t.g.n2, .slice (some ⟨B5, 0, none⟩) t.hn t.hn, .slice (some ⟨B6, 0, none⟩) t.on t.on]) ∧ Below w.heap.size w w' ∧ OwnInSt w' w.heap.size w'.heap.size (some ⟨B0, 0, none⟩) (some ⟨B1, 0, none⟩) (some ⟨B2, 0, none⟩) (some ⟨B3, 0, none⟩) (some ⟨B4, 0, none⟩) (some ⟨B5, 0, none⟩) (some ⟨B6, 0, none⟩) t := by
  obtain ⟨hS0, hS1, hS2, hS3, hS4⟩ := hS
  have HA : Hid (InSt w a0 a1 a2 a3 a4 a5 a6 t) := h
  clear h
  go_enter Tryz.func8, Tryz.ntmps8
  go_wp2_with fail
  have hb0 : ∀ o1 o2 o3, Below w.heap.size w (((w.alloc o1).alloc o2).alloc o3) := fun o1 o2 o3 => (((Below.refl _ _).alloc (Nat.le_refl _) _).alloc (by simp) _).alloc (by simp; omega) _
  refine (toPageS_any t.pn t.pT a0 c0 _ hS0.1 hS0.2.1 ((HA.out.1).below (hb0 _ _ _))).mono ?_
  rintro e w1 ⟨rfl, hb, hr⟩
  obtain ⟨hc, hf⟩ := bcell29 hb
  have hz : w.heap.size + 3 ≤ w1.heap.size := by have := hb.size; simp at this; omega
  have e3 : ∀ o1 o2 o3 : Obj, (((w.alloc o1).alloc o2).alloc o3).heap.size = w.heap.size + 3 := fun _ _ _ => by simp
  rw [e3] at hr
  rw [e3]
  have HR0 : Hid (OwnPg w1 (w.heap.size + 3) w1.heap.size (some ⟨w.heap.size + 3, 0, none⟩) t.pn t.pT) := hr
  have HB1 : Hid (Below w.heap.size w w1) := below_then (hb0 _ _ _) hb
  have r1 : w1.cell? ⟨w.heap.size, 2, none⟩ = some (.slice a1 t.d.n c1) := by rw [hc _ _ (by simp <;> omega)]; simp [go_sem]
  have r2 : w1.cell? ⟨w.heap.size, 3, none⟩ = some (.slice a2 t.d.m c2) := by rw [hc _ _ (by simp <;> omega)]; simp [go_sem]
  have r3 : w1.cell? ⟨w.heap.size, 4, none⟩ = some (.slice a3 t.g.n1 c3) := by rw [hc _ _ (by simp <;> omega)]; simp [go_sem]
  have r4 : w1.cell? ⟨w.heap.size, 5, none⟩ = some (.slice a4 t.g.n2 c4) := by rw [hc _ _ (by simp <;> omega)]; simp [go_sem]
  have r5 : w1.cell? ⟨w.heap.size, 6, none⟩ = some (.slice a5 t.hn c5) := by rw [hc _ _ (by simp <;> omega)]; simp [go_sem]
  have r6 : w1.cell? ⟨w.heap.size, 7, none⟩ = some (.slice a6 t.on c6) := by rw [hc _ _ (by simp <;> omega)]; simp [go_sem]
  have s0 : w1.cell? ⟨w.heap.size + 1, 0, none⟩ = some (.int .i64 0) := by rw [hc _ _ (by simp <;> omega)]; simp [go_sem]
  have s1 : w1.cell? ⟨w.heap.size + 1, 1, none⟩ = some (.slice none 0 0) := by rw [hc _ _ (by simp <;> omega)]; simp [go_sem]
  have s2 : w1.cell? ⟨w.heap.size + 1, 2, none⟩ = some (.slice none 0 0) := by rw [hc _ _ (by simp <;> omega)]; simp [go_sem]
  have s3 : w1.cell? ⟨w.heap.size + 1, 3, none⟩ = some (.slice none 0 0) := by rw [hc _ _ (by simp <;> omega)]; simp [go_sem]
  have s4 : w1.cell? ⟨w.heap.size + 1, 4, none⟩ = some (.slice none 0 0) := by rw [hc _ _ (by simp <;> omega)]; simp [go_sem]
  have s5 : w1.cell? ⟨w.heap.size + 1, 5, none⟩ = some (.slice none 0 0) := by rw [hc _ _ (by simp <;> omega)]; simp [go_sem]
  have s6 : w1.cell? ⟨w.heap.size + 1, 6, none⟩ = some (.slice none 0 0) := by rw [hc _ _ (by simp <;> omega)]; simp [go_sem]
  have s7 : w1.cell? ⟨w.heap.size + 1, 7, none⟩ = some (.slice none 0 0) := by rw [hc _ _ (by simp <;> omega)]; simp [go_sem]
  have x0 : w1.cell? ⟨w.heap.size + 2, 0, none⟩ = some (.int .i64 t.nx) := by rw [hc _ _ (by simp <;> omega)]; simp [go_sem]
  have x1 : w1.cell? ⟨w.heap.size + 2, 1, none⟩ = some (.slice none 0 0) := by rw [hc _ _ (by simp <;> omega)]; simp [go_sem]
  have x2 : w1.cell? ⟨w.heap.size + 2, 2, none⟩ = some (.slice none 0 0) := by rw [hc _ _ (by simp <;> omega)]; simp [go_sem]
  have x3 : w1.cell? ⟨w.heap.size + 2, 3, none⟩ = some (.slice none 0 0) := by rw [hc _ _ (by simp <;> omega)]; simp [go_sem]
  have x4 : w1.cell? ⟨w.heap.size + 2, 4, none⟩ = some (.slice none 0 0) := by rw [hc _ _ (by simp <;> omega)]; simp [go_sem]
  have x5 : w1.cell? ⟨w.heap.size + 2, 5, none⟩ = some (.slice none 0 0) := by rw [hc _ _ (by simp <;> omega)]; simp [go_sem]
  have x6 : w1.cell? ⟨w.heap.size + 2, 6, none⟩ = some (.slice none 0 0) := by rw [hc _ _ (by simp <;> omega)]; simp [go_sem]
  have x7 : w1.cell? ⟨w.heap.size + 2, 7, none⟩ = some (.slice none 0 0) := by rw [hc _ _ (by simp <;> omega)]; simp [go_sem]
  have f1 : ∀ i, w1.frozen? ⟨w.heap.size + 1, i, none⟩ = false := fun i => by rw [hf _ _ (by simp <;> omega)]; simp [go_sem]
  have f2 : ∀ i, w1.frozen? ⟨w.heap.size + 2, i, none⟩ = false := fun i => by rw [hf _ _ (by simp <;> omega)]; simp [go_sem]
  clear hc hf hb hr e3 hb0
  go_upto_region 4 with fail
  obtain ⟨W1, hW⟩ : ∃ y, y = w1.setCell ⟨w.heap.size + 2, 1, none⟩ (.slice (some ⟨w.heap.size + 3, 0, none⟩) t.pn t.pn) := ⟨_, rfl⟩
  replace x0 : W1.cell? ⟨w.heap.size + 2, 0, none⟩ = some (.int .i64 t.nx) := by rw [hW, setO (by omega)]; exact x0
  replace x1 : W1.cell? ⟨w.heap.size + 2, 1, none⟩ = some (.slice (some ⟨w.heap.size + 3, 0, none⟩) t.pn t.pn) := by rw [hW]; exact setS x1
  replace x2 : W1.cell? ⟨w.heap.size + 2, 2, none⟩ = some (.slice none 0 0) := by rw [hW, setO (by omega)]; exact x2
  replace x3 : W1.cell? ⟨w.heap.size + 2, 3, none⟩ = some (.slice none 0 0) := by rw [hW, setO (by omega)]; exact x3
  replace x4 : W1.cell? ⟨w.heap.size + 2, 4, none⟩ = some (.slice none 0 0) := by rw [hW, setO (by omega)]; exact x4
  replace x5 : W1.cell? ⟨w.heap.size + 2, 5, none⟩ = some (.slice none 0 0) := by rw [hW, setO (by omega)]; exact x5
  replace x6 : W1.cell? ⟨w.heap.size + 2, 6, none⟩ = some (.slice none 0 0) := by rw [hW, setO (by omega)]; exact x6
  replace x7 : W1.cell? ⟨w.heap.size + 2, 7, none⟩ = some (.slice none 0 0) := by rw [hW, setO (by omega)]; exact x7
  have far : ∀ b i, b ≠ w.heap.size + 2 → W1.cell? ⟨b, i, none⟩ = w1.cell? ⟨b, i, none⟩ := fun b i hne => by rw [hW]; exact World.cell?_setCell_far _ _ _ _ (Ne.symm hne)
  replace r1 := (far _ _ (by omega)).trans r1
  replace r2 := (far _ _ (by omega)).trans r2
  replace r3 := (far _ _ (by omega)).trans r3
  replace r4 := (far _ _ (by omega)).trans r4
  replace r5 := (far _ _ (by omega)).trans r5
  replace r6 := (far _ _ (by omega)).trans r6
  replace s0 := (far _ _ (by omega)).trans s0
  replace s1 := (far _ _ (by omega)).trans s1
  replace s2 := (far _ _ (by omega)).trans s2
  replace s3 := (far _ _ (by omega)).trans s3
  replace s4 := (far _ _ (by omega)).trans s4
  replace s5 := (far _ _ (by omega)).trans s5
  replace s6 := (far _ _ (by omega)).trans s6
  replace s7 := (far _ _ (by omega)).trans s7
  replace f1 : ∀ i, W1.frozen? ⟨w.heap.size + 1, i, none⟩ = false := fun i => by rw [hW, World.frozen?_setCell]; exact f1 i
  replace f2 : ∀ i, W1.frozen? ⟨w.heap.size + 2, i, none⟩ = false := fun i => by rw [hW, World.frozen?_setCell]; exact f2 i
  have hsz1 : W1.heap.size = w1.heap.size := by rw [hW]; simp [World.setCell]
  have HW : Hid (Writes (w.heap.size) (w.heap.size + 3) w1 W1) := by rw [hW]; exact ((Writes.refl _ _ _).setCell (by simp) (by simp) _)
  rw [← hW]
  clear hW far
  replace HB1 : Hid (Below w.heap.size w W1) := HW.out.below HB1.out (Nat.le_refl _)
  replace HR0 : Hid (OwnPg W1 (w.heap.size + 3) w1.heap.size (some ⟨w.heap.size + 3, 0, none⟩) t.pn t.pT) := HR0.out.writes HW.out (.inr (by omega))
  clear HW
  go_wp2_with fail
  refine (toDisk_any t.d a1 a2 c1 c2 _ hS1 ((HA.out.2.1).below HB1.out)).mono ?_
  rintro e w2 ⟨B1, B2, rfl, hb, hr⟩
  have HB2 : Hid (Below w.heap.size w w2) := below_then HB1.out hb
  rw [hsz1] at hr
  have HR1 : Hid (OwnD w2 w1.heap.size w2.heap.size (some ⟨B1, 0, none⟩) (some ⟨B2, 0, none⟩) t.d) := hr
  replace HR0 : Hid (OwnPg w2 (w.heap.size + 3) w1.heap.size (some ⟨w.heap.size + 3, 0, none⟩) t.pn t.pT) := HR0.out.below hb
  have hz1 : w1.heap.size ≤ w2.heap.size := by have := hb.size; omega
  replace x0 := cell_below x0 hb
  replace x1 := cell_below x1 hb
  replace x2 := cell_below x2 hb
  replace x3 := cell_below x3 hb
  replace x4 := cell_below x4 hb
  replace x5 := cell_below x5 hb
  replace x6 := cell_below x6 hb
  replace x7 := cell_below x7 hb
  replace s0 := cell_below s0 hb
  replace s1 := cell_below s1 hb
  replace s2 := cell_below s2 hb
  replace s3 := cell_below s3 hb
  replace s4 := cell_below s4 hb
  replace s5 := cell_below s5 hb
  replace s6 := cell_below s6 hb
  replace s7 := cell_below s7 hb
  replace r3 := cell_below r3 hb
  replace r4 := cell_below r4 hb
  replace r5 := cell_below r5 hb
  replace r6 := cell_below r6 hb
  replace f1 : ∀ i, w2.frozen? ⟨w.heap.size + 1, i, none⟩ = false := fun i => (hb.frozen (p := ⟨_, i, none⟩) (by show w.heap.size + 1 < W1.heap.size; omega)).trans (f1 i)
  replace f2 : ∀ i, w2.frozen? ⟨w.heap.size + 2, i, none⟩ = false := fun i => (hb.frozen (p := ⟨_, i, none⟩) (by show w.heap.size + 2 < W1.heap.size; omega)).trans (f2 i)
  clear hb hr hsz1 HB1
  go_upto_region 5 with fail
  obtain ⟨W2, hW⟩ : ∃ y, y = (w2.setCell ⟨w.heap.size + 2, 2, none⟩ (.slice (some ⟨B1, 0, none⟩) t.d.n t.d.n)).setCell ⟨w.heap.size + 2, 3, none⟩ (.slice (some ⟨B2, 0, none⟩) t.d.m t.d.m) := ⟨_, rfl⟩
  replace x0 : W2.cell? ⟨w.heap.size + 2, 0, none⟩ = some (.int .i64 t.nx) := by rw [hW, setO (by omega), setO (by omega)]; exact x0
  replace x1 : W2.cell? ⟨w.heap.size + 2, 1, none⟩ = some (.slice (some ⟨w.heap.size + 3, 0, none⟩) t.pn t.pn) := by rw [hW, setO (by omega), setO (by omega)]; exact x1
  replace x2 : W2.cell? ⟨w.heap.size + 2, 2, none⟩ = some (.slice (some ⟨B1, 0, none⟩) t.d.n t.d.n) := by rw [hW, setO (by omega)]; exact setS x2
  replace x3 : W2.cell? ⟨w.heap.size + 2, 3, none⟩ = some (.slice (some ⟨B2, 0, none⟩) t.d.m t.d.m) := by rw [hW]; exact setS (by rw [setO (by omega)]; exact x3)
  replace x4 : W2.cell? ⟨w.heap.size + 2, 4, none⟩ = some (.slice none 0 0) := by rw [hW, setO (by omega), setO (by omega)]; exact x4
  replace x5 : W2.cell? ⟨w.heap.size + 2, 5, none⟩ = some (.slice none 0 0) := by rw [hW, setO (by omega), setO (by omega)]; exact x5
  replace x6 : W2.cell? ⟨w.heap.size + 2, 6, none⟩ = some (.slice none 0 0) := by rw [hW, setO (by omega), setO (by omega)]; exact x6
  replace x7 : W2.cell? ⟨w.heap.size + 2, 7, none⟩ = some (.slice none 0 0) := by rw [hW, setO (by omega), setO (by omega)]; exact x7
  have far : ∀ b i, b ≠ w.heap.size + 2 → W2.cell? ⟨b, i, none⟩ = w2.cell? ⟨b, i, none⟩ := fun b i hne => by rw [hW, World.cell?_setCell_far _ _ _ _ (Ne.symm hne)]; exact World.cell?_setCell_far _ _ _ _ (Ne.symm hne)
  replace r3 := (far _ _ (by omega)).trans r3
  replace r4 := (far _ _ (by omega)).trans r4
  replace r5 := (far _ _ (by omega)).trans r5
  replace r6 := (far _ _ (by omega)).trans r6
  replace s0 := (far _ _ (by omega)).trans s0
  replace s1 := (far _ _ (by omega)).trans s1
  replace s2 := (far _ _ (by omega)).trans s2
  replace s3 := (far _ _ (by omega)).trans s3
  replace s4 := (far _ _ (by omega)).trans s4
  replace s5 := (far _ _ (by omega)).trans s5
  replace s6 := (far _ _ (by omega)).trans s6
  replace s7 := (far _ _ (by omega)).trans s7
  replace f1 : ∀ i, W2.frozen? ⟨w.heap.size + 1, i, none⟩ = false := fun i => by rw [hW, World.frozen?_setCell, World.frozen?_setCell]; exact f1 i
  replace f2 : ∀ i, W2.frozen? ⟨w.heap.size + 2, i, none⟩ = false := fun i => by rw [hW, World.frozen?_setCell, World.frozen?_setCell]; exact f2 i
  have hsz2 : W2.heap.size = w2.heap.size := by rw [hW]; simp [World.setCell]
  have HW : Hid (Writes (w.heap.size) (w.heap.size + 3) w2 W2) := by rw [hW]; exact (((Writes.refl _ _ _).setCell (by simp) (by simp) _).setCell (by simp) (by simp) _)
  rw [← hW]
  clear hW far
  replace HB2 : Hid (Below w.heap.size w W2) := HW.out.below HB2.out (Nat.le_refl _)
  replace HR0 : Hid (OwnPg W2 (w.heap.size + 3) w1.heap.size (some ⟨w.heap.size + 3, 0, none⟩) t.pn t.pT) := HR0.out.writes HW.out (.inr (by omega))
  replace HR1 : Hid (OwnD W2 w1.heap.size w2.heap.size (some ⟨B1, 0, none⟩) (some ⟨B2, 0, none⟩) t.d) := HR1.out.writes HW.out (.inr (by omega))
  clear HW
  go_wp2_with fail
  refine (toLog_any t.g a3 a4 c3 c4 _ hS2.1 hS2.2 ((HA.out.2.2.1).below HB2.out)).mono ?_
  rintro e w3 ⟨B3, B4, rfl, hb, hr⟩
  have HB3 : Hid (Below w.heap.size w w3) := below_then HB2.out hb
  rw [hsz2] at hr
  have HR2 : Hid (OwnG w3 w2.heap.size w3.heap.size (some ⟨B3, 0, none⟩) (some ⟨B4, 0, none⟩) t.g) := hr
  replace HR0 : Hid (OwnPg w3 (w.heap.size + 3) w1.heap.size (some ⟨w.heap.size + 3, 0, none⟩) t.pn t.pT) := HR0.out.below hb
  replace HR1 : Hid (OwnD w3 w1.heap.size w2.heap.size (some ⟨B1, 0, none⟩) (some ⟨B2, 0, none⟩) t.d) := HR1.out.below hb
  have hz2 : w2.heap.size ≤ w3.heap.size := by have := hb.size; omega
  replace x0 := cell_below x0 hb
  replace x1 := cell_below x1 hb
  replace x2 := cell_below x2 hb
  replace x3 := cell_below x3 hb
  replace x4 := cell_below x4 hb
  replace x5 := cell_below x5 hb
  replace x6 := cell_below x6 hb
  replace x7 := cell_below x7 hb
  replace s0 := cell_below s0 hb
  replace s1 := cell_below s1 hb
  replace s2 := cell_below s2 hb
  replace s3 := cell_below s3 hb
  replace s4 := cell_below s4 hb
  replace s5 := cell_below s5 hb
  replace s6 := cell_below s6 hb
  replace s7 := cell_below s7 hb
  replace r5 := cell_below r5 hb
  replace r6 := cell_below r6 hb
  replace f1 : ∀ i, w3.frozen? ⟨w.heap.size + 1, i, none⟩ = false := fun i => (hb.frozen (p := ⟨_, i, none⟩) (by show w.heap.size + 1 < W2.heap.size; omega)).trans (f1 i)
  replace f2 : ∀ i, w3.frozen? ⟨w.heap.size + 2, i, none⟩ = false := fun i => (hb.frozen (p := ⟨_, i, none⟩) (by show w.heap.size + 2 < W2.heap.size; omega)).trans (f2 i)
  clear hb hr hsz2 HB2
  go_upto_region 6 with fail
  obtain ⟨W3, hW⟩ : ∃ y, y = (w3.setCell ⟨w.heap.size + 2, 4, none⟩ (.slice (some ⟨B3, 0, none⟩) t.g.n1 t.g.n1)).setCell ⟨w.heap.size + 2, 5, none⟩ (.slice (some ⟨B4, 0, none⟩) t.g.n2 t.g.n2) := ⟨_, rfl⟩
  replace x0 : W3.cell? ⟨w.heap.size + 2, 0, none⟩ = some (.int .i64 t.nx) := by rw [hW, setO (by omega), setO (by omega)]; exact x0
  replace x1 : W3.cell? ⟨w.heap.size + 2, 1, none⟩ = some (.slice (some ⟨w.heap.size + 3, 0, none⟩) t.pn t.pn) := by rw [hW, setO (by omega), setO (by omega)]; exact x1
  replace x2 : W3.cell? ⟨w.heap.size + 2, 2, none⟩ = some (.slice (some ⟨B1, 0, none⟩) t.d.n t.d.n) := by rw [hW, setO (by omega), setO (by omega)]; exact x2
  replace x3 : W3.cell? ⟨w.heap.size + 2, 3, none⟩ = some (.slice (some ⟨B2, 0, none⟩) t.d.m t.d.m) := by rw [hW, setO (by omega), setO (by omega)]; exact x3
  replace x4 : W3.cell? ⟨w.heap.size + 2, 4, none⟩ = some (.slice (some ⟨B3, 0, none⟩) t.g.n1 t.g.n1) := by rw [hW, setO (by omega)]; exact setS x4
  replace x5 : W3.cell? ⟨w.heap.size + 2, 5, none⟩ = some (.slice (some ⟨B4, 0, none⟩) t.g.n2 t.g.n2) := by rw [hW]; exact setS (by rw [setO (by omega)]; exact x5)
  replace x6 : W3.cell? ⟨w.heap.size + 2, 6, none⟩ = some (.slice none 0 0) := by rw [hW, setO (by omega), setO (by omega)]; exact x6
  replace x7 : W3.cell? ⟨w.heap.size + 2, 7, none⟩ = some (.slice none 0 0) := by rw [hW, setO (by omega), setO (by omega)]; exact x7
  have far : ∀ b i, b ≠ w.heap.size + 2 → W3.cell? ⟨b, i, none⟩ = w3.cell? ⟨b, i, none⟩ := fun b i hne => by rw [hW, World.cell?_setCell_far _ _ _ _ (Ne.symm hne)]; exact World.cell?_setCell_far _ _ _ _ (Ne.symm hne)
  replace r5 := (far _ _ (by omega)).trans r5
  replace r6 := (far _ _ (by omega)).trans r6
  replace s0 := (far _ _ (by omega)).trans s0
  replace s1 := (far _ _ (by omega)).trans s1
  replace s2 := (far _ _ (by omega)).trans s2
  replace s3 := (far _ _ (by omega)).trans s3
  replace s4 := (far _ _ (by omega)).trans s4
  replace s5 := (far _ _ (by omega)).trans s5
  replace s6 := (far _ _ (by omega)).trans s6
  replace s7 := (far _ _ (by omega)).trans s7
  replace f1 : ∀ i, W3.frozen? ⟨w.heap.size + 1, i, none⟩ = false := fun i => by rw [hW, World.frozen?_setCell, World.frozen?_setCell]; exact f1 i
  replace f2 : ∀ i, W3.frozen? ⟨w.heap.size + 2, i, none⟩ = false := fun i => by rw [hW, World.frozen?_setCell, World.frozen?_setCell]; exact f2 i
  have hsz3 : W3.heap.size = w3.heap.size := by rw [hW]; simp [World.setCell]
  have HW : Hid (Writes (w.heap.size) (w.heap.size + 3) w3 W3) := by rw [hW]; exact (((Writes.refl _ _ _).setCell (by simp) (by simp) _).setCell (by simp) (by simp) _)
  rw [← hW]
  clear hW far
  replace HB3 : Hid (Below w.heap.size w W3) := HW.out.below HB3.out (Nat.le_refl _)
  replace HR0 : Hid (OwnPg W3 (w.heap.size + 3) w1.heap.size (some ⟨w.heap.size + 3, 0, none⟩) t.pn t.pT) := HR0.out.writes HW.out (.inr (by omega))
  replace HR1 : Hid (OwnD W3 w1.heap.size w2.heap.size (some ⟨B1, 0, none⟩) (some ⟨B2, 0, none⟩) t.d) := HR1.out.writes HW.out (.inr (by omega))
  replace HR2 : Hid (OwnG W3 w2.heap.size w3.heap.size (some ⟨B3, 0, none⟩) (some ⟨B4, 0, none⟩) t.g) := HR2.out.writes HW.out (.inr (by omega))
  clear HW
  go_wp2_with fail
  refine (toHeldS_own t.hn t.hK t.hV a5 c5 _ hS3 ((HA.out.2.2.2.1).below HB3.out)).mono ?_
  rintro e w4 ⟨B5, rfl, hb, hr⟩
  have HB4 : Hid (Below w.heap.size w w4) := below_then HB3.out hb
  rw [hsz3] at hr
  have HR3 : Hid (Own w4 w3.heap.size w4.heap.size (some ⟨B5, 0, none⟩) t.hn t.hK t.hV) := hr
  replace HR0 : Hid (OwnPg w4 (w.heap.size + 3) w1.heap.size (some ⟨w.heap.size + 3, 0, none⟩) t.pn t.pT) := HR0.out.below hb
  replace HR1 : Hid (OwnD w4 w1.heap.size w2.heap.size (some ⟨B1, 0, none⟩) (some ⟨B2, 0, none⟩) t.d) := HR1.out.below hb
  replace HR2 : Hid (OwnG w4 w2.heap.size w3.heap.size (some ⟨B3, 0, none⟩) (some ⟨B4, 0, none⟩) t.g) := HR2.out.below hb
  have hz3 : w3.heap.size ≤ w4.heap.size := by have := hb.size; omega
  replace x0 := cell_below x0 hb
  replace x1 := cell_below x1 hb
  replace x2 := cell_below x2 hb
  replace x3 := cell_below x3 hb
  replace x4 := cell_below x4 hb
  replace x5 := cell_below x5 hb
  replace x6 := cell_below x6 hb
  replace x7 := cell_below x7 hb
  replace s0 := cell_below s0 hb
  replace s1 := cell_below s1 hb
  replace s2 := cell_below s2 hb
  replace s3 := cell_below s3 hb
  replace s4 := cell_below s4 hb
  replace s5 := cell_below s5 hb
  replace s6 := cell_below s6 hb
  replace s7 := cell_below s7 hb
  replace r6 := cell_below r6 hb
  replace f1 : ∀ i, w4.frozen? ⟨w.heap.size + 1, i, none⟩ = false := fun i => (hb.frozen (p := ⟨_, i, none⟩) (by show w.heap.size + 1 < W3.heap.size; omega)).trans (f1 i)
  replace f2 : ∀ i, w4.frozen? ⟨w.heap.size + 2, i, none⟩ = false := fun i => (hb.frozen (p := ⟨_, i, none⟩) (by show w.heap.size + 2 < W3.heap.size; omega)).trans (f2 i)
  clear hb hr hsz3 HB3
  go_upto_region 7 with fail
  obtain ⟨W4, hW⟩ : ∃ y, y = w4.setCell ⟨w.heap.size + 2, 6, none⟩ (.slice (some ⟨B5, 0, none⟩) t.hn t.hn) := ⟨_, rfl⟩
  replace x0 : W4.cell? ⟨w.heap.size + 2, 0, none⟩ = some (.int .i64 t.nx) := by rw [hW, setO (by omega)]; exact x0
  replace x1 : W4.cell? ⟨w.heap.size + 2, 1, none⟩ = some (.slice (some ⟨w.heap.size + 3, 0, none⟩) t.pn t.pn) := by rw [hW, setO (by omega)]; exact x1
  replace x2 : W4.cell? ⟨w.heap.size + 2, 2, none⟩ = some (.slice (some ⟨B1, 0, none⟩) t.d.n t.d.n) := by rw [hW, setO (by omega)]; exact x2
  replace x3 : W4.cell? ⟨w.heap.size + 2, 3, none⟩ = some (.slice (some ⟨B2, 0, none⟩) t.d.m t.d.m) := by rw [hW, setO (by omega)]; exact x3
  replace x4 : W4.cell? ⟨w.heap.size + 2, 4, none⟩ = some (.slice (some ⟨B3, 0, none⟩) t.g.n1 t.g.n1) := by rw [hW, setO (by omega)]; exact x4
  replace x5 : W4.cell? ⟨w.heap.size + 2, 5, none⟩ = some (.slice (some ⟨B4, 0, none⟩) t.g.n2 t.g.n2) := by rw [hW, setO (by omega)]; exact x5
  replace x6 : W4.cell? ⟨w.heap.size + 2, 6, none⟩ = some (.slice (some ⟨B5, 0, none⟩) t.hn t.hn) := by rw [hW]; exact setS x6
  replace x7 : W4.cell? ⟨w.heap.size + 2, 7, none⟩ = some (.slice none 0 0) := by rw [hW, setO (by omega)]; exact x7
  have far : ∀ b i, b ≠ w.heap.size + 2 → W4.cell? ⟨b, i, none⟩ = w4.cell? ⟨b, i, none⟩ := fun b i hne => by rw [hW]; exact World.cell?_setCell_far _ _ _ _ (Ne.symm hne)
  replace r6 := (far _ _ (by omega)).trans r6
  replace s0 := (far _ _ (by omega)).trans s0
  replace s1 := (far _ _ (by omega)).trans s1
  replace s2 := (far _ _ (by omega)).trans s2
  replace s3 := (far _ _ (by omega)).trans s3
  replace s4 := (far _ _ (by omega)).trans s4
  replace s5 := (far _ _ (by omega)).trans s5
  replace s6 := (far _ _ (by omega)).trans s6
  replace s7 := (far _ _ (by omega)).trans s7
  replace f1 : ∀ i, W4.frozen? ⟨w.heap.size + 1, i, none⟩ = false := fun i => by rw [hW, World.frozen?_setCell]; exact f1 i
  replace f2 : ∀ i, W4.frozen? ⟨w.heap.size + 2, i, none⟩ = false := fun i => by rw [hW, World.frozen?_setCell]; exact f2 i
  have hsz4 : W4.heap.size = w4.heap.size := by rw [hW]; simp [World.setCell]
  have HW : Hid (Writes (w.heap.size) (w.heap.size + 3) w4 W4) := by rw [hW]; exact ((Writes.refl _ _ _).setCell (by simp) (by simp) _)
  rw [← hW]
  clear hW far
  replace HB4 : Hid (Below w.heap.size w W4) := HW.out.below HB4.out (Nat.le_refl _)
  replace HR0 : Hid (OwnPg W4 (w.heap.size + 3) w1.heap.size (some ⟨w.heap.size + 3, 0, none⟩) t.pn t.pT) := HR0.out.writes HW.out (.inr (by omega))
  replace HR1 : Hid (OwnD W4 w1.heap.size w2.heap.size (some ⟨B1, 0, none⟩) (some ⟨B2, 0, none⟩) t.d) := HR1.out.writes HW.out (.inr (by omega))
  replace HR2 : Hid (OwnG W4 w2.heap.size w3.heap.size (some ⟨B3, 0, none⟩) (some ⟨B4, 0, none⟩) t.g) := HR2.out.writes HW.out (.inr (by omega))
  replace HR3 : Hid (Own W4 w3.heap.size w4.heap.size (some ⟨B5, 0, none⟩) t.hn t.hK t.hV) := HR3.out.writes HW.out (.inr (by omega))
  clear HW
  go_wp2_with fail
  refine (toInt64S_own t.on t.oF a6 c6 _ hS4 ((HA.out.2.2.2.2).below HB4.out)).mono ?_
  rintro e w5 ⟨B6, rfl, hb, hr⟩
  have HB5 : Hid (Below w.heap.size w w5) := below_then HB4.out hb
  rw [hsz4] at hr
  have HR4 : Hid (OwnI w5 w4.heap.size w5.heap.size (some ⟨B6, 0, none⟩) t.on t.oF) := hr
  replace HR0 : Hid (OwnPg w5 (w.heap.size + 3) w1.heap.size (some ⟨w.heap.size + 3, 0, none⟩) t.pn t.pT) := HR0.out.below hb
  replace HR1 : Hid (OwnD w5 w1.heap.size w2.heap.size (some ⟨B1, 0, none⟩) (some ⟨B2, 0, none⟩) t.d) := HR1.out.below hb
  replace HR2 : Hid (OwnG w5 w2.heap.size w3.heap.size (some ⟨B3, 0, none⟩) (some ⟨B4, 0, none⟩) t.g) := HR2.out.below hb
  replace HR3 : Hid (Own w5 w3.heap.size w4.heap.size (some ⟨B5, 0, none⟩) t.hn t.hK t.hV) := HR3.out.below hb
  have hz4 : w4.heap.size ≤ w5.heap.size := by have := hb.size; omega
  replace x0 := cell_below x0 hb
  replace x1 := cell_below x1 hb
  replace x2 := cell_below x2 hb
  replace x3 := cell_below x3 hb
  replace x4 := cell_below x4 hb
  replace x5 := cell_below x5 hb
  replace x6 := cell_below x6 hb
  replace x7 := cell_below x7 hb
  replace s0 := cell_below s0 hb
  replace s1 := cell_below s1 hb
  replace s2 := cell_below s2 hb
  replace s3 := cell_below s3 hb
  replace s4 := cell_below s4 hb
  replace s5 := cell_below s5 hb
  replace s6 := cell_below s6 hb
  replace s7 := cell_below s7 hb
  replace f1 : ∀ i, w5.frozen? ⟨w.heap.size + 1, i, none⟩ = false := fun i => (hb.frozen (p := ⟨_, i, none⟩) (by show w.heap.size + 1 < W4.heap.size; omega)).trans (f1 i)
  replace f2 : ∀ i, w5.frozen? ⟨w.heap.size + 2, i, none⟩ = false := fun i => (hb.frozen (p := ⟨_, i, none⟩) (by show w.heap.size + 2 < W4.heap.size; omega)).trans (f2 i)
  clear hb hr hsz4 HB4
  have HWW : Hid (∀ w', Writes w.heap.size (w.heap.size + 3) w5 w' → w'.heap.size = w5.heap.size → Below w.heap.size w w' ∧ OwnInSt w' w.heap.size w'.heap.size (some ⟨w.heap.size + 3, 0, none⟩) (some ⟨B1, 0, none⟩) (some ⟨B2, 0, none⟩) (some ⟨B3, 0, none⟩) (some ⟨B4, 0, none⟩) (some ⟨B5, 0, none⟩) (some ⟨B6, 0, none⟩) t) := fun w' h e =>
    ⟨h.below HB5.out (Nat.le_refl _), w.heap.size + 3, w1.heap.size, w2.heap.size, w3.heap.size, w4.heap.size, w5.heap.size, by omega, by omega, by omega, by omega, by omega, by omega, by omega, Nat.le_refl _, HR0.out.writes h (.inr (by omega)), HR1.out.writes h (.inr (by omega)), HR2.out.writes h (.inr (by omega)), HR3.out.writes h (.inr (by omega)), HR4.out.writes h (.inr (by omega))⟩
  clear HR0 HR1 HR2 HR3 HR4
  go_wp2_with fail
  refine bodyPost_ret (v := .agg #[.int .i64 t.nx, .slice (some ⟨w.heap.size + 3, 0, none⟩) t.pn t.pn, .slice (some ⟨B1, 0, none⟩) t.d.n t.d.n, .slice (some ⟨B2, 0, none⟩) t.d.m t.d.m, .slice (some ⟨B3, 0, none⟩) t.g.n1 t.g.n1, .slice (some ⟨B4, 0, none⟩) t.g.n2 t.g.n2, .slice (some ⟨B5, 0, none⟩) t.hn t.hn, .slice (some ⟨B6, 0, none⟩) t.on t.on]) (by simp [results, Tryz.results8, go_sem, s0, s1, s2, s3, s4, s5, s6, s7]) rfl ⟨_, _, _, _, _, _, _, rfl, ?_⟩
  refine HWW.out _ ?_ (by simp [World.setCell])
  repeat (first | with_reducible exact Writes.refl _ _ _ | with_reducible refine Writes.setCell ?_ (by first | omega | (simp <;> omega)) (by first | omega | (simp <;> omega)) _)
/-! ### equal -/
set_option maxHeartbeats 2000000 in
theorem eqStore_same (t : Sto) (a0 : Option Addr) (c0 : Nat) (a1 : Option Addr) (c1 : Nat) (a2 : Option Addr) (c2 : Nat) (a3 : Option Addr) (c3 : Nat) (a4 : Option Addr) (c4 : Nat) (a5 : Option Addr) (c5 : Nat) (a6 : Option Addr) (c6 : Nat) (d0 : Option Addr) (e0 : Nat) (d1 : Option Addr) (e1 : Nat) (d2 : Option Addr) (e2 : Nat) (d3 : Option Addr) (e3 : Nat) (d4 : Option Addr) (e4 : Nat) (d5 : Option Addr) (e5 : Nat) (d6 : Option Addr) (e6 : Nat) (w : World) (hS : SmSt t) (h : InSt w a0 a1 a2 a3 a4 a5 a6 t) (h' : InSt w d0 d1 d2 d3 d4 d5 d6 t) :
    Calls Tryz.prog 11 #[.agg #[.int .i64 t.nx, .slice a0 t.pn c0, .slice a1 t.d.n c1, .slice a2 t.d.m c2, .slice a3 t.g.n1 c3, .slice a4 t.g.n2 c4, .slice a5 t.hn c5, .slice a6 t.on c6], .agg #[.int .i64 t.nx, .slice d0 t.pn e0, .slice d1 t.d.n e1, .slice d2 t.d.m e2, .slice d3 t.g.n1 e3, .slice d4 t.g.n2 e4, .slice d5 t.hn e5, .slice d6 t.on e6]] w fun e w' => e = .returned (.bool true) ∧ Below w.heap.size w w' := by
  obtain ⟨hS0, hS1, hS2, hS3, hS4⟩ := hS
  have HA : Hid (InSt w a0 a1 a2 a3 a4 a5 a6 t) := h
  have HD : Hid (InSt w d0 d1 d2 d3 d4 d5 d6 t) := h'
  clear h h'
  have hne0 : (t.nx != t.nx) = false := by simp
  have hb0 : ∀ o1 o2, Below w.heap.size w ((w.alloc o1).alloc o2) := fun o1 o2 => (((Below.refl _ _).alloc (Nat.le_refl _) _).alloc (by simp) _)
  go_enter Tryz.func11, Tryz.ntmps11
  go_wp2_with fail
  refine (eqPageS_any t.pn t.pT a0 d0 c0 e0 _ hS0.1 hS0.2.1 ((HA.out.1).below (hb0 _ _)) ((HD.out.1).below (hb0 _ _))).mono ?_
  rintro e w1 ⟨rfl, hb⟩
  have HB1 : Hid (Below w.heap.size w w1) := below_then (hb0 _ _) hb
  have q1 : w1.cell? ⟨w.heap.size, 2, none⟩ = some (.slice a1 t.d.n c1) := by rw [(bcell29 hb).1 _ _ (by simp <;> omega)]; simp [go_sem]
  have y1 : w1.cell? ⟨w.heap.size + 1, 2, none⟩ = some (.slice d1 t.d.n e1) := by rw [(bcell29 hb).1 _ _ (by simp <;> omega)]; simp [go_sem]
  have q2 : w1.cell? ⟨w.heap.size, 3, none⟩ = some (.slice a2 t.d.m c2) := by rw [(bcell29 hb).1 _ _ (by simp <;> omega)]; simp [go_sem]
  have y2 : w1.cell? ⟨w.heap.size + 1, 3, none⟩ = some (.slice d2 t.d.m e2) := by rw [(bcell29 hb).1 _ _ (by simp <;> omega)]; simp [go_sem]
  have q3 : w1.cell? ⟨w.heap.size, 4, none⟩ = some (.slice a3 t.g.n1 c3) := by rw [(bcell29 hb).1 _ _ (by simp <;> omega)]; simp [go_sem]
  have y3 : w1.cell? ⟨w.heap.size + 1, 4, none⟩ = some (.slice d3 t.g.n1 e3) := by rw [(bcell29 hb).1 _ _ (by simp <;> omega)]; simp [go_sem]
  have q4 : w1.cell? ⟨w.heap.size, 5, none⟩ = some (.slice a4 t.g.n2 c4) := by rw [(bcell29 hb).1 _ _ (by simp <;> omega)]; simp [go_sem]
  have y4 : w1.cell? ⟨w.heap.size + 1, 5, none⟩ = some (.slice d4 t.g.n2 e4) := by rw [(bcell29 hb).1 _ _ (by simp <;> omega)]; simp [go_sem]
  have q5 : w1.cell? ⟨w.heap.size, 6, none⟩ = some (.slice a5 t.hn c5) := by rw [(bcell29 hb).1 _ _ (by simp <;> omega)]; simp [go_sem]
  have y5 : w1.cell? ⟨w.heap.size + 1, 6, none⟩ = some (.slice d5 t.hn e5) := by rw [(bcell29 hb).1 _ _ (by simp <;> omega)]; simp [go_sem]
  have q6 : w1.cell? ⟨w.heap.size, 7, none⟩ = some (.slice a6 t.on c6) := by rw [(bcell29 hb).1 _ _ (by simp <;> omega)]; simp [go_sem]
  have y6 : w1.cell? ⟨w.heap.size + 1, 7, none⟩ = some (.slice d6 t.on e6) := by rw [(bcell29 hb).1 _ _ (by simp <;> omega)]; simp [go_sem]
  clear hb
  clear hb0
  go_wp2_with fail
  refine (eqDisk_same t.d a1 a2 d1 d2 c1 c2 e1 e2 _ hS1 ((HA.out.2.1).below HB1.out) ((HD.out.2.1).below HB1.out)).mono ?_
  rintro e w2 ⟨rfl, hb⟩
  have HB2 : Hid (Below w.heap.size w w2) := below_then HB1.out hb
  replace q3 := cell_below q3 hb
  replace y3 := cell_below y3 hb
  replace q4 := cell_below q4 hb
  replace y4 := cell_below y4 hb
  replace q5 := cell_below q5 hb
  replace y5 := cell_below y5 hb
  replace q6 := cell_below q6 hb
  replace y6 := cell_below y6 hb
  clear hb
  go_wp2_with fail
  refine (eqLog_same t.g a3 a4 d3 d4 c3 c4 e3 e4 _ hS2.1 hS2.2 ((HA.out.2.2.1).below HB2.out) ((HD.out.2.2.1).below HB2.out)).mono ?_
  rintro e w3 ⟨rfl, hb⟩
  have HB3 : Hid (Below w.heap.size w w3) := below_then HB2.out hb
  replace q5 := cell_below q5 hb
  replace y5 := cell_below y5 hb
  replace q6 := cell_below q6 hb
  replace y6 := cell_below y6 hb
  clear hb
  go_wp2_with fail
  refine (eqHeldS_any t.hn t.hK t.hV a5 d5 c5 e5 _ (by omega) ((HA.out.2.2.2.1).below HB3.out) ((HD.out.2.2.2.1).below HB3.out)).mono ?_
  rintro e w4 ⟨rfl, hb⟩
  have HB4 : Hid (Below w.heap.size w w4) := below_then HB3.out hb
  replace q6 := cell_below q6 hb
  replace y6 := cell_below y6 hb
  clear hb
  go_wp2_with fail
  refine (eqInt64S_any t.on t.oF a6 d6 c6 e6 _ (by omega) ((HA.out.2.2.2.2).below HB4.out) ((HD.out.2.2.2.2).below HB4.out)).mono ?_
  rintro e w5 ⟨rfl, hb⟩
  have HB5 : Hid (Below w.heap.size w w5) := below_then HB4.out hb
  clear hb
  go_wp2_with fail
  go_ret
  exact ⟨rfl, HB5.out⟩
/-! ### opened -/
theorem cellsStore : Tryz.prog.cellsOf 33 = 8 := by kernel_rfl
theorem cellsPageS : Tryz.prog.cellsOf 22 = 1 := by kernel_rfl
theorem cellsHeldS : Tryz.prog.cellsOf 30 = 1 := by kernel_rfl
theorem cellsIntS : Tryz.prog.cellsOf 31 = 1 := by kernel_rfl
theorem cellsByteSS : Tryz.prog.cellsOf 23 = 1 := by kernel_rfl
theorem cellsLooseS : Tryz.prog.cellsOf 24 = 1 := by kernel_rfl
def upd {α : Type} (f : Nat → α) (j : Nat) (x : α) (i : Nat) : α := if i = j then x else f i
theorem upd_eq {α : Type} (f : Nat → α) (j : Nat) (x : α) : upd f j x j = x := by simp [upd]
theorem upd_ne {α : Type} (f : Nat → α) {j i : Nat} (x : α) (h : i ≠ j) : upd f j x i = f i := by simp [upd, h]
/-- One page of them, and what a change of its bytes alone leaves. -/
theorem OwnP.pick {w : World} {lo hi : Nat} {a : Option Addr} {n : Nat} {L : Nat → Nat} {Z : Nat → Nat → Int} (h : OwnP w lo hi a n L Z) {j : Nat} (hj : j < n) :
    ∃ b off g o c, a = some ⟨b, off, none⟩ ∧ w.cell? ⟨b, off + j, none⟩ = some (.slice (some ⟨g, o, none⟩) (L j) c) ∧ lo ≤ g ∧ g < hi ∧ Row1 w g o (L j) (Z j) ∧
      ∀ w1 z, Writes g (g + 1) w w1 → Row1 w1 g o (L j) z → OwnP w1 lo hi a n L (upd Z j z) := by
  obtain ⟨h0, h1 | ⟨b, off, ha, hlo, hl, g, o, c, hinj, hc⟩⟩ := h
  · omega
  obtain ⟨k0, k1, k2, k3, k4, -⟩ := hc j hj
  refine ⟨b, off, g j, o j, c j, ha, k3, k1, k2, k4, fun w1 z hw hr => ⟨Nat.le_trans h0 hw.size, .inr ⟨b, off, ha, hlo, hl, g, o, c, hinj, fun i hi => ?_⟩⟩⟩
  obtain ⟨m0, m1, m2, m3, m4, mc⟩ := hc i hi
  refine ⟨m0, m1, m2, (hw.cell (by omega) (by omega) _).trans m3, ?_, mc⟩
  by_cases e : i = j
  · subst e; rw [upd_eq]; exact hr
  · rw [upd_ne _ _ e]
    have : g i ≠ g j := fun q => e (hinj i j hi hj q)
    exact m4.block (hw.block _ (by omega) (by omega))
theorem OwnL.pick {w : World} {lo hi : Nat} {a : Option Addr} {n : Nat} {P T : Nat → Int} {L : Nat → Nat} {Z : Nat → Nat → Int} (h : OwnL w lo hi a n P T L Z) {j : Nat} (hj : j < n) :
    ∃ b off g o c, a = some ⟨b, off, none⟩ ∧ lo ≤ b ∧ b < hi ∧ g ≠ b ∧ w.cell? ⟨b, off + j * 3, none⟩ = some (.int .i64 (P j)) ∧ w.cell? ⟨b, off + j * 3 + 1, none⟩ = some (.int .i64 (T j)) ∧ w.cell? ⟨b, off + j * 3 + 2, none⟩ = some (.slice (some ⟨g, o, none⟩) (L j) c) ∧
      w.frozen? ⟨b, off + j * 3, none⟩ = false ∧ w.frozen? ⟨b, off + j * 3 + 1, none⟩ = false ∧ lo ≤ g ∧ g < hi ∧ Row1 w g o (L j) (Z j) ∧
      ∀ p t w1 z, Writes g (g + 1) ((w.setCell ⟨b, off + j * 3, none⟩ (.int .i64 p)).setCell ⟨b, off + j * 3 + 1, none⟩ (.int .i64 t)) w1 → Row1 w1 g o (L j) z → OwnL w1 lo hi a n (upd P j p) (upd T j t) L (upd Z j z) := by
  obtain ⟨h0, h1 | ⟨b, off, ha, hlo, hl, g, o, c, hinj, hc⟩⟩ := h
  · omega
  obtain ⟨k0, k1, k2, k3, k4, k5, k6, k7, k8, -⟩ := hc j hj
  refine ⟨b, off, g j, o j, c j, ha, hlo, hl, k0, k3, k4, k5, k6, k7, k1, k2, k8, fun p t w1 z hw hr => ?_⟩
  have hs : ((w.setCell ⟨b, off + j * 3, none⟩ (.int .i64 p)).setCell ⟨b, off + j * 3 + 1, none⟩ (.int .i64 t)).heap.size = w.heap.size := by simp [World.setCell]
  have hsz : w.heap.size ≤ w1.heap.size := by have := hw.size; omega
  refine ⟨Nat.le_trans h0 hsz, .inr ⟨b, off, ha, hlo, hl, g, o, c, hinj, fun i hi => ?_⟩⟩
  obtain ⟨m0, m1, m2, m3, m4, m5, m6, m7, m8, mc⟩ := hc i hi
  have cb : ∀ q, w1.cell? ⟨b, q, none⟩ = ((w.setCell ⟨b, off + j * 3, none⟩ (.int .i64 p)).setCell ⟨b, off + j * 3 + 1, none⟩ (.int .i64 t)).cell? ⟨b, q, none⟩ := fun q => hw.cell (by omega) (by omega) _
  have fb : ∀ q, w1.frozen? ⟨b, q, none⟩ = w.frozen? ⟨b, q, none⟩ := fun q => by
    rw [World.frozen?_of_block (w := ((w.setCell ⟨b, off + j * 3, none⟩ (.int .i64 p)).setCell ⟨b, off + j * 3 + 1, none⟩ (.int .i64 t))) (a := ⟨b, q, none⟩) (hw.block b (by omega) (by omega))]
    simp
  refine ⟨m0, m1, m2, ?_, ?_, ?_, by rw [fb]; exact m6, by rw [fb]; exact m7, ?_, mc⟩
  · rw [cb]
    by_cases e : i = j
    · subst e; rw [upd_eq, setO (by omega)]; exact setS m3
    · rw [upd_ne _ _ e, setO (by omega), setO (by omega)]; exact m3
  · rw [cb]
    by_cases e : i = j
    · subst e; rw [upd_eq]; exact setS ((setO (by omega)).trans m4)
    · rw [upd_ne _ _ e, setO (by omega), setO (by omega)]; exact m4
  · rw [cb, setO (by omega), setO (by omega)]; exact m5
  · by_cases e : i = j
    · subst e; rw [upd_eq]; exact hr
    · rw [upd_ne _ _ e]
      have : g i ≠ g j := fun q => e (hinj i j hi hj q)
      refine m8.block ((hw.block _ (by omega) (by omega)).trans ?_)
      rw [blk_setCell_other _ _ _ _ (by show g i ≠ b; exact m0), blk_setCell_other _ _ _ _ (by show g i ≠ b; exact m0)]
theorem OwnP.congr {w : World} {lo hi : Nat} {a : Option Addr} {n : Nat} {L : Nat → Nat} {Z Z' : Nat → Nat → Int} (h : OwnP w lo hi a n L Z) (e : ∀ i, i < n → ∀ q, q < L i → Z i q = Z' i q) : OwnP w lo hi a n L Z' := by
  obtain ⟨h0, h1 | ⟨b, off, ha, hlo, hl, g, o, c, hinj, hc⟩⟩ := h
  · exact ⟨h0, .inl h1⟩
  refine ⟨h0, .inr ⟨b, off, ha, hlo, hl, g, o, c, hinj, fun i hi => ?_⟩⟩
  obtain ⟨m0, m1, m2, m3, ⟨m4, m5⟩, mc⟩ := hc i hi
  exact ⟨m0, m1, m2, m3, ⟨fun q hq => by rw [m4 q hq, e i hi q hq], m5⟩, mc⟩
theorem OwnL.congr {w : World} {lo hi : Nat} {a : Option Addr} {n : Nat} {P T P' T' : Nat → Int} {L : Nat → Nat} {Z Z' : Nat → Nat → Int} (h : OwnL w lo hi a n P T L Z) (e1 : ∀ i, i < n → P i = P' i) (e2 : ∀ i, i < n → T i = T' i) (e : ∀ i, i < n → ∀ q, q < L i → Z i q = Z' i q) : OwnL w lo hi a n P' T' L Z' := by
  obtain ⟨h0, h1 | ⟨b, off, ha, hlo, hl, g, o, c, hinj, hc⟩⟩ := h
  · exact ⟨h0, .inl h1⟩
  refine ⟨h0, .inr ⟨b, off, ha, hlo, hl, g, o, c, hinj, fun i hi => ?_⟩⟩
  obtain ⟨m0, m1, m2, m3, m4, m5, m6, m7, ⟨m8, m9⟩, mc⟩ := hc i hi
  exact ⟨m0, m1, m2, by rw [m3, e1 i hi], by rw [m4, e2 i hi], m5, m6, m7, ⟨fun q hq => by rw [m8 q hq, e i hi q hq], m9⟩, mc⟩
/-- The marks of pages from m on. -/
def mZ (m : Int) (L : Nat → Nat) (i : Nat) : Nat → Int := bk (m + sumL L i)
def pre {α : Type} (f g : Nat → α) (j i : Nat) : α := if i < j then f i else g i
theorem pre_upd {α : Type} (f g : Nat → α) (j : Nat) : upd (pre f g j) j (f j) = pre f g (j + 1) := by
  funext i
  by_cases e : i = j
  · subst e; simp [upd, pre]
  · by_cases h : i < j
    · have : i < j + 1 := by omega
      simp [upd, pre, e, h, this]
    · have : ¬ i < j + 1 := by omega
      simp [upd, pre, e, h, this]
theorem pre_at {α : Type} (f g : Nat → α) (j : Nat) : pre f g j j = g j := by simp [pre]
theorem pre_lt {α : Type} (f g : Nat → α) {j i : Nat} (h : i < j) : pre f g j i = f i := by simp [pre, h]
theorem sumL_le (L : Nat → Nat) {n : Nat} : ∀ {i}, i ≤ n → sumL L i ≤ sumL L n := by
  induction n with
  | zero => intro i h; have : i = 0 := by omega
            subst this; exact Nat.le_refl _
  | succ n ih =>
    intro i h
    by_cases e : i = n + 1
    · subst e; exact Nat.le_refl _
    · have := ih (i := i) (by omega); simp only [sumL]; omega
set_option maxHeartbeats 400000 in
theorem markByteSS_any (n : Nat) (L : Nat → Nat) (Z : Nat → Nat → Int) (a : Option Addr) (cap lo hi : Nat) (m : Int) (w : World) (hn : n ≤ 1048576) (hs : sumL L n ≤ 1048576) (hm1 : 0 ≤ m) (hm2 : m ≤ 8388608) (h : OwnP w lo hi a n L Z) :
    Calls Tryz.prog 109 #[.slice a n cap, .int .i64 m] w fun e w' => e = .returned (.int .i64 (m + sumL L n)) ∧ Writes lo hi w w' ∧ OwnP w' lo hi a n L (mZ m L) := by
  have HO : Hid (OwnP w lo hi a n L Z) := h
  clear h
  go_enter Tryz.func109, Tryz.ntmps109
  go_wp2
  go_loopw [1, 5] (fun q i wr => ∃ k : Nat, k ≤ n ∧ i = .int .i64 k ∧ q = .int .i64 (m + sumL L k) ∧ Writes lo hi w wr ∧ OwnP wr lo hi a n L (pre (mZ m L) Z k)) (fun _ i _ => n - (intOf i).toNat)
  case atStart => exact ⟨0, Nat.zero_le _, rfl, by simp [sumL], Writes.refl _ _ _, HO.out.congr fun i _ q _ => by simp [pre]⟩
  case round =>
    obtain ⟨k, hk0, rfl, rfl, hb, ho⟩ := hrel
    by_cases hlt : k < n
    · obtain ⟨b, off, g, o, c, rfl, h1, h2, h3, h4, h5⟩ := ho.pick hlt
      rw [pre_at] at h4
      have hLk := sumL_ge L n k hlt
      have hsk := sumL_le L (n := n) (i := k) (by omega)
      have hstep : (sumL L (k + 1) : Int) = sumL L k + L k := by simp [sumL]
      have HR : Hid (Row1 wr g o (L k) (Z k)) := h4
      have H5 : Hid (∀ w1 z, Writes g (g + 1) wr w1 → Row1 w1 g o (L k) z → OwnP w1 lo hi (some ⟨b, off, none⟩) n L (upd (pre (mZ m L) Z k) k z)) := h5
      have HB : Hid (Writes lo hi w wr) := hb
      have HG : Hid (lo ≤ g ∧ g < hi) := ⟨h2, h3⟩
      have HM : Hid (mZ m L k = bk (m + sumL L k)) := rfl
      generalize hS : (sumL L k : Int) = S at *
      clear ho hb h2 h3 h4 h5
      go_wp2_with fail
      refine (markByteS_some (L k) (Z k) g o c g (g + 1) (m + S) wr (by omega) (by omega) (by omega) (Nat.le_refl _) (by omega) HR.out).mono ?_
      rintro e w1 ⟨rfl, hw, hr⟩
      have HW : Hid (Writes g (g + 1) wr w1) := hw
      have HR1 : Hid (Row1 w1 g o (L k) (mZ m L k)) := by
        refine ⟨fun i hi => ?_, hr.2⟩
        rw [hr.1 i hi, HM.out]; simp [mkb, hi]
      clear hw hr
      go_wp2_with fail
      go_roundw
      case rel =>
        refine ⟨k + 1, hlt, by go_num, by rw [hstep]; go_num, ?_, by rw [← pre_upd]; exact H5.out _ _ HW.out HR1.out⟩
        have h1 := HG.out.1
        have h2 := HG.out.2
        exact HB.out.trans ⟨HW.out.os, HW.out.tape, HW.out.output, HW.out.size, fun q hq hd => HW.out.block q hq (by omega)⟩
      case measure => simp [intOf]; omega
    · have hkn : k = n := by omega
      have HO2 : Hid (OwnP wr lo hi a n L (mZ m L)) := ho.congr fun i hi q _ => by rw [pre_lt _ _ (by omega)]
      clear ho
      go_wp2
      go_ret
      exact ⟨ret_int (by rw [hkn]), hb, HO2.out⟩
/-- The marks of loose writes from m on. -/
def s2 (L : Nat → Nat) (i : Nat) : Nat := sumL (fun i => L i + 2) i
def mP (m : Int) (L : Nat → Nat) (i : Nat) : Int := m + s2 L i
def mT (m : Int) (L : Nat → Nat) (i : Nat) : Int := m + s2 L i + 1
def mY (m : Int) (L : Nat → Nat) (i : Nat) : Nat → Int := bk (m + s2 L i + 2)
theorem s2_eq (L : Nat → Nat) : ∀ n, s2 L n = sumL L n + 2 * n
  | 0 => rfl
  | n + 1 => by have := s2_eq L n; simp only [s2, sumL] at *; omega
set_option maxHeartbeats 400000 in
theorem markLooseS_any (n : Nat) (P T : Nat → Int) (L : Nat → Nat) (Z : Nat → Nat → Int) (a : Option Addr) (cap lo hi : Nat) (m : Int) (w : World) (hn : n ≤ 1048576) (hs : sumL L n ≤ 1048576) (hm1 : 0 ≤ m) (hm2 : m ≤ 8388608) (h : OwnL w lo hi a n P T L Z) :
    Calls Tryz.prog 110 #[.slice a n cap, .int .i64 m] w fun e w' => e = .returned (.int .i64 (m + s2 L n)) ∧ Writes lo hi w w' ∧ OwnL w' lo hi a n (mP m L) (mT m L) L (mY m L) := by
  have HO : Hid (OwnL w lo hi a n P T L Z) := h
  clear h
  go_enter Tryz.func110, Tryz.ntmps110
  go_wp2
  go_loopw [1, 5] (fun q i wr => ∃ k : Nat, k ≤ n ∧ i = .int .i64 k ∧ q = .int .i64 (m + s2 L k) ∧ Writes lo hi w wr ∧ OwnL wr lo hi a n (pre (mP m L) P k) (pre (mT m L) T k) L (pre (mY m L) Z k)) (fun _ i _ => n - (intOf i).toNat)
  case atStart => exact ⟨0, Nat.zero_le _, rfl, by simp [s2, sumL], Writes.refl _ _ _, HO.out.congr (fun i _ => by simp [pre]) (fun i _ => by simp [pre]) fun i _ q _ => by simp [pre]⟩
  case round =>
    obtain ⟨k, hk0, rfl, rfl, hb, ho⟩ := hrel
    by_cases hlt : k < n
    · obtain ⟨b, off, g, o, c, rfl, hb1, hb2, hgb, h1, h2, h3, h4, h5, h6, h7, h8, h9⟩ := ho.pick hlt
      rw [pre_at] at h8 h1 h2
      have hLk := sumL_ge L n k hlt
      have hsk := sumL_le L (n := n) (i := k) (by omega)
      have hstep : (s2 L (k + 1) : Int) = s2 L k + L k + 2 := by simp [s2, sumL]; omega
      have hbd : s2 L k = sumL L k + 2 * k := s2_eq L k
      have HR : Hid (Row1 wr g o (L k) (Z k)) := h8
      have H9 : Hid (∀ p t w1 z, Writes g (g + 1) ((wr.setCell ⟨b, off + k * 3, none⟩ (.int .i64 p)).setCell ⟨b, off + k * 3 + 1, none⟩ (.int .i64 t)) w1 → Row1 w1 g o (L k) z → OwnL w1 lo hi (some ⟨b, off, none⟩) n (upd (pre (mP m L) P k) k p) (upd (pre (mT m L) T k) k t) L (upd (pre (mY m L) Z k) k z)) := h9
      have HB : Hid (Writes lo hi w wr) := hb
      have HG : Hid (lo ≤ g ∧ g < hi ∧ lo ≤ b ∧ b < hi ∧ g ≠ b) := ⟨h6, h7, hb1, hb2, hgb⟩
      have HM1 : Hid (mP m L k = m + s2 L k) := rfl
      have HM2 : Hid (mT m L k = m + s2 L k + 1) := rfl
      have HM3 : Hid (mY m L k = bk (m + s2 L k + 2)) := rfl
      have hSb : (s2 L k : Int) ≤ 3145728 := by omega
      have hS0 : 0 ≤ (s2 L k : Int) := by omega
      generalize hS : (s2 L k : Int) = S at *
      clear ho hb h6 h7 hb1 hb2 hgb h8 h9 hbd hS
      go_wp2_with fail
      refine (markByteS_some (L k) (Z k) g o c g (g + 1) (m + S + 1 + 1) _ (by omega) (by omega) (by omega) (Nat.le_refl _) (by omega) (HR.out.block ?_)).mono ?_
      · rw [blk_setCell_other _ _ _ _ (by show g ≠ b; exact HG.out.2.2.2.2), blk_setCell_other _ _ _ _ (by show g ≠ b; exact HG.out.2.2.2.2)]
      rintro e w1 ⟨rfl, hw, hr⟩
      have HW : Hid (Writes g (g + 1) ((wr.setCell ⟨b, off + k * 3, none⟩ (.int .i64 (m + S))).setCell ⟨b, off + k * 3 + 1, none⟩ (.int .i64 (m + S + 1))) w1) := hw
      have HR1 : Hid (Row1 w1 g o (L k) (mY m L k)) := by
        refine ⟨fun i hi => ?_, hr.2⟩
        rw [hr.1 i hi, HM3.out]; simp [mkb, hi]; congr 1; omega
      clear hw hr
      go_wp2_with fail
      go_roundw
      case rel =>
        have H := H9.out (m + S) (m + S + 1) w1 (mY m L k) HW.out HR1.out
        rw [← HM2.out, ← HM1.out, pre_upd, pre_upd, pre_upd] at H
        refine ⟨k + 1, hlt, by go_num, by rw [hstep]; go_num, ?_, H⟩
        obtain ⟨g1, g2, g3, g4, g5⟩ := HG.out
        refine HB.out.trans (Writes.trans (Writes.setCell (Writes.setCell (Writes.refl _ _ _) (p := ⟨b, off + k * 3, none⟩) g3 g4 (.int .i64 (m + S))) (p := ⟨b, off + k * 3 + 1, none⟩) g3 g4 (.int .i64 (m + S + 1))) ?_)
        exact ⟨HW.out.os, HW.out.tape, HW.out.output, HW.out.size, fun q hq hd => HW.out.block q hq (by omega)⟩
      case measure => simp [intOf]; omega
    · have hkn : k = n := by omega
      have HO2 : Hid (OwnL wr lo hi a n (mP m L) (mT m L) L (mY m L)) := ho.congr (fun i hi => by rw [pre_lt _ _ (by omega)]) (fun i hi => by rw [pre_lt _ _ (by omega)]) fun i hi q _ => by rw [pre_lt _ _ (by omega)]
      clear ho
      go_wp2
      go_ret
      exact ⟨ret_int (by rw [hkn]), hb, HO2.out⟩
set_option maxHeartbeats 400000 in
theorem heldByteSS_any (n : Nat) (L : Nat → Nat) (a : Option Addr) (cap : Nat) (m : Int) (w : World) (hn : n ≤ 1048576) (hs : sumL L n ≤ 1048576) (hm1 : 0 ≤ m) (hm2 : m ≤ 8388608) (h : PagesAt w a n L (mZ m L)) :
    Calls Tryz.prog 170 #[.slice a n cap, .int .i64 m] w fun e w' => e = .returned (.int .i64 (m + sumL L n)) ∧ w' = w := by
  have HA : Hid (PagesAt w a n L (mZ m L)) := h
  clear h
  go_enter Tryz.func170, Tryz.ntmps170
  go_wp2
  go_loop [1, 5] (fun q i => ∃ k : Nat, k ≤ n ∧ i = .int .i64 k ∧ q = .int .i64 (m + sumL L k)) (fun _ i => n - (intOf i).toNat)
  case atStart => exact ⟨0, Nat.zero_le _, rfl, by simp [sumL]⟩
  case round =>
    obtain ⟨k, hk0, rfl, rfl⟩ := hrel
    by_cases hlt : k < n
    · rcases HA.out with h | ⟨b, off, rfl, hl, hc⟩
      · omega
      obtain ⟨ai, ci, h1, hy, -⟩ := hc k hlt
      have HY : Hid (BytesAt w ai (L k) (bk (m + sumL L k))) := hy
      have hLk := sumL_ge L n k hlt
      have hsk := sumL_le L (n := n) (i := k) (by omega)
      have hstep : (sumL L (k + 1) : Int) = sumL L k + L k := by simp [sumL]
      generalize hS : (sumL L k : Int) = S at *
      have hneg : ¬ (m + S + (L k : Int) < 0) := by omega
      clear hc hy
      go_wp2_with fail
      refine (heldByteS_any (L k) ai ci (m + S) _ (by omega) (by omega) (by omega) HY.out).mono ?_
      rintro e w' ⟨rfl, rfl⟩
      go_wp2_with fail
      go_round
      case rel => exact ⟨k + 1, hlt, by go_num, by rw [hstep]; go_num⟩
      case measure => simp [intOf]; omega
    · have hkn : k = n := by omega
      go_wp2
      go_ret
      exact ⟨by first | rfl | (rw [hkn]), rfl⟩
set_option maxHeartbeats 400000 in
theorem heldLooseS_any (n : Nat) (L : Nat → Nat) (a : Option Addr) (cap : Nat) (m : Int) (w : World) (hn : n ≤ 1048576) (hs : sumL L n ≤ 1048576) (hm1 : 0 ≤ m) (hm2 : m ≤ 8388608) (h : LoosesAt w a n (mP m L) (mT m L) L (mY m L)) :
    Calls Tryz.prog 171 #[.slice a n cap, .int .i64 m] w fun e w' => e = .returned (.int .i64 (m + s2 L n)) ∧ w' = w := by
  have HA : Hid (LoosesAt w a n (mP m L) (mT m L) L (mY m L)) := h
  clear h
  go_enter Tryz.func171, Tryz.ntmps171
  go_wp2
  go_loop [1, 5] (fun q i => ∃ k : Nat, k ≤ n ∧ i = .int .i64 k ∧ q = .int .i64 (m + s2 L k)) (fun _ i => n - (intOf i).toNat)
  case atStart => exact ⟨0, Nat.zero_le _, rfl, by simp [s2, sumL]⟩
  case round =>
    obtain ⟨k, hk0, rfl, rfl⟩ := hrel
    by_cases hlt : k < n
    · rcases HA.out with h | ⟨b, off, rfl, hl, hc⟩
      · omega
      obtain ⟨h1, h2, ai, ci, h3, hy, -⟩ := hc k hlt
      have HY : Hid (BytesAt w ai (L k) (bk (m + s2 L k + 2))) := hy
      have hLk := sumL_ge L n k hlt
      have hsk := sumL_le L (n := n) (i := k) (by omega)
      have hstep : (s2 L (k + 1) : Int) = s2 L k + L k + 2 := by simp [s2, sumL]; omega
      have hbd : s2 L k = sumL L k + 2 * k := s2_eq L k
      have hSb : (s2 L k : Int) ≤ 3145728 := by omega
      have hS0 : 0 ≤ (s2 L k : Int) := by omega
      unfold mP at h1
      unfold mT at h2
      generalize hS : (s2 L k : Int) = S at *
      have hneg : ¬ (m + S + 1 + 1 + (L k : Int) < 0) := by omega
      clear hc hy hbd hS
      go_wp2_with fail
      refine (heldByteS_any (L k) ai ci (m + S + 1 + 1) _ (by omega) (by omega) (by omega) (by have h := HY.out; rw [show m + S + 2 = m + S + 1 + 1 by omega] at h; exact h)).mono ?_
      rintro e w' ⟨rfl, rfl⟩
      go_wp2_with fail
      go_round
      case rel => exact ⟨k + 1, hlt, by go_num, by rw [hstep]; go_num⟩
      case measure => simp [intOf]; omega
    · have hkn : k = n := by omega
      go_wp2
      go_ret
      exact ⟨by first | rfl | (rw [hkn]), rfl⟩
/-- Only blocks of the set P are written, and new ones. -/
structure WritesP (P : Nat → Prop) (w w' : World) : Prop where
  os : w'.os = w.os
  tape : w'.tape = w.tape
  output : w'.output = w.output
  size : w.heap.size ≤ w'.heap.size
  block : ∀ k, k < w.heap.size → ¬ P k → w'.heap[k]? = w.heap[k]?
theorem WritesP.refl (P : Nat → Prop) (w : World) : WritesP P w w := ⟨rfl, rfl, rfl, Nat.le_refl _, fun _ _ _ => rfl⟩
theorem WritesP.trans {P : Nat → Prop} {a b c : World} (h : WritesP P a b) (k : WritesP P b c) : WritesP P a c :=
  ⟨k.os.trans h.os, k.tape.trans h.tape, k.output.trans h.output, Nat.le_trans h.size k.size, fun q hq hn => (k.block q (Nat.lt_of_lt_of_le hq h.size) hn).trans (h.block q hq hn)⟩
theorem WritesP.of {P : Nat → Prop} {lo hi : Nat} {w w' : World} (h : Writes lo hi w w') (hp : ∀ x, lo ≤ x → x < hi → P x) : WritesP P w w' :=
  ⟨h.os, h.tape, h.output, h.size, fun q hq hn => h.block q hq (by
    by_cases c : q < lo
    · exact .inl c
    · by_cases d : hi ≤ q
      · exact .inr d
      · exact absurd (hp q (by omega) (by omega)) hn)⟩
theorem WritesP.to {P : Nat → Prop} {lo hi : Nat} {w w' : World} (h : WritesP P w w') (hp : ∀ x, P x → lo ≤ x ∧ x < hi) : Writes lo hi w w' :=
  ⟨h.os, h.tape, h.output, h.size, fun q hq hn => h.block q hq fun c => by have := hp q c; omega⟩
theorem WritesP.below {P : Nat → Prop} {w w' : World} (h : Below w.heap.size w w') : WritesP P w w' :=
  WritesP.of (Writes.of_below (lo := w.heap.size) (hi := w.heap.size) h) fun x h1 h2 => by omega
/-! ### what is kept -/
theorem Own.keep {w w' : World} {lo hi : Nat} {a : Option Addr} {n : Nat} {K V : Nat → Int} (h : Own w lo hi a n K V) (hs : w.heap.size ≤ w'.heap.size) (hk : ∀ x, lo ≤ x → x < hi → x < w.heap.size → w'.heap[x]? = w.heap[x]?) : Own w' lo hi a n K V := by
  obtain ⟨h0, h1 | ⟨b, off, ha, h2, hl, hk', hv, hf, hg⟩⟩ := h
  · exact ⟨Nat.le_trans h0 hs, .inl h1⟩
  · have hb := hk b h2 hl (by omega)
    exact ⟨Nat.le_trans h0 hs, .inr ⟨b, off, ha, h2, hl, fun i hi => (World.cell?_of_block (w := w) (a := ⟨b, _, none⟩) hb).trans (hk' i hi), fun i hi => (World.cell?_of_block (w := w) (a := ⟨b, _, none⟩) hb).trans (hv i hi),
      fun i hi => (World.frozen?_of_block (w := w) (a := ⟨b, _, none⟩) hb).trans (hf i hi), fun i hi => (World.frozen?_of_block (w := w) (a := ⟨b, _, none⟩) hb).trans (hg i hi)⟩⟩
theorem OwnI.keep {w w' : World} {lo hi : Nat} {a : Option Addr} {n : Nat} {z : Nat → Int} (h : OwnI w lo hi a n z) (hs : w.heap.size ≤ w'.heap.size) (hk : ∀ x, lo ≤ x → x < hi → x < w.heap.size → w'.heap[x]? = w.heap[x]?) : OwnI w' lo hi a n z := by
  obtain ⟨h0, h1 | ⟨g, off, ha, h2, hl, hc, hf⟩⟩ := h
  · exact ⟨Nat.le_trans h0 hs, .inl h1⟩
  · have hb := hk g h2 hl (by omega)
    exact ⟨Nat.le_trans h0 hs, .inr ⟨g, off, ha, h2, hl, fun i hi => (World.cell?_of_block (w := w) (a := ⟨g, _, none⟩) hb).trans (hc i hi), fun i hi => (World.frozen?_of_block (w := w) (a := ⟨g, _, none⟩) hb).trans (hf i hi)⟩⟩
theorem OwnB.keep {w w' : World} {lo hi : Nat} {a : Option Addr} {n : Nat} {z : Nat → Int} (h : OwnB w lo hi a n z) (hs : w.heap.size ≤ w'.heap.size) (hk : ∀ x, lo ≤ x → x < hi → x < w.heap.size → w'.heap[x]? = w.heap[x]?) : OwnB w' lo hi a n z := by
  obtain ⟨h0, h1 | ⟨g, off, ha, h2, hl, hc, hf⟩⟩ := h
  · exact ⟨Nat.le_trans h0 hs, .inl h1⟩
  · have hb := hk g h2 hl (by omega)
    exact ⟨Nat.le_trans h0 hs, .inr ⟨g, off, ha, h2, hl, fun i hi => (World.cell?_of_block (w := w) (a := ⟨g, _, none⟩) hb).trans (hc i hi), fun i hi => (World.frozen?_of_block (w := w) (a := ⟨g, _, none⟩) hb).trans (hf i hi)⟩⟩
theorem OwnG.keep {w w' : World} {lo hi : Nat} {a1 a2 : Option Addr} {L : Lo} (h : OwnG w lo hi a1 a2 L) (hs : w.heap.size ≤ w'.heap.size) (hk : ∀ x, lo ≤ x → x < hi → x < w.heap.size → w'.heap[x]? = w.heap[x]?) : OwnG w' lo hi a1 a2 L := by
  obtain ⟨h0, l1, h1, l2, h2, k1, k2, k3, k4, k5, hp, hl⟩ := h
  exact ⟨Nat.le_trans h0 hs, l1, h1, l2, h2, k1, k2, k3, k4, k5, hp.keep hs fun x x1 x2 x3 => hk x (by omega) (by omega) x3, hl.keep hs fun x x1 x2 x3 => hk x (by omega) (by omega) x3⟩
theorem OwnP.keep {w w' : World} {lo hi : Nat} {a : Option Addr} {n : Nat} {L : Nat → Nat} {Z : Nat → Nat → Int} (h : OwnP w lo hi a n L Z) (hs : w.heap.size ≤ w'.heap.size) (hk : ∀ x, lo ≤ x → x < hi → x < w.heap.size → w'.heap[x]? = w.heap[x]?) : OwnP w' lo hi a n L Z := by
  obtain ⟨h0, h1 | ⟨b, off, ha, hlo, hl, g, o, c, hj, hc⟩⟩ := h
  · exact ⟨Nat.le_trans h0 hs, .inl h1⟩
  · have e := hk b hlo hl (by omega)
    refine ⟨Nat.le_trans h0 hs, .inr ⟨b, off, ha, hlo, hl, g, o, c, hj, fun i hi => ?_⟩⟩
    obtain ⟨k0, k1, k2, k3, k4, k5⟩ := hc i hi
    exact ⟨k0, k1, k2, (World.cell?_of_block (w := w) (a := ⟨b, _, none⟩) e).trans k3, k4.block (hk _ k1 k2 (by omega)), k5⟩
theorem OwnL.keep {w w' : World} {lo hi : Nat} {a : Option Addr} {n : Nat} {P T : Nat → Int} {L : Nat → Nat} {Z : Nat → Nat → Int} (h : OwnL w lo hi a n P T L Z) (hs : w.heap.size ≤ w'.heap.size) (hk : ∀ x, lo ≤ x → x < hi → x < w.heap.size → w'.heap[x]? = w.heap[x]?) : OwnL w' lo hi a n P T L Z := by
  obtain ⟨h0, h1 | ⟨b, off, ha, hlo, hl, g, o, c, hj, hc⟩⟩ := h
  · exact ⟨Nat.le_trans h0 hs, .inl h1⟩
  · have e := hk b hlo hl (by omega)
    refine ⟨Nat.le_trans h0 hs, .inr ⟨b, off, ha, hlo, hl, g, o, c, hj, fun i hi => ?_⟩⟩
    obtain ⟨k0, k1, k2, k3, k4, k5, k6, k7, k8, k9⟩ := hc i hi
    have ec : ∀ q, w'.cell? ⟨b, q, none⟩ = w.cell? ⟨b, q, none⟩ := fun q => World.cell?_of_block (w := w) (a := ⟨b, q, none⟩) e
    exact ⟨k0, k1, k2, (ec _).trans k3, (ec _).trans k4, (ec _).trans k5, (World.frozen?_of_block (w := w) (a := ⟨b, _, none⟩) e).trans k6, (World.frozen?_of_block (w := w) (a := ⟨b, _, none⟩) e).trans k7, k8.block (hk _ k1 k2 (by omega)), k9⟩
theorem OwnD.keep {w w' : World} {lo hi : Nat} {a a' : Option Addr} {D : Dk} (h : OwnD w lo hi a a' D) (hs : w.heap.size ≤ w'.heap.size) (hk : ∀ x, lo ≤ x → x < hi → x < w.heap.size → w'.heap[x]? = w.heap[x]?) : OwnD w' lo hi a a' D := by
  obtain ⟨h0, l1, h1, l2, h2, k1, k2, k3, k4, k5, hp, hl⟩ := h
  exact ⟨Nat.le_trans h0 hs, l1, h1, l2, h2, k1, k2, k3, k4, k5, hp.keep hs fun x x1 x2 x3 => hk x (by omega) (by omega) x3, hl.keep hs fun x x1 x2 x3 => hk x (by omega) (by omega) x3⟩
/-! ### pages in sets of blocks -/
def hdPg (w : World) (b o : Nat) (t : Pg) : World := (w.setCell ⟨b, o, none⟩ (.int .i64 t.id)).setCell ⟨b, o + 1, none⟩ (.int .i64 t.lsn)
theorem hdPg_size {w : World} {b o : Nat} {t : Pg} : (hdPg w b o t).heap.size = w.heap.size := by simp [hdPg, World.setCell]
theorem hdPg_far {w : World} {b o o' : Nat} {t : Pg} (h : o' < o ∨ o + 1 < o') : (hdPg w b o t).cell? ⟨b, o', none⟩ = w.cell? ⟨b, o', none⟩ := by
  unfold hdPg
  rw [setO (by omega), setO (by omega)]
theorem hdPg_frozen {w : World} {b o : Nat} {t : Pg} {p : Addr} : (hdPg w b o t).frozen? p = w.frozen? p := by
  unfold hdPg
  rw [World.frozen?_setCell, World.frozen?_setCell]
theorem hdPg_same {w : World} {b o : Nat} {t t0 : Pg} {ai : Option Addr} {ci : Nat} (h : CPg w b o t0 ai ci) (hn : t.cn = t0.cn) : CPg (hdPg w b o t) b o t ai ci := by
  obtain ⟨h0, h1, h2⟩ := h
  refine ⟨?_, ?_, ?_⟩
  · unfold hdPg; rw [setO (by omega)]; exact setS h0
  · unfold hdPg; exact setS (by rw [setO (by omega)]; exact h1)
  · rw [hn, hdPg_far (by omega)]; exact h2
theorem hdPg_writes {lo hi : Nat} {w wr : World} {b o : Nat} {t : Pg} (h : Writes lo hi w wr) (h1 : lo ≤ b) (h2 : b < hi) : Writes lo hi w (hdPg wr b o t) := by
  unfold hdPg
  exact (h.setCell (p := ⟨b, _, none⟩) h1 h2 _).setCell (p := ⟨b, _, none⟩) h1 h2 _
/-- Pages in blocks of their own, all of the set P. -/
def OwnPgP (w : World) (P : Nat → Prop) (a : Option Addr) (n : Nat) (T : Nat → Pg) : Prop :=
  n = 0 ∨ ∃ b off, a = some ⟨b, off, none⟩ ∧ P b ∧ b < w.heap.size ∧ (∀ i, w.frozen? ⟨b, i, none⟩ = false) ∧ ∃ l h : Nat → Nat, (∀ i j, i < n → j < n → i ≠ j → h i ≤ l j ∨ h j ≤ l i) ∧
    ∀ i, i < n → (b < l i ∨ h i ≤ b) ∧ (∀ x, l i ≤ x → x < h i → P x) ∧ ∃ ai ci, CPg w b (off + i * 3) (T i) ai ci ∧ (T i).cn ≤ ci ∧ Own w (l i) (h i) ai (T i).cn (T i).cK (T i).cV
theorem OwnPgP.at {w : World} {P : Nat → Prop} {a : Option Addr} {n : Nat} {T : Nat → Pg} (h : OwnPgP w P a n T) : PgsAt w a n T := by
  obtain h1 | ⟨b, off, ha, _, hl, _, l, h, _, hc⟩ := h
  · exact .inl h1
  · refine .inr ⟨b, off, ha, hl, fun i hi => ?_⟩
    obtain ⟨_, _, ai, ci, k1, k2, k3⟩ := hc i hi
    exact ⟨ai, ci, k1, ⟨k3.at, trivial⟩, k2⟩
theorem OwnPgP.keep {w w' : World} {P : Nat → Prop} {a : Option Addr} {n : Nat} {T : Nat → Pg} (h : OwnPgP w P a n T) (hs : w.heap.size ≤ w'.heap.size) (hk : ∀ x, P x → x < w.heap.size → w'.heap[x]? = w.heap[x]?) : OwnPgP w' P a n T := by
  obtain h1 | ⟨b, off, ha, hp, hl, hf, l, h, hj, hc⟩ := h
  · exact .inl h1
  · have e := hk b hp hl
    refine .inr ⟨b, off, ha, hp, Nat.lt_of_lt_of_le hl hs, fun i => (World.frozen?_of_block (w := w) (a := ⟨b, i, none⟩) e).trans (hf i), l, h, hj, fun i hi => ?_⟩
    obtain ⟨k0, k1, ai, ci, k2, k3, k4⟩ := hc i hi
    exact ⟨k0, k1, ai, ci, k2.block e, k3, k4.keep hs fun x h1 h2 h3 => hk x (k1 x h1 h2) h3⟩
theorem OwnPgP.mono {w : World} {P P' : Nat → Prop} {a : Option Addr} {n : Nat} {T : Nat → Pg} (h : OwnPgP w P a n T) (hp : ∀ x, P x → P' x) : OwnPgP w P' a n T := by
  obtain h1 | ⟨b, off, ha, h2, hl, hf, l, h, hj, hc⟩ := h
  · exact .inl h1
  · refine .inr ⟨b, off, ha, hp _ h2, hl, hf, l, h, hj, fun i hi => ?_⟩
    obtain ⟨k0, k1, r⟩ := hc i hi
    exact ⟨k0, fun x x1 x2 => hp x (k1 x x1 x2), r⟩
theorem OwnPgP.congr {w : World} {P : Nat → Prop} {a : Option Addr} {n : Nat} {T T' : Nat → Pg} (h : OwnPgP w P a n T) (e : ∀ i, i < n → T i = T' i) : OwnPgP w P a n T' := by
  obtain h1 | ⟨b, off, ha, h2, hl, hf, l, h, hj, hc⟩ := h
  · exact .inl h1
  · exact .inr ⟨b, off, ha, h2, hl, hf, l, h, hj, fun i hi => by rw [← e i hi]; exact hc i hi⟩
theorem OwnPg.toP {w : World} {lo hi : Nat} {a : Option Addr} {n : Nat} {T : Nat → Pg} (h : OwnPg w lo hi a n T) : OwnPgP w (fun x => lo ≤ x ∧ x < hi) a n T := by
  obtain ⟨h0, h1 | ⟨b, off, ha, hlo, hl, hf, l, h, hj, hc⟩⟩ := h
  · exact .inl h1
  · refine .inr ⟨b, off, ha, ⟨hlo, hl⟩, by omega, hf, l, h, hj, fun i hi => ?_⟩
    obtain ⟨k0, k1, ai, ci, k2, k3, m0, m1, g0, g1, g2, gz, k4⟩ := hc i hi
    exact ⟨k0, fun x x1 x2 => by omega, ai, ci, k2, k3, k4.wide g0 g2 (by omega)⟩
theorem OwnPgP.pick {w : World} {P : Nat → Prop} {a : Option Addr} {n : Nat} {T : Nat → Pg} (h : OwnPgP w P a n T) {j : Nat} (hj : j < n) :
    ∃ b off ai ci l h, a = some ⟨b, off, none⟩ ∧ P b ∧ b < w.heap.size ∧ (∀ i, w.frozen? ⟨b, i, none⟩ = false) ∧ CPg w b (off + j * 3) (T j) ai ci ∧ (T j).cn ≤ ci ∧ (b < l ∨ h ≤ b) ∧ (∀ x, l ≤ x → x < h → P x) ∧ Own w l h ai (T j).cn (T j).cK (T j).cV ∧
      ∀ t w1, t.cn = (T j).cn → Writes l h (hdPg w b (off + j * 3) t) w1 → Own w1 l h ai t.cn t.cK t.cV → OwnPgP w1 P a n (upf9 T j t) := by
  obtain h1 | ⟨b, off, ha, hlo, hl, hf, l, h, hd, hc⟩ := h
  · omega
  obtain ⟨k0, k1, ai, ci, k2, k3, k4⟩ := hc j hj
  refine ⟨b, off, ai, ci, l j, h j, ha, hlo, hl, hf, k2, k3, k0, k1, k4, fun t w1 hn hw hr => ?_⟩
  have hsz : w.heap.size ≤ w1.heap.size := by have := hw.size; rw [hdPg_size] at this; exact this
  have eb : w1.heap[b]? = (hdPg w b (off + j * 3) t).heap[b]? := hw.block b (by rw [hdPg_size]; omega) (by omega)
  have cb : ∀ q, w1.cell? ⟨b, q, none⟩ = (hdPg w b (off + j * 3) t).cell? ⟨b, q, none⟩ := fun q => World.cell?_of_block (w := hdPg w b (off + j * 3) t) (a := ⟨b, q, none⟩) eb
  refine .inr ⟨b, off, ha, hlo, Nat.lt_of_lt_of_le hl hsz, fun i => ?_, l, h, hd, fun i hi => ?_⟩
  · rw [World.frozen?_of_block (w := hdPg w b (off + j * 3) t) (a := ⟨b, i, none⟩) eb, hdPg_frozen]; exact hf i
  · obtain ⟨m0, m1, ai', ci', m2, m3, m4⟩ := hc i hi
    by_cases e : i = j
    · subst e
      rw [upf9_eq]
      exact ⟨m0, m1, ai, ci, (hdPg_same k2 hn).block eb, by rw [hn]; exact k3, hr⟩
    · rw [upf9_ne _ _ e]
      refine ⟨m0, m1, ai', ci', ?_, m3, ?_⟩
      · have g : ∀ q, q < 3 → w1.cell? ⟨b, off + i * 3 + q, none⟩ = w.cell? ⟨b, off + i * 3 + q, none⟩ := fun q hq => (cb _).trans (hdPg_far (by omega))
        obtain ⟨h0, h1, h2⟩ := m2
        exact ⟨(g 0 (by omega)).trans h0, (g 1 (by omega)).trans h1, (g 2 (by omega)).trans h2⟩
      · have hdd := hd i j hi hj e
        have m5 := m4.writes (w' := hdPg w b (off + j * 3) t) (lo' := b) (hi' := b + 1) (hdPg_writes (Writes.refl _ _ _) (Nat.le_refl _) (Nat.lt_succ_self _)) (by omega)
        exact m5.writes hw (by omega)
def sPg (T : Nat → Pg) (i : Nat) : Nat := smf9 (fun i => (T i).cn * 2 + 2) i
theorem sPg_eq (T : Nat → Pg) (i : Nat) : sPg T i = smPg T i * 2 + i * 2 := smf9_add _ _ _ _
def mPg (m : Int) (T : Nat → Pg) (i : Nat) : Pg := ⟨m + sPg T i, m + sPg T i + 1, (T i).cn, mK (m + sPg T i + 2), mK (m + sPg T i + 2 + 1)⟩
set_option maxHeartbeats 2000000 in
theorem markPageS_P (n : Nat) (T : Nat → Pg) (a : Option Addr) (cap : Nat) (P : Nat → Prop) (m : Int) (w : World) (hn : n ≤ 1048576) (hs : smPg T n ≤ 1048576) (hm1 : 0 ≤ m) (hm2 : m ≤ 16777216) (h : OwnPgP w P a n T) :
    Calls Tryz.prog 46 #[.slice a n cap, .int .i64 m] w fun e w' => e = .returned (.int .i64 (m + sPg T n)) ∧ WritesP P w w' ∧ OwnPgP w' P a n (mPg m T) := by
  have HO : Hid (OwnPgP w P a n T) := h
  clear h
  go_enter Tryz.func46, Tryz.ntmps46
  go_wp2
  go_loopw [1, 5] (fun q i wr => ∃ k : Nat, k ≤ n ∧ i = .int .i64 k ∧ q = .int .i64 (m + sPg T k) ∧ Hid (WritesP P w wr) ∧ Hid (OwnPgP wr P a n (pref9 (mPg m T) T k))) (fun _ i _ => n - (intOf i).toNat)
  case atStart => exact ⟨0, Nat.zero_le _, rfl, by simp [sPg, smf9], WritesP.refl _ _, by rw [pref9_zero]; exact HO⟩
  case round =>
    obtain ⟨k, hk0, rfl, rfl, HB, HP⟩ := hrel
    by_cases hlt : k < n
    · obtain ⟨b, off, ai, ci, l, h, rfl, hb1, hb2, hf, hC, hci, hbd, hr, hO, hU⟩ := HP.out.pick hlt
      rw [pref9_at] at hC hci hO hU
      have hLk := smf9_ge (fun i => szPg (T i)) n k hlt
      have hsk := smf9_le (fun i => szPg (T i)) (n := n) (i := k) (by omega)
      have hstep : (sPg T (k + 1) : Int) = sPg T k + (T k).cn * 2 + 2 := by simp [sPg, smf9]; omega
      have hbS : sPg T k = smPg T k * 2 + k * 2 := sPg_eq T k
      have HM : Hid (mPg m T k = ⟨m + sPg T k, m + sPg T k + 1, (T k).cn, mK (m + sPg T k + 2), mK (m + sPg T k + 2 + 1)⟩) := rfl
      have hSb : (sPg T k : Int) ≤ 4194304 := by unfold smPg szPg at *; omega
      have hS0 : 0 ≤ (sPg T k : Int) := by omega
      have hTk : (T k).cn ≤ 1048576 := by unfold smPg szPg at *; omega
      generalize hS : (sPg T k : Int) = S at *
      have HU : Hid (∀ t w1, t.cn = (T k).cn → Writes l h (hdPg wr b (off + k * 3) t) w1 → Own w1 l h ai t.cn t.cK t.cV → OwnPgP w1 P (some ⟨b, off, none⟩) n (upf9 (pref9 (mPg m T) T k) k t)) := hU
      have HO2 : Hid (Own (hdPg wr b (off + k * 3) ⟨m + S, m + S + 1, (T k).cn, mK (m + S + 2), mK (m + S + 2 + 1)⟩) l h ai (T k).cn (T k).cK (T k).cV) := hO.writes (hdPg_writes (Writes.refl _ _ _) (Nat.le_refl _) (Nat.lt_succ_self _)) (by omega)
      have HG : Hid (P b ∧ ∀ x, l ≤ x → x < h → P x) := ⟨hb1, hr⟩
      obtain ⟨q0, q1, q2⟩ := hC
      have g1 : IntKind.i64.wrap (m + S + 1) = m + S + 1 := by rw [IntKind.wrap_i64]; omega
      have g2 : IntKind.i64.wrap (m + S + 1 + 1) = m + S + 2 := by rw [IntKind.wrap_i64]; omega
      clear HP hO hU hb1 hb2 hbd hr hbS hS hLk hsk
      go_wp2_with fail
      refine (markCellS_any (T k).cn (T k).cK (T k).cV ai ci l h (m + S + 2) _ (by omega) (by omega) (by omega) HO2.out).mono ?_
      rintro e w1 ⟨rfl, hw, hr⟩
      have HW : Hid (Writes l h (hdPg wr b (off + k * 3) ⟨m + S, m + S + 1, (T k).cn, mK (m + S + 2), mK (m + S + 2 + 1)⟩) w1) := hw
      have HR1 : Hid (Own w1 l h ai (T k).cn (mK (m + S + 2)) (mK (m + S + 2 + 1))) := hr
      clear hw hr
      go_wp2_with fail
      go_roundw
      case rel =>
        have H := HU.out ⟨m + S, m + S + 1, (T k).cn, mK (m + S + 2), mK (m + S + 2 + 1)⟩ w1 rfl HW.out HR1.out
        rw [← HM.out, pref9_upf] at H
        obtain ⟨g1, g2⟩ := HG.out
        have HB2 : WritesP P wr (hdPg wr b (off + k * 3) ⟨m + S, m + S + 1, (T k).cn, mK (m + S + 2), mK (m + S + 2 + 1)⟩) := WritesP.of (hdPg_writes (Writes.refl _ _ _) (Nat.le_refl b) (Nat.lt_succ_self b)) fun x x1 x2 => (show x = b by omega) ▸ g1
        exact ⟨k + 1, hlt, by go_num, by rw [hstep]; go_num, HB.out.trans (HB2.trans (WritesP.of HW.out g2)), H⟩
      case measure => simp [intOf]; omega
    · have hkn : k = n := by omega
      have HO2 : Hid (OwnPgP wr P a n (mPg m T)) := HP.out.congr fun i hi => pref9_lt _ _ (by omega)
      have hnl : ¬ ((k : Int) < (n : Int)) := by omega
      go_wp2_with fail
      go_ret
      exact ⟨ret_int (by first | rfl | rw [hkn]), HB.out, HO2.out⟩
set_option maxHeartbeats 2000000 in
theorem heldPageS_any (n : Nat) (T : Nat → Pg) (a : Option Addr) (cap : Nat) (m : Int) (w : World) (hn : n ≤ 1048576) (hs : smPg T n ≤ 1048576) (hm1 : 0 ≤ m) (hm2 : m ≤ 16777216) (h : PgsAt w a n (mPg m T)) :
    Calls Tryz.prog 112 #[.slice a n cap, .int .i64 m] w fun e w' => e = .returned (.int .i64 (m + sPg T n)) ∧ w' = w := by
  have HA : Hid (PgsAt w a n (mPg m T)) := h
  clear h
  go_enter Tryz.func112, Tryz.ntmps112
  go_wp2
  go_loop [1, 5] (fun q i => ∃ k : Nat, k ≤ n ∧ i = .int .i64 k ∧ q = .int .i64 (m + sPg T k)) (fun _ i => n - (intOf i).toNat)
  case atStart => exact ⟨0, Nat.zero_le _, rfl, by simp [sPg, smf9]⟩
  case round =>
    obtain ⟨k, hk0, rfl, rfl⟩ := hrel
    by_cases hlt : k < n
    · rcases HA.out with h | ⟨b, off, rfl, hl, hc⟩
      · omega
      obtain ⟨ai, ci, ⟨q0, q1, q2⟩, ⟨hy, -⟩, -⟩ := hc k hlt
      unfold mPg at q0 q1 q2
      dsimp only at q0 q1 q2
      have HY : Hid (CellsAt w ai (T k).cn (mK (m + sPg T k + 2)) (mK (m + sPg T k + 2 + 1))) := hy
      have hLk := smf9_ge (fun i => szPg (T i)) n k hlt
      have hsk := smf9_le (fun i => szPg (T i)) (n := n) (i := k) (by omega)
      have hstep : (sPg T (k + 1) : Int) = sPg T k + (T k).cn * 2 + 2 := by simp [sPg, smf9]; omega
      have hbS : sPg T k = smPg T k * 2 + k * 2 := sPg_eq T k
      have hSb : (sPg T k : Int) ≤ 4194304 := by unfold smPg szPg at *; omega
      have hS0 : 0 ≤ (sPg T k : Int) := by omega
      have hTk : (T k).cn ≤ 1048576 := by unfold smPg szPg at *; omega
      generalize hS : (sPg T k : Int) = S at *
      have hneg : ¬ (m + S + 2 + ((T k).cn : Int) * 2 < 0) := by omega
      have g1 : IntKind.i64.wrap (m + S + 1) = m + S + 1 := by rw [IntKind.wrap_i64]; omega
      have g2 : IntKind.i64.wrap (m + S + 1 + 1) = m + S + 2 := by rw [IntKind.wrap_i64]; omega
      clear hc hy hbS hS hLk hsk
      go_wp2_with fail
      refine (heldCellS_any (T k).cn ai ci (m + S + 2) _ (by omega) (by omega) (by omega) HY.out).mono ?_
      rintro e w' ⟨rfl, rfl⟩
      go_wp2_with fail
      go_round
      case rel => exact ⟨k + 1, hlt, by go_num, by rw [hstep]; go_num⟩
      case measure => simp [intOf]; omega
    · have hkn : k = n := by omega
      have hnl : ¬ ((k : Int) < (n : Int)) := by omega
      go_wp2_with fail
      go_ret
      exact ⟨ret_int (by first | rfl | rw [hkn]), rfl⟩
/-- A disk with marks from m on. -/
def mD (m : Int) (D : Dk) : Dk := ⟨D.n, D.L, mZ m D.L, D.m, mP (m + sumL D.L D.n) D.M, mT (m + sumL D.L D.n) D.M, D.M, mY (m + sumL D.L D.n) D.M⟩
/-- How many marks a disk takes. -/
def tot (D : Dk) : Nat := sumL D.L D.n + s2 D.M D.m
theorem tot_le {D : Dk} (h : Small D) : tot D ≤ 4194304 := by
  have := s2_eq D.M D.m
  have h1 := h.s
  have h2 := h.t
  have h3 := h.m
  unfold tot; omega
theorem OwnD.mk' {w : World} {lo hi l1 h1 l2 h2 : Nat} {a a' : Option Addr} {D : Dk} (e0 : hi ≤ w.heap.size) (e1 : lo ≤ l1) (e2 : h1 ≤ hi) (e3 : lo ≤ l2) (e4 : h2 ≤ hi) (e5 : h1 ≤ l2 ∨ h2 ≤ l1) (hp : OwnP w l1 h1 a D.n D.L D.Z) (hl : OwnL w l2 h2 a' D.m D.P D.T D.M D.Y) : OwnD w lo hi a a' D :=
  ⟨e0, l1, h1, l2, h2, e1, e2, e3, e4, e5, hp, hl⟩
theorem Writes.wide {lo hi lo' hi' : Nat} {w w' : World} (h : Writes lo hi w w') (e1 : lo' ≤ lo) (e2 : hi ≤ hi') : Writes lo' hi' w w' :=
  ⟨h.os, h.tape, h.output, h.size, fun k hk hd => h.block k hk (by omega)⟩
set_option maxHeartbeats 400000 in
theorem markDisk_any (D : Dk) (a a' : Option Addr) (cap cap' lo hi : Nat) (m : Int) (w : World) (hs : Small D) (hm1 : 0 ≤ m) (hm2 : m ≤ 1048576) (h : OwnD w lo hi a a' D) :
    Calls Tryz.prog 47 #[.agg #[.slice a D.n cap, .slice a' D.m cap'], .int .i64 m] w fun e w' => e = .returned (.int .i64 (m + tot D)) ∧ Writes lo hi w w' ∧ OwnD w' lo hi a a' (mD m D) := by
  have HS : Hid (Small D) := hs
  have hsum := hs.s
  unfold tot mD
  obtain ⟨n, L, Z, n', P, T, M, Y⟩ := D
  obtain ⟨h0, l1, h1, l2, h2, e1, e2, e3, e4, e5, hp, hl⟩ := h
  dsimp only at *
  have HP : Hid (OwnP w l1 h1 a n L Z) := hp
  have HL : Hid (OwnL w l2 h2 a' n' P T M Y) := hl
  clear hs hp hl
  go_enter Tryz.func47, Tryz.ntmps47
  go_wp2_with fail
  refine (markByteSS_any n L Z a cap l1 h1 m _ HS.out.n HS.out.s hm1 (by omega) (HP.out.below (below_new _ _))).mono ?_
  rintro e w1 ⟨rfl, hw1, ho1⟩
  have HW : Hid (Writes l1 h1 w w1) := (Writes.of_below (below_new _ _)).trans hw1
  have hlt : h1 ≤ w.heap.size := HP.out.1
  have q1 : w1.cell? ⟨w.heap.size, 1, none⟩ = some (.slice a' n' cap') := by
    rw [hw1.cell (by simp) (by omega) _]; simp [go_sem]
  have HO1 : Hid (OwnP w1 l1 h1 a n L (mZ m L)) := ho1
  have hz1 : w.heap.size ≤ w1.heap.size := HW.out.size
  clear hw1 ho1
  go_wp2_with fail
  refine (markLooseS_any n' P T M Y a' cap' l2 h2 (m + sumL L n) _ HS.out.m HS.out.t (by omega) (by omega) (HL.out.writes HW.out (by omega))).mono ?_
  rintro e w2 ⟨rfl, hw2, ho2⟩
  have hz2 : w1.heap.size ≤ w2.heap.size := hw2.size
  go_wp2_with fail
  go_ret
  refine ⟨ret_int (by rw [Int.natCast_add]; omega), (HW.out.wide e1 e2).trans (hw2.wide e3 e4), ?_⟩
  exact OwnD.mk' (by omega) e1 e2 e3 e4 e5 (HO1.out.writes hw2 (by omega)) ho2
theorem heldDisk_any (D : Dk) (a a' : Option Addr) (cap cap' : Nat) (m : Int) (w : World) (hs : Small D) (hm1 : 0 ≤ m) (hm2 : m ≤ 1048576) (h : DiskAt w a a' (mD m D)) :
    Calls Tryz.prog 113 #[.agg #[.slice a D.n cap, .slice a' D.m cap'], .int .i64 m] w fun e w' => e = .returned (.int .i64 (m + tot D)) ∧ Below w.heap.size w w' := by
  have HS : Hid (Small D) := hs
  have hsum := hs.s
  have htot : (tot D : Int) = sumL D.L D.n + s2 D.M D.m := by simp [tot]
  unfold mD at h
  obtain ⟨n, L, Z, n', P, T, M, Y⟩ := D
  obtain ⟨hp, hl⟩ := h
  dsimp only at *
  have HP : Hid (PagesAt w a n L (mZ m L)) := hp
  have HL : Hid (LoosesAt w a' n' (mP (m + sumL L n) M) (mT (m + sumL L n) M) M (mY (m + sumL L n) M)) := hl
  have HT : Hid ((tot ⟨n, L, Z, n', P, T, M, Y⟩ : Int) = sumL L n + s2 M n') := htot
  generalize (tot ⟨n, L, Z, n', P, T, M, Y⟩ : Int) = tt at *
  clear hs hp hl htot
  have hneg : ¬ (m + (sumL L n : Int) < 0) := by omega
  have hneg2 : ¬ (m + (sumL L n : Int) + (s2 M n' : Int) < 0) := by omega
  go_enter Tryz.func113, Tryz.ntmps113
  go_wp2_with fail
  refine (heldByteSS_any n L a cap m _ HS.out.n HS.out.s hm1 (by omega) (HP.out.below (below_new _ _))).mono ?_
  rintro e w1 ⟨rfl, rfl⟩
  go_wp2_with fail
  refine (heldLooseS_any n' M a' cap' (m + sumL L n) _ HS.out.m HS.out.t (by omega) (by omega) (HL.out.below (below_new _ _))).mono ?_
  rintro e w2 ⟨rfl, rfl⟩
  go_wp2_with fail
  go_ret
  exact ⟨ret_int (by rw [HT.out]; omega), below_new _ _⟩
end Go.Proofs.YtaokclhcmgbgnaaGreat
