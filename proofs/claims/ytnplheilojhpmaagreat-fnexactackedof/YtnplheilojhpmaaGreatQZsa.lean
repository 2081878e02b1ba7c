/- Stores in memory: what they hold, sizes, copies, equal. -/
import Derived.Test.YtnplheilojhpmaaGreatQZpa
import Derived.Test.YtnplheilojhpmaaGreatQZha
import Derived.Test.YtnplheilojhpmaaGreatQDe
import Derived.Test.YtnplheilojhpmaaGreatQLi
namespace Go.Proofs.YtnplheilojhpmaaGreat
open Go.ChangeShapes Go.WideShapes Go.ChangeAt Go.RowKit Go.Deep Go.Joins
set_option linter.unusedVariables false
set_option maxRecDepth 20000

structure Sto where
  nx : Int
  pn : Nat
  pT : Nat → Pg
  d : Dk
  g : Lo
  hn : Nat
  hK : Nat → Int
  hV : Nat → Int
  on : Nat
  oF : Nat → Int
def BigD (d : Dk) : Prop := d.n ≤ 9223372036854775807 ∧ (∀ i, i < d.n → d.L i ≤ 9223372036854775807) ∧ d.m ≤ 9223372036854775807 ∧ (∀ i, i < d.m → d.M i ≤ 9223372036854775807)
def BigSt (t : Sto) : Prop := (t.pn ≤ 9223372036854775807 ∧ ∀ i, i < t.pn → BigPg (t.pT i)) ∧ BigD t.d ∧ (t.g.n1 ≤ 9223372036854775807 ∧ t.g.n2 ≤ 9223372036854775807) ∧ t.hn ≤ 9223372036854775807 ∧ t.on ≤ 9223372036854775807
def SmSt (t : Sto) : Prop := (t.pn ≤ 1048576 ∧ (∀ i, i < t.pn → SmPg (t.pT i)) ∧ smPg t.pT t.pn ≤ 1048576) ∧ Small t.d ∧ (t.g.n1 ≤ 1048576 ∧ t.g.n2 ≤ 1048576) ∧ t.hn ≤ 1048576 ∧ t.on ≤ 1048576
/-- How many elements its slices have. -/
def szSt (t : Sto) : Nat := t.pn + smPg t.pT t.pn + (t.d.n + sumL t.d.L t.d.n + t.d.m + sumL t.d.M t.d.m) + (t.g.n1 + t.g.n2) + t.hn + t.on
theorem smallSt {t : Sto} (h : 0 ≤ (1048576 : Int) - szSt t) : SmSt t := by
  unfold szSt at h
  refine ⟨⟨by omega, fun i hi => ?_, by omega⟩, small_of (by omega), ⟨by omega, by omega⟩, by omega, by omega⟩
  have := smf9_ge (fun i => szPg (t.pT i)) t.pn i hi
  unfold smPg at h
  unfold szPg at *
  exact ⟨by omega, trivial⟩
/-- What its slices hold. -/
def InSt (w : World) (a0 a1 a2 a3 a4 a5 a6 : Option Addr) (t : Sto) : Prop := PgsAt w a0 t.pn t.pT ∧ DiskAt w a1 a2 t.d ∧ LogAt w a3 a4 t.g ∧ CellsAt w a5 t.hn t.hK t.hV ∧ IntsAt w a6 t.on t.oF
theorem InSt.below {w w' : World} {a0 a1 a2 a3 a4 a5 a6 : Option Addr} {t : Sto} (h : InSt w a0 a1 a2 a3 a4 a5 a6 t) (hb : Below w.heap.size w w') : InSt w' a0 a1 a2 a3 a4 a5 a6 t := by
  obtain ⟨h0, h1, h2, h3, h4⟩ := h
  exact ⟨h0.below hb, h1.below hb, h2.below hb, h3.below hb, h4.below hb⟩
/-- In blocks of their own, one behind the other, from l on, below h. -/
def OwnInSt (w : World) (l h : Nat) (a0 a1 a2 a3 a4 a5 a6 : Option Addr) (t : Sto) : Prop := ∃ m0 m1 m2 m3 m4 m5, l ≤ m0 ∧ m0 ≤ m1 ∧ m1 ≤ m2 ∧ m2 ≤ m3 ∧ m3 ≤ m4 ∧ m4 ≤ m5 ∧ m5 ≤ h ∧ h ≤ w.heap.size ∧ OwnPg w m0 m1 a0 t.pn t.pT ∧ OwnD w m1 m2 a1 a2 t.d ∧ OwnG w m2 m3 a3 a4 t.g ∧ Own w m3 m4 a5 t.hn t.hK t.hV ∧ OwnI w m4 m5 a6 t.on t.oF
theorem OwnInSt.writes {w w' : World} {l h lo' hi' : Nat} {a0 a1 a2 a3 a4 a5 a6 : Option Addr} {t : Sto} (k : OwnInSt w l h a0 a1 a2 a3 a4 a5 a6 t) (hw : Writes lo' hi' w w') (hd : h ≤ lo' ∨ hi' ≤ l) : OwnInSt w' l h a0 a1 a2 a3 a4 a5 a6 t := by
  obtain ⟨m0, m1, m2, m3, m4, m5, g0, g1, g2, g3, g4, g5, g6, gz, k0, k1, k2, k3, k4⟩ := k
  exact ⟨m0, m1, m2, m3, m4, m5, g0, g1, g2, g3, g4, g5, g6, Nat.le_trans gz hw.size, k0.writes hw (by omega), k1.writes hw (by omega), k2.writes hw (by omega), k3.writes hw (by omega), k4.writes hw (by omega)⟩
theorem OwnInSt.at {w : World} {l h : Nat} {a0 a1 a2 a3 a4 a5 a6 : Option Addr} {t : Sto} (k : OwnInSt w l h a0 a1 a2 a3 a4 a5 a6 t) : InSt w a0 a1 a2 a3 a4 a5 a6 t := by
  obtain ⟨m0, m1, m2, m3, m4, m5, g0, g1, g2, g3, g4, g5, g6, gz, k0, k1, k2, k3, k4⟩ := k
  exact ⟨k0.at, k1.at, k2.at, k3.at, k4.at⟩
theorem OwnInSt.below {w w' : World} {l h : Nat} {a0 a1 a2 a3 a4 a5 a6 : Option Addr} {t : Sto} (k : OwnInSt w l h a0 a1 a2 a3 a4 a5 a6 t) (hb : Below w.heap.size w w') : OwnInSt w' l h a0 a1 a2 a3 a4 a5 a6 t :=
  k.writes (Writes.of_below (lo := h) (hi := h) hb) (.inl (Nat.le_refl _))
theorem OwnInSt.wide {w : World} {l h l' h' : Nat} {a0 a1 a2 a3 a4 a5 a6 : Option Addr} {t : Sto} (k : OwnInSt w l h a0 a1 a2 a3 a4 a5 a6 t) (h1 : l' ≤ l) (h2 : h ≤ h') (h3 : h' ≤ w.heap.size) : OwnInSt w l' h' a0 a1 a2 a3 a4 a5 a6 t := by
  obtain ⟨m0, m1, m2, m3, m4, m5, g0, g1, g2, g3, g4, g5, g6, gz, k0, k1, k2, k3, k4⟩ := k
  exact ⟨m0, m1, m2, m3, m4, m5, by omega, by omega, by omega, by omega, by omega, by omega, by omega, h3, k0, k1, k2, k3, k4⟩
/-! ### sizes -/
theorem szDisk_xx (n m : Nat) (L : Nat → Nat) (Z : Nat → Nat → Int) (P T : Nat → Int) (L' : Nat → Nat) (Z' : Nat → Nat → Int) (a a' : Option Addr) (cap cap' : Nat) (x : Int) (w : World) (hx0 : 0 ≤ x) (hx1 : x ≤ 1048576)
    (hn : n ≤ 9223372036854775807) (hL : ∀ i, i < n → L i ≤ 9223372036854775807) (hm : m ≤ 9223372036854775807) (hL' : ∀ i, i < m → L' i ≤ 9223372036854775807) (h : PagesAt w a n L Z) (h' : LoosesAt w a' m P T L' Z') :
    Calls Tryz.prog 14 #[.agg #[.slice a n cap, .slice a' m cap'], .int .i64 x] w fun e w' => Below w.heap.size w w' ∧ ∃ r : Int, e = .returned (.int .i64 r) ∧ (r = -1 ∨ (0 ≤ r ∧ r = x - n - sumL L n - m - sumL L' m)) := by
  have HL : Hid (∀ i, i < n → L i ≤ 9223372036854775807) := hL
  have HL' : Hid (∀ i, i < m → L' i ≤ 9223372036854775807) := hL'
  have HA : Hid (PagesAt w a n L Z) := h
  have HA' : Hid (LoosesAt w a' m P T L' Z') := h'
  clear hL hL' h h'
  go_enter Tryz.func14, Tryz.ntmps14
  go_wp2_with fail
  refine (szByteSS_any n L Z a cap x _ hn HL.out (by omega) (by omega) (HA.out.below (below_new _ _))).mono ?_
  rintro e w1 ⟨rfl, r, rfl, hr⟩
  rcases hr with rfl | ⟨hr0, hr1⟩
  · go_wp2
    go_ret
    exact ⟨below_new _ _, _, rfl, .inl rfl⟩
  · have hr2 : r ≤ 1048576 := by omega
    have HR : Hid (r = x - n - sumL L n) := hr1
    clear hr1
    go_wp2_with fail
    refine (szLooseS_any m P T L' Z' a' cap' r _ hm HL'.out hr0 hr2 (HA'.out.below (below_new _ _))).mono ?_
    rintro e w2 ⟨hb, s, rfl, hs⟩
    have HB := below_then (below_new w _) hb
    rcases hs with rfl | ⟨hs0, hs1⟩
    · go_wp2
      go_ret
      exact ⟨HB, _, rfl, .inl rfl⟩
    · have HS : Hid (s = r - m - sumL L' m) := hs1
      clear hs1
      go_wp2
      go_ret
      exact ⟨HB, _, rfl, .inr ⟨hs0, by rw [HS.out, HR.out]⟩⟩
theorem szDisk_x (d : Dk) (a a' : Option Addr) (cap cap' : Nat) (x : Int) (w : World) (h1 : d.n ≤ 9223372036854775807) (h2 : ∀ i, i < d.n → d.L i ≤ 9223372036854775807) (h3 : d.m ≤ 9223372036854775807) (h4 : ∀ i, i < d.m → d.M i ≤ 9223372036854775807) (hx0 : 0 ≤ x) (hx1 : x ≤ 1048576) (h : DiskAt w a a' d) :
    Calls Tryz.prog 14 #[.agg #[.slice a d.n cap, .slice a' d.m cap'], .int .i64 x] w fun e w' => Below w.heap.size w w' ∧ ∃ r : Int, e = .returned (.int .i64 r) ∧ (r = -1 ∨ (0 ≤ r ∧ r = x - d.n - sumL d.L d.n - d.m - sumL d.M d.m)) :=
  szDisk_xx d.n d.m d.L d.Z d.P d.T d.M d.Y a a' cap cap' x w hx0 hx1 h1 h2 h3 h4 h.1 h.2
theorem szLog_x (L : Lo) (a1 a2 : Option Addr) (c1 c2 : Nat) (x : Int) (w : World) (hn1 : L.n1 ≤ 9223372036854775807) (hn2 : L.n2 ≤ 9223372036854775807) (hx0 : 0 ≤ x) (hx1 : x ≤ 1048576) :
    Calls Tryz.prog 15 #[.agg #[.slice a1 L.n1 c1, .slice a2 L.n2 c2], .int .i64 x] w fun e w' => Below w.heap.size w w' ∧ ∃ r : Int, e = .returned (.int .i64 r) ∧ (r = -1 ∨ (0 ≤ r ∧ r = x - L.n1 - L.n2)) := by
  go_enter Tryz.func15, Tryz.ntmps15
  go_wp2_with fail
  refine (szByteS_any L.n1 a1 c1 x _ hn1 (by omega) (by omega)).mono ?_
  rintro e w1 ⟨rfl, rfl⟩
  by_cases h1 : x - L.n1 < 0
  · rw [if_pos h1]
    go_wp2_with fail
    go_ret
    exact ⟨below_new _ _, _, rfl, .inl rfl⟩
  · rw [if_neg h1]
    go_wp2_with fail
    refine (szByteS_any L.n2 a2 c2 (x - L.n1) _ hn2 (by omega) (by omega)).mono ?_
    rintro e w2 ⟨rfl, rfl⟩
    by_cases h2 : x - L.n1 - L.n2 < 0
    · rw [if_pos h2]
      go_wp2_with fail
      go_ret
      exact ⟨below_new _ _, _, rfl, .inl rfl⟩
    · rw [if_neg h2]
      go_wp2_with fail
      go_ret
      exact ⟨below_new _ _, _, rfl, .inr ⟨by omega, rfl⟩⟩
set_option maxHeartbeats 2000000 in
theorem szStore_any (t : Sto) (a0 : Option Addr) (c0 : Nat) (a1 : Option Addr) (c1 : Nat) (a2 : Option Addr) (c2 : Nat) (a3 : Option Addr) (c3 : Nat) (a4 : Option Addr) (c4 : Nat) (a5 : Option Addr) (c5 : Nat) (a6 : Option Addr) (c6 : Nat) (x : Int) (w : World) (hB : BigSt t) (h0 : 0 ≤ x) (h1 : x ≤ 1048576) (h : InSt w a0 a1 a2 a3 a4 a5 a6 t) :
    Calls Tryz.prog 4 #[.agg #[.int .i64 t.nx, .slice a0 t.pn c0, .slice a1 t.d.n c1, .slice a2 t.d.m c2, .slice a3 t.g.n1 c3, .slice a4 t.g.n2 c4, .slice a5 t.hn c5, .slice a6 t.on c6], .int .i64 x] w fun e w' => Below w.heap.size w w' ∧ ∃ r : Int, e = .returned (.int .i64 r) ∧ (r = -1 ∨ (0 ≤ r ∧ r = x - szSt t)) := by
  obtain ⟨hB0, hB1, hB2, hB3, hB4⟩ := hB
  have HA : Hid (InSt w a0 a1 a2 a3 a4 a5 a6 t) := h
  have HZ : Hid (szSt t = t.pn + smPg t.pT t.pn + (t.d.n + sumL t.d.L t.d.n + t.d.m + sumL t.d.M t.d.m) + (t.g.n1 + t.g.n2) + t.hn + t.on) := rfl
  clear h
  go_enter Tryz.func4, Tryz.ntmps4
  go_wp2_with fail
  refine (szPageS_any t.pn t.pT a0 c0 x _ hB0.1 hB0.2 (by omega) (by omega) ((HA.out.1).below (below_new _ _))).mono ?_
  rintro e w1 ⟨hb, r0, rfl, hr⟩
  have HB1 : Hid (Below w.heap.size w w1) := below_then (below_new _ _) hb
  have q1 : w1.cell? ⟨w.heap.size, 2, none⟩ = some (.slice a1 t.d.n c1) := by rw [(bcell29 hb).1 _ _ (by simp)]; simp [go_sem]
  have q2 : w1.cell? ⟨w.heap.size, 3, none⟩ = some (.slice a2 t.d.m c2) := by rw [(bcell29 hb).1 _ _ (by simp)]; simp [go_sem]
  have q3 : w1.cell? ⟨w.heap.size, 4, none⟩ = some (.slice a3 t.g.n1 c3) := by rw [(bcell29 hb).1 _ _ (by simp)]; simp [go_sem]
  have q4 : w1.cell? ⟨w.heap.size, 5, none⟩ = some (.slice a4 t.g.n2 c4) := by rw [(bcell29 hb).1 _ _ (by simp)]; simp [go_sem]
  have q5 : w1.cell? ⟨w.heap.size, 6, none⟩ = some (.slice a5 t.hn c5) := by rw [(bcell29 hb).1 _ _ (by simp)]; simp [go_sem]
  have q6 : w1.cell? ⟨w.heap.size, 7, none⟩ = some (.slice a6 t.on c6) := by rw [(bcell29 hb).1 _ _ (by simp)]; simp [go_sem]
  clear hb
  rcases hr with rfl | ⟨hr0, hr1⟩
  · go_wp2_with fail
    go_ret
    exact ⟨HB1.out, _, rfl, .inl rfl⟩
  have hng0 : ¬ r0 < 0 := by omega
  have HR0 : Hid (r0 = x - t.pn - smPg t.pT t.pn) := hr1
  have hle0 : r0 ≤ 1048576 := by omega
  clear hr1
  go_wp2_with fail
  refine (szDisk_x t.d a1 a2 c1 c2 r0 _ hB1.1 hB1.2.1 hB1.2.2.1 hB1.2.2.2 (by omega) (by omega) ((HA.out.2.1).below HB1.out)).mono ?_
  rintro e w2 ⟨hb, r1, rfl, hr⟩
  have HB2 : Hid (Below w.heap.size w w2) := below_then HB1.out hb
  replace q3 := cell_below q3 hb
  replace q4 := cell_below q4 hb
  replace q5 := cell_below q5 hb
  replace q6 := cell_below q6 hb
  clear hb
  rcases hr with rfl | ⟨hr0, hr1⟩
  · go_wp2_with fail
    go_ret
    exact ⟨HB2.out, _, rfl, .inl rfl⟩
  have hng1 : ¬ r1 < 0 := by omega
  have HR1 : Hid (r1 = r0 - t.d.n - sumL t.d.L t.d.n - t.d.m - sumL t.d.M t.d.m) := hr1
  have hle1 : r1 ≤ 1048576 := by omega
  clear hr1
  go_wp2_with fail
  refine (szLog_x t.g a3 a4 c3 c4 r1 _ hB2.1 hB2.2 (by omega) (by omega)).mono ?_
  rintro e w3 ⟨hb, r2, rfl, hr⟩
  have HB3 : Hid (Below w.heap.size w w3) := below_then HB2.out hb
  replace q5 := cell_below q5 hb
  replace q6 := cell_below q6 hb
  clear hb
  rcases hr with rfl | ⟨hr0, hr1⟩
  · go_wp2_with fail
    go_ret
    exact ⟨HB3.out, _, rfl, .inl rfl⟩
  have hng2 : ¬ r2 < 0 := by omega
  have HR2 : Hid (r2 = r1 - t.g.n1 - t.g.n2) := hr1
  have hle2 : r2 ≤ 1048576 := by omega
  clear hr1
  go_wp2_with fail
  refine (szHeldS_r t.hn a5 c5 r2 _ hB3 (by omega) (by omega)).mono ?_
  rintro e w4 ⟨hb, r3, rfl, hr⟩
  have HB4 : Hid (Below w.heap.size w w4) := below_then HB3.out hb
  replace q6 := cell_below q6 hb
  clear hb
  rcases hr with rfl | ⟨hr0, hr1⟩
  · go_wp2_with fail
    go_ret
    exact ⟨HB4.out, _, rfl, .inl rfl⟩
  have hng3 : ¬ r3 < 0 := by omega
  have HR3 : Hid (r3 = r2 - t.hn) := hr1
  have hle3 : r3 ≤ 1048576 := by omega
  clear hr1
  go_wp2_with fail
  refine (szInt64S_r t.on a6 c6 r3 _ hB4 (by omega) (by omega)).mono ?_
  rintro e w5 ⟨hb, r4, rfl, hr⟩
  have HB5 : Hid (Below w.heap.size w w5) := below_then HB4.out hb
  clear hb
  rcases hr with rfl | ⟨hr0, hr1⟩
  · go_wp2_with fail
    go_ret
    exact ⟨HB5.out, _, rfl, .inl rfl⟩
  have hng4 : ¬ r4 < 0 := by omega
  have HR4 : Hid (r4 = r3 - t.on) := hr1
  have hle4 : r4 ≤ 1048576 := by omega
  clear hr1
  go_wp2_with fail
  go_ret
  exact ⟨HB5.out, _, rfl, .inr ⟨hr0, by have e0 := HR0.out; have e1 := HR1.out; have e2 := HR2.out; have e3 := HR3.out; have e4 := HR4.out; have ez := HZ.out; omega⟩⟩
/-! ### one copied -/
set_option maxHeartbeats 8000000 in
theorem toStore_any (t : Sto) (a0 : Option Addr) (c0 : Nat) (a1 : Option Addr) (c1 : Nat) (a2 : Option Addr) (c2 : Nat) (a3 : Option Addr) (c3 : Nat) (a4 : Option Addr) (c4 : Nat) (a5 : Option Addr) (c5 : Nat) (a6 : Option Addr) (c6 : Nat) (w : World) (hS : SmSt t) (h : InSt w a0 a1 a2 a3 a4 a5 a6 t) :
    Calls Tryz.prog 6 #[.agg #[.int .i64 t.nx, .slice a0 t.pn c0, .slice a1 t.d.n c1, .slice a2 t.d.m c2, .slice a3 t.g.n1 c3, .slice a4 t.g.n2 c4, .slice a5 t.hn c5, .slice a6 t.on c6]] w fun e w' =>
      ∃ B0 B1 B2 B3 B4 B5 B6, e = .returned (.agg #[.int .i64 t.nx, .slice (some ⟨B0, 0, none⟩) t.pn t.pn, .slice (some ⟨B1, 0, none⟩) t.d.n t.d.n, .slice (some ⟨B2, 0, none⟩) t.d.m t.d.m, .slice (some ⟨B3, 0, none⟩) t.g.n1 t.g.n1, .slice (some ⟨B4, 0, none⟩) t.g.n2 t.g.n2, .slice (some ⟨B5, 0, none⟩) t.hn t.hn, .slice (some ⟨B6, 0, none⟩) t.on t.on]) ∧ Below w.heap.size w w' ∧ OwnInSt w' w.heap.size w'.heap.size (some ⟨B0, 0, none⟩) (some ⟨B1, 0, none⟩) (some ⟨B2, 0, none⟩) (some ⟨B3, 0, none⟩) (some ⟨B4, 0, none⟩) (some ⟨B5, 0, none⟩) (some ⟨B6, 0, none⟩) t := by
  obtain ⟨hS0, hS1, hS2, hS3, hS4⟩ := hS
  have HA : Hid (InSt w a0 a1 a2 a3 a4 a5 a6 t) := h
  clear h
  go_enter Tryz.func6, Tryz.ntmps6
  go_wp2_with fail
  have hb0 : ∀ o1 o2 o3, Below w.heap.size w (((w.alloc o1).alloc o2).alloc o3) := fun o1 o2 o3 => (((Below.refl _ _).alloc (Nat.le_refl _) _).alloc (by simp) _).alloc (by simp; omega) _
  refine (toPageS_any t.pn t.pT a0 c0 _ hS0.1 hS0.2.1 ((HA.out.1).below (hb0 _ _ _))).mono ?_
  rintro e w1 ⟨rfl, hb, hr⟩
  obtain ⟨hc, hf⟩ := bcell29 hb
  have hz : w.heap.size + 3 ≤ w1.heap.size := by have := hb.size; simp at this; omega
  have e3 : ∀ o1 o2 o3 : Obj, (((w.alloc o1).alloc o2).alloc o3).heap.size = w.heap.size + 3 := fun _ _ _ => by simp
  rw [e3] at hr
  rw [e3]
  have HR0 : Hid (OwnPg w1 (w.heap.size + 3) w1.heap.size (some ⟨w.heap.size + 3, 0, none⟩) t.pn t.pT) := hr
  have HB1 : Hid (Below w.heap.size w w1) := below_then (hb0 _ _ _) hb
  have r1 : w1.cell? ⟨w.heap.size, 2, none⟩ = some (.slice a1 t.d.n c1) := by rw [hc _ _ (by simp <;> omega)]; simp [go_sem]
  have r2 : w1.cell? ⟨w.heap.size, 3, none⟩ = some (.slice a2 t.d.m c2) := by rw [hc _ _ (by simp <;> omega)]; simp [go_sem]
  have r3 : w1.cell? ⟨w.heap.size, 4, none⟩ = some (.slice a3 t.g.n1 c3) := by rw [hc _ _ (by simp <;> omega)]; simp [go_sem]
  have r4 : w1.cell? ⟨w.heap.size, 5, none⟩ = some (.slice a4 t.g.n2 c4) := by rw [hc _ _ (by simp <;> omega)]; simp [go_sem]
  have r5 : w1.cell? ⟨w.heap.size, 6, none⟩ = some (.slice a5 t.hn c5) := by rw [hc _ _ (by simp <;> omega)]; simp [go_sem]
  have r6 : w1.cell? ⟨w.heap.size, 7, none⟩ = some (.slice a6 t.on c6) := by rw [hc _ _ (by simp <;> omega)]; simp [go_sem]
  have s0 : w1.cell? ⟨w.heap.size + 1, 0, none⟩ = some (.int .i64 0) := by rw [hc _ _ (by simp <;> omega)]; simp [go_sem]
  have s1 : w1.cell? ⟨w.heap.size + 1, 1, none⟩ = some (.slice none 0 0) := by rw [hc _ _ (by simp <;> omega)]; simp [go_sem]
  have s2 : w1.cell? ⟨w.heap.size + 1, 2, none⟩ = some (.slice none 0 0) := by rw [hc _ _ (by simp <;> omega)]; simp [go_sem]
  have s3 : w1.cell? ⟨w.heap.size + 1, 3, none⟩ = some (.slice none 0 0) := by rw [hc _ _ (by simp <;> omega)]; simp [go_sem]
  have s4 : w1.cell? ⟨w.heap.size + 1, 4, none⟩ = some (.slice none 0 0) := by rw [hc _ _ (by simp <;> omega)]; simp [go_sem]
  have s5 : w1.cell? ⟨w.heap.size + 1, 5, none⟩ = some (.slice none 0 0) := by rw [hc _ _ (by simp <;> omega)]; simp [go_sem]
  have s6 : w1.cell? ⟨w.heap.size + 1, 6, none⟩ = some (.slice none 0 0) := by rw [hc _ _ (by simp <;> omega)]; simp [go_sem]
  have s7 : w1.cell? ⟨w.heap.size + 1, 7, none⟩ = some (.slice none 0 0) := by rw [hc _ _ (by simp <;> omega)]; simp [go_sem]
  have x0 : w1.cell? ⟨w.heap.size + 2, 0, none⟩ = some (.int .i64 t.nx) := by rw [hc _ _ (by simp <;> omega)]; simp [go_sem]
  have x1 : w1.cell? ⟨w.heap.size + 2, 1, none⟩ = some (.slice none 0 0) := by rw [hc _ _ (by simp <;> omega)]; simp [go_sem]
  have x2 : w1.cell? ⟨w.heap.size + 2, 2, none⟩ = some (.slice none 0 0) := by rw [hc _ _ (by simp <;> omega)]; simp [go_sem]
  have x3 : w1.cell? ⟨w.heap.size + 2, 3, none⟩ = some (.slice none 0 0) := by rw [hc _ _ (by simp <;> omega)]; simp [go_sem]
  have x4 : w1.cell? ⟨w.heap.size + 2, 4, none⟩ = some (.slice none 0 0) := by rw [hc _ _ (by simp <;> omega)]; simp [go_sem]
  have x5 : w1.cell? ⟨w.heap.size + 2, 5, none⟩ = some (.slice none 0 0) := by rw [hc _ _ (by simp <;> omega)]; simp [go_sem]
  have x6 : w1.cell? ⟨w.heap.size + 2, 6, none⟩ = some (.slice none 0 0) := by rw [hc _ _ (by simp <;> omega)]; simp [go_sem]
  have x7 : w1.cell? ⟨w.heap.size + 2, 7, none⟩ = some (.slice none 0 0) := by rw [hc _ _ (by simp <;> omega)]; simp [go_sem]
  have f1 : ∀ i, w1.frozen? ⟨w.heap.size + 1, i, none⟩ = false := fun i => by rw [hf _ _ (by simp <;> omega)]; simp [go_sem]
  have f2 : ∀ i, w1.frozen? ⟨w.heap.size + 2, i, none⟩ = false := fun i => by rw [hf _ _ (by simp <;> omega)]; simp [go_sem]
  clear hc hf hb hr e3 hb0
  go_upto_region 4 with fail
  obtain ⟨W1, hW⟩ : ∃ y, y = w1.setCell ⟨w.heap.size + 2, 1, none⟩ (.slice (some ⟨w.heap.size + 3, 0, none⟩) t.pn t.pn) := ⟨_, rfl⟩
  replace x0 : W1.cell? ⟨w.heap.size + 2, 0, none⟩ = some (.int .i64 t.nx) := by rw [hW, setO (by omega)]; exact x0
  replace x1 : W1.cell? ⟨w.heap.size + 2, 1, none⟩ = some (.slice (some ⟨w.heap.size + 3, 0, none⟩) t.pn t.pn) := by rw [hW]; exact setS x1
  replace x2 : W1.cell? ⟨w.heap.size + 2, 2, none⟩ = some (.slice none 0 0) := by rw [hW, setO (by omega)]; exact x2
  replace x3 : W1.cell? ⟨w.heap.size + 2, 3, none⟩ = some (.slice none 0 0) := by rw [hW, setO (by omega)]; exact x3
  replace x4 : W1.cell? ⟨w.heap.size + 2, 4, none⟩ = some (.slice none 0 0) := by rw [hW, setO (by omega)]; exact x4
  replace x5 : W1.cell? ⟨w.heap.size + 2, 5, none⟩ = some (.slice none 0 0) := by rw [hW, setO (by omega)]; exact x5
  replace x6 : W1.cell? ⟨w.heap.size + 2, 6, none⟩ = some (.slice none 0 0) := by rw [hW, setO (by omega)]; exact x6
  replace x7 : W1.cell? ⟨w.heap.size + 2, 7, none⟩ = some (.slice none 0 0) := by rw [hW, setO (by omega)]; exact x7
  have far : ∀ b i, b ≠ w.heap.size + 2 → W1.cell? ⟨b, i, none⟩ = w1.cell? ⟨b, i, none⟩ := fun b i hne => by rw [hW]; exact World.cell?_setCell_far _ _ _ _ (Ne.symm hne)
  replace r1 := (far _ _ (by omega)).trans r1
  replace r2 := (far _ _ (by omega)).trans r2
  replace r3 := (far _ _ (by omega)).trans r3
  replace r4 := (far _ _ (by omega)).trans r4
  replace r5 := (far _ _ (by omega)).trans r5
  replace r6 := (far _ _ (by omega)).trans r6
  replace s0 := (far _ _ (by omega)).trans s0
  replace s1 := (far _ _ (by omega)).trans s1
  replace s2 := (far _ _ (by omega)).trans s2
  replace s3 := (far _ _ (by omega)).trans s3
  replace s4 := (far _ _ (by omega)).trans s4
  replace s5 := (far _ _ (by omega)).trans s5
  replace s6 := (far _ _ (by omega)).trans s6
  replace s7 := (far _ _ (by omega)).trans s7
  replace f1 : ∀ i, W1.frozen? ⟨w.heap.size + 1, i, none⟩ = false := fun i => by rw [hW, World.frozen?_setCell]; exact f1 i
  replace f2 : ∀ i, W1.frozen? ⟨w.heap.size + 2, i, none⟩ = false := fun i => by rw [hW, World.frozen?_setCell]; exact f2 i
  have hsz1 : W1.heap.size = w1.heap.size := by rw [hW]; simp [World.setCell]
  have HW : Hid (Writes (w.heap.size) (w.heap.size + 3) w1 W1) := by rw [hW]; exact ((Writes.refl _ _ _).setCell (by simp) (by simp) _)
  rw [← hW]
  clear hW far
  replace HB1 : Hid (Below w.heap.size w W1) := HW.out.below HB1.out (Nat.le_refl _)
  replace HR0 : Hid (OwnPg W1 (w.heap.size + 3) w1.heap.size (some ⟨w.heap.size + 3, 0, none⟩) t.pn t.pT) := HR0.out.writes HW.out (.inr (by omega))
  clear HW
  go_wp2_with fail
  refine (toDisk_any t.d a1 a2 c1 c2 _ hS1 ((HA.out.2.1).below HB1.out)).mono ?_
  rintro e w2 ⟨B1, B2, rfl, hb, hr⟩
  have HB2 : Hid (Below w.heap.size w w2) := below_then HB1.out hb
  rw [hsz1] at hr
  have HR1 : Hid (OwnD w2 w1.heap.size w2.heap.size (some ⟨B1, 0, none⟩) (some ⟨B2, 0, none⟩) t.d) := hr
  replace HR0 : Hid (OwnPg w2 (w.heap.size + 3) w1.heap.size (some ⟨w.heap.size + 3, 0, none⟩) t.pn t.pT) := HR0.out.below hb
  have hz1 : w1.heap.size ≤ w2.heap.size := by have := hb.size; omega
  replace x0 := cell_below x0 hb
  replace x1 := cell_below x1 hb
  replace x2 := cell_below x2 hb
  replace x3 := cell_below x3 hb
  replace x4 := cell_below x4 hb
  replace x5 := cell_below x5 hb
  replace x6 := cell_below x6 hb
  replace x7 := cell_below x7 hb
  replace s0 := cell_below s0 hb
  replace s1 := cell_below s1 hb
  replace s2 := cell_below s2 hb
  replace s3 := cell_below s3 hb
  replace s4 := cell_below s4 hb
  replace s5 := cell_below s5 hb
  replace s6 := cell_below s6 hb
  replace s7 := cell_below s7 hb
  replace r3 := cell_below r3 hb
  replace r4 := cell_below r4 hb
  replace r5 := cell_below r5 hb
  replace r6 := cell_below r6 hb
  replace f1 : ∀ i, w2.frozen? ⟨w.heap.size + 1, i, none⟩ = false := fun i => (hb.frozen (p := ⟨_, i, none⟩) (by show w.heap.size + 1 < W1.heap.size; omega)).trans (f1 i)
  replace f2 : ∀ i, w2.frozen? ⟨w.heap.size + 2, i, none⟩ = false := fun i => (hb.frozen (p := ⟨_, i, none⟩) (by show w.heap.size + 2 < W1.heap.size; omega)).trans (f2 i)
  clear hb hr hsz1 HB1
  go_upto_region 5 with fail
  obtain ⟨W2, hW⟩ : ∃ y, y = (w2.setCell ⟨w.heap.size + 2, 2, none⟩ (.slice (some ⟨B1, 0, none⟩) t.d.n t.d.n)).setCell ⟨w.heap.size + 2, 3, none⟩ (.slice (some ⟨B2, 0, none⟩) t.d.m t.d.m) := ⟨_, rfl⟩
  replace x0 : W2.cell? ⟨w.heap.size + 2, 0, none⟩ = some (.int .i64 t.nx) := by rw [hW, setO (by omega), setO (by omega)]; exact x0
  replace x1 : W2.cell? ⟨w.heap.size + 2, 1, none⟩ = some (.slice (some ⟨w.heap.size + 3, 0, none⟩) t.pn t.pn) := by rw [hW, setO (by omega), setO (by omega)]; exact x1
  replace x2 : W2.cell? ⟨w.heap.size + 2, 2, none⟩ = some (.slice (some ⟨B1, 0, none⟩) t.d.n t.d.n) := by rw [hW, setO (by omega)]; exact setS x2
  replace x3 : W2.cell? ⟨w.heap.size + 2, 3, none⟩ = some (.slice (some ⟨B2, 0, none⟩) t.d.m t.d.m) := by rw [hW]; exact setS (by rw [setO (by omega)]; exact x3)
  replace x4 : W2.cell? ⟨w.heap.size + 2, 4, none⟩ = some (.slice none 0 0) := by rw [hW, setO (by omega), setO (by omega)]; exact x4
  replace x5 : W2.cell? ⟨w.heap.size + 2, 5, none⟩ = some (.slice none 0 0) := by rw [hW, setO (by omega), setO (by omega)]; exact x5
  replace x6 : W2.cell? ⟨w.heap.size + 2, 6, none⟩ = some (.slice none 0 0) := by rw [hW, setO (by omega), setO (by omega)]; exact x6
  replace x7 : W2.cell? ⟨w.heap.size + 2, 7, none⟩ = some (.slice none 0 0) := by rw [hW, setO (by omega), setO (by omega)]; exact x7
  have far : ∀ b i, b ≠ w.heap.size + 2 → W2.cell? ⟨b, i, none⟩ = w2.cell? ⟨b, i, none⟩ := fun b i hne => by rw [hW, World.cell?_setCell_far _ _ _ _ (Ne.symm hne)]; exact World.cell?_setCell_far _ _ _ _ (Ne.symm hne)
  replace r3 := (far _ _ (by omega)).trans r3
  replace r4 := (far _ _ (by omega)).trans r4
  replace r5 := (far _ _ (by omega)).trans r5
  replace r6 := (far _ _ (by omega)).trans r6
  replace s0 := (far _ _ (by omega)).trans s0
  replace s1 := (far _ _ (by omega)).trans s1
  replace s2 := (far _ _ (by omega)).trans s2
  replace s3 := (far _ _ (by omega)).trans s3
  replace s4 := (far _ _ (by omega)).trans s4
  replace s5 := (far _ _ (by omega)).trans s5
  replace s6 := (far _ _ (by omega)).trans s6
  replace s7 := (far _ _ (by omega)).trans s7
  replace f1 : ∀ i, W2.frozen? ⟨w.heap.size + 1, i, none⟩ = false := fun i => by rw [hW, World.frozen?_setCell, World.frozen?_setCell]; exact f1 i
  replace f2 : ∀ i, W2.frozen? ⟨w.heap.size + 2, i, none⟩ = false := fun i => by rw [hW, World.frozen?_setCell, World.frozen?_setCell]; exact f2 i
  have hsz2 : W2.heap.size = w2.heap.size := by rw [hW]; simp [World.setCell]
  have HW : Hid (Writes (w.heap.size) (w.heap.size + 3) w2 W2) := by rw [hW]; exact (((Writes.refl _ _ _).setCell (by simp) (by simp) _).setCell (by simp) (by simp) _)
  rw [← hW]
  clear hW far
  replace HB2 : Hid (Below w.heap.size w W2) := HW.out.below HB2.out (Nat.le_refl _)
  replace HR0 : Hid (OwnPg W2 (w.heap.size + 3) w1.heap.size (some ⟨w.heap.size + 3, 0, none⟩) t.pn t.pT) := HR0.out.writes HW.out (.inr (by omega))
  replace HR1 : Hid (OwnD W2 w1.heap.size w2.heap.size (some ⟨B1, 0, none⟩) (some ⟨B2, 0, none⟩) t.d) := HR1.out.writes HW.out (.inr (by omega))
  clear HW
  go_wp2_with fail
  refine (toLog_any t.g a3 a4 c3 c4 _ hS2.1 hS2.2 ((HA.out.2.2.1).below HB2.out)).mono ?_
  rintro e w3 ⟨B3, B4, rfl, hb, hr⟩
  have HB3 : Hid (Below w.heap.size w w3) := below_then HB2.out hb
  rw [hsz2] at hr
  have HR2 : Hid (OwnG w3 w2.heap.size w3.heap.size (some ⟨B3, 0, none⟩) (some ⟨B4, 0, none⟩) t.g) := hr
  replace HR0 : Hid (OwnPg w3 (w.heap.size + 3) w1.heap.size (some ⟨w.heap.size + 3, 0, none⟩) t.pn t.pT) := HR0.out.below hb
  replace HR1 : Hid (OwnD w3 w1.heap.size w2.heap.size (some ⟨B1, 0, none⟩) (some ⟨B2, 0, none⟩) t.d) := HR1.out.below hb
  have hz2 : w2.heap.size ≤ w3.heap.size := by have := hb.size; omega
  replace x0 := cell_below x0 hb
  replace x1 := cell_below x1 hb
  replace x2 := cell_below x2 hb
  replace x3 := cell_below x3 hb
  replace x4 := cell_below x4 hb
  replace x5 := cell_below x5 hb
  replace x6 := cell_below x6 hb
  replace x7 := cell_below x7 hb
  replace s0 := cell_below s0 hb
  replace s1 := cell_below s1 hb
  replace s2 := cell_below s2 hb
  replace s3 := cell_below s3 hb
  replace s4 := cell_below s4 hb
  replace s5 := cell_below s5 hb
  replace s6 := cell_below s6 hb
  replace s7 := cell_below s7 hb
  replace r5 := cell_below r5 hb
  replace r6 := cell_below r6 hb
  replace f1 : ∀ i, w3.frozen? ⟨w.heap.size + 1, i, none⟩ = false := fun i => (hb.frozen (p := ⟨_, i, none⟩) (by show w.heap.size + 1 < W2.heap.size; omega)).trans (f1 i)
  replace f2 : ∀ i, w3.frozen? ⟨w.heap.size + 2, i, none⟩ = false := fun i => (hb.frozen (p := ⟨_, i, none⟩) (by show w.heap.size + 2 < W2.heap.size; omega)).trans (f2 i)
  clear hb hr hsz2 HB2
  go_upto_region 6 with fail
  obtain ⟨W3, hW⟩ : ∃ y, y = (w3.setCell ⟨w.heap.size + 2, 4, none⟩ (.slice (some ⟨B3, 0, none⟩) t.g.n1 t.g.n1)).setCell ⟨w.heap.size + 2, 5, none⟩ (.slice (some ⟨B4, 0, none⟩) t.g.n2 t.g.n2) := ⟨_, rfl⟩
  replace x0 : W3.cell? ⟨w.heap.size + 2, 0, none⟩ = some (.int .i64 t.nx) := by rw [hW, setO (by omega), setO (by omega)]; exact x0
  replace x1 : W3.cell? ⟨w.heap.size + 2, 1, none⟩ = some (.slice (some ⟨w.heap.size + 3, 0, none⟩) t.pn t.pn) := by rw [hW, setO (by omega), setO (by omega)]; exact x1
  replace x2 : W3.cell? ⟨w.heap.size + 2, 2, none⟩ = some (.slice (some ⟨B1, 0, none⟩) t.d.n t.d.n) := by rw [hW, setO (by omega), setO (by omega)]; exact x2
  replace x3 : W3.cell? ⟨w.heap.size + 2, 3, none⟩ = some (.slice (some ⟨B2, 0, none⟩) t.d.m t.d.m) := by rw [hW, setO (by omega), setO (by omega)]; exact x3
  replace x4 : W3.cell? ⟨w.heap.size + 2, 4, none⟩ = some (.slice (some ⟨B3, 0, none⟩) t.g.n1 t.g.n1) := by rw [hW, setO (by omega)]; exact setS x4
  replace x5 : W3.cell? ⟨w.heap.size + 2, 5, none⟩ = some (.slice (some ⟨B4, 0, none⟩) t.g.n2 t.g.n2) := by rw [hW]; exact setS (by rw [setO (by omega)]; exact x5)
  replace x6 : W3.cell? ⟨w.heap.size + 2, 6, none⟩ = some (.slice none 0 0) := by rw [hW, setO (by omega), setO (by omega)]; exact x6
  replace x7 : W3.cell? ⟨w.heap.size + 2, 7, none⟩ = some (.slice none 0 0) := by rw [hW, setO (by omega), setO (by omega)]; exact x7
  have far : ∀ b i, b ≠ w.heap.size + 2 → W3.cell? ⟨b, i, none⟩ = w3.cell? ⟨b, i, none⟩ := fun b i hne => by rw [hW, World.cell?_setCell_far _ _ _ _ (Ne.symm hne)]; exact World.cell?_setCell_far _ _ _ _ (Ne.symm hne)
  replace r5 := (far _ _ (by omega)).trans r5
  replace r6 := (far _ _ (by omega)).trans r6
  replace s0 := (far _ _ (by omega)).trans s0
  replace s1 := (far _ _ (by omega)).trans s1
  replace s2 := (far _ _ (by omega)).trans s2
  replace s3 := (far _ _ (by omega)).trans s3
  replace s4 := (far _ _ (by omega)).trans s4
  replace s5 := (far _ _ (by omega)).trans s5
  replace s6 := (far _ _ (by omega)).trans s6
  replace s7 := (far _ _ (by omega)).trans s7
  replace f1 : ∀ i, W3.frozen? ⟨w.heap.size + 1, i, none⟩ = false := fun i => by rw [hW, World.frozen?_setCell, World.frozen?_setCell]; exact f1 i
  replace f2 : ∀ i, W3.frozen? ⟨w.heap.size + 2, i, none⟩ = false := fun i => by rw [hW, World.frozen?_setCell, World.frozen?_setCell]; exact f2 i
  have hsz3 : W3.heap.size = w3.heap.size := by rw [hW]; simp [World.setCell]
  have HW : Hid (Writes (w.heap.size) (w.heap.size + 3) w3 W3) := by rw [hW]; exact (((Writes.refl _ _ _).setCell (by simp) (by simp) _).setCell (by simp) (by simp) _)
  rw [← hW]
  clear hW far
  replace HB3 : Hid (Below w.heap.size w W3) := HW.out.below HB3.out (Nat.le_refl _)
  replace HR0 : Hid (OwnPg W3 (w.heap.size + 3) w1.heap.size (some ⟨w.heap.size + 3, 0, none⟩) t.pn t.pT) := HR0.out.writes HW.out (.inr (by omega))
  replace HR1 : Hid (OwnD W3 w1.heap.size w2.heap.size (some ⟨B1, 0, none⟩) (some ⟨B2, 0, none⟩) t.d) := HR1.out.writes HW.out (.inr (by omega))
  replace HR2 : Hid (OwnG W3 w2.heap.size w3.heap.size (some ⟨B3, 0, none⟩) (some ⟨B4, 0, none⟩) t.g) := HR2.out.writes HW.out (.inr (by omega))
  clear HW
  go_wp2_with fail
  refine (toHeldS_own t.hn t.hK t.hV a5 c5 _ hS3 ((HA.out.2.2.2.1).below HB3.out)).mono ?_
  rintro e w4 ⟨B5, rfl, hb, hr⟩
  have HB4 : Hid (Below w.heap.size w w4) := below_then HB3.out hb
  rw [hsz3] at hr
  have HR3 : Hid (Own w4 w3.heap.size w4.heap.size (some ⟨B5, 0, none⟩) t.hn t.hK t.hV) := hr
  replace HR0 : Hid (OwnPg w4 (w.heap.size + 3) w1.heap.size (some ⟨w.heap.size + 3, 0, none⟩) t.pn t.pT) := HR0.out.below hb
  replace HR1 : Hid (OwnD w4 w1.heap.size w2.heap.size (some ⟨B1, 0, none⟩) (some ⟨B2, 0, none⟩) t.d) := HR1.out.below hb
  replace HR2 : Hid (OwnG w4 w2.heap.size w3.heap.size (some ⟨B3, 0, none⟩) (some ⟨B4, 0, none⟩) t.g) := HR2.out.below hb
  have hz3 : w3.heap.size ≤ w4.heap.size := by have := hb.size; omega
  replace x0 := cell_below x0 hb
  replace x1 := cell_below x1 hb
  replace x2 := cell_below x2 hb
  replace x3 := cell_below x3 hb
  replace x4 := cell_below x4 hb
  replace x5 := cell_below x5 hb
  replace x6 := cell_below x6 hb
  replace x7 := cell_below x7 hb
  replace s0 := cell_below s0 hb
  replace s1 := cell_below s1 hb
  replace s2 := cell_below s2 hb
  replace s3 := cell_below s3 hb
  replace s4 := cell_below s4 hb
  replace s5 := cell_below s5 hb
  replace s6 := cell_below s6 hb
  replace s7 := cell_below s7 hb
  replace r6 := cell_below r6 hb
  replace f1 : ∀ i, w4.frozen? ⟨w.heap.size + 1, i, none⟩ = false := fun i => (hb.frozen (p := ⟨_, i, none⟩) (by show w.heap.size + 1 < W3.heap.size; omega)).trans (f1 i)
  replace f2 : ∀ i, w4.frozen? ⟨w.heap.size + 2, i, none⟩ = false := fun i => (hb.frozen (p := ⟨_, i, none⟩) (by show w.heap.size + 2 < W3.heap.size; omega)).trans (f2 i)
  clear hb hr hsz3 HB3
  go_upto_region 7 with fail
  obtain ⟨W4, hW⟩ : ∃ y, y = w4.setCell ⟨w.heap.size + 2, 6, none⟩ (.slice (some ⟨B5, 0, none⟩) t.hn t.hn) := ⟨_, rfl⟩
  replace x0 : W4.cell? ⟨w.heap.size + 2, 0, none⟩ = some (.int .i64 t.nx) := by rw [hW, setO (by omega)]; exact x0
  replace x1 : W4.cell? ⟨w.heap.size + 2, 1, none⟩ = some (.slice (some ⟨w.heap.size + 3, 0, none⟩) t.pn t.pn) := by rw [hW, setO (by omega)]; exact x1
  replace x2 : W4.cell? ⟨w.heap.size + 2, 2, none⟩ = some (.slice (some ⟨B1, 0, none⟩) t.d.n t.d.n) := by rw [hW, setO (by omega)]; exact x2
  replace x3 : W4.cell? ⟨w.heap.size + 2, 3, none⟩ = some (.slice (some ⟨B2, 0, none⟩) t.d.m t.d.m) := by rw [hW, setO (by omega)]; exact x3
  replace x4 : W4.cell? ⟨w.heap.size + 2, 4, none⟩ = some (.slice (some ⟨B3, 0, none⟩) t.g.n1 t.g.n1) := by rw [hW, setO (by omega)]; exact x4
  replace x5 : W4.cell? ⟨w.heap.size + 2, 5, none⟩ = some (.slice (some ⟨B4, 0, none⟩) t.g.n2 t.g.n2) := by rw [hW, setO (by omega)]; exact x5
  replace x6 : W4.cell? ⟨w.heap.size + 2, 6, none⟩ = some (.slice (some ⟨B5, 0, none⟩) t.hn t.hn) := by rw [hW]; exact setS x6
  replace x7 : W4.cell? ⟨w.heap.size + 2, 7, none⟩ = some (.slice none 0 0) := by rw [hW, setO (by omega)]; exact x7
  have far : ∀ b i, b ≠ w.heap.size + 2 → W4.cell? ⟨b, i, none⟩ = w4.cell? ⟨b, i, none⟩ := fun b i hne => by rw [hW]; exact World.cell?_setCell_far _ _ _ _ (Ne.symm hne)
  replace r6 := (far _ _ (by omega)).trans r6
  replace s0 := (far _ _ (by omega)).trans s0
  replace s1 := (far _ _ (by omega)).trans s1
  replace s2 := (far _ _ (by omega)).trans s2
  replace s3 := (far _ _ (by omega)).trans s3
  replace s4 := (far _ _ (by omega)).trans s4
  replace s5 := (far _ _ (by omega)).trans s5
  replace s6 := (far _ _ (by omega)).trans s6
  replace s7 := (far _ _ (by omega)).trans s7
  replace f1 : ∀ i, W4.frozen? ⟨w.heap.size + 1, i, none⟩ = false := fun i => by rw [hW, World.frozen?_setCell]; exact f1 i
  replace f2 : ∀ i, W4.frozen? ⟨w.heap.size + 2, i, none⟩ = false := fun i => by rw [hW, World.frozen?_setCell]; exact f2 i
  have hsz4 : W4.heap.size = w4.heap.size := by rw [hW]; simp [World.setCell]
  have HW : Hid (Writes (w.heap.size) (w.heap.size + 3) w4 W4) := by rw [hW]; exact ((Writes.refl _ _ _).setCell (by simp) (by simp) _)
  rw [← hW]
  clear hW far
  replace HB4 : Hid (Below w.heap.size w W4) := HW.out.below HB4.out (Nat.le_refl _)
  replace HR0 : Hid (OwnPg W4 (w.heap.size + 3) w1.heap.size (some ⟨w.heap.size + 3, 0, none⟩) t.pn t.pT) := HR0.out.writes HW.out (.inr (by omega))
  replace HR1 : Hid (OwnD W4 w1.heap.size w2.heap.size (some ⟨B1, 0, none⟩) (some ⟨B2, 0, none⟩) t.d) := HR1.out.writes HW.out (.inr (by omega))
  replace HR2 : Hid (OwnG W4 w2.heap.size w3.heap.size (some ⟨B3, 0, none⟩) (some ⟨B4, 0, none⟩) t.g) := HR2.out.writes HW.out (.inr (by omega))
  replace HR3 : Hid (Own W4 w3.heap.size w4.heap.size (some ⟨B5, 0, none⟩) t.hn t.hK t.hV) := HR3.out.writes HW.out (.inr (by omega))
  clear HW
  go_wp2_with fail
  refine (toInt64S_own t.on t.oF a6 c6 _ hS4 ((HA.out.2.2.2.2).below HB4.out)).mono ?_
  rintro e w5 ⟨B6, rfl, hb, hr⟩
  have HB5 : Hid (Below w.heap.size w w5) := below_then HB4.out hb
  rw [hsz4] at hr
  have HR4 : Hid (OwnI w5 w4.heap.size w5.heap.size (some ⟨B6, 0, none⟩) t.on t.oF) := hr
  replace HR0 : Hid (OwnPg w5 (w.heap.size + 3) w1.heap.size (some ⟨w.heap.size + 3, 0, none⟩) t.pn t.pT) := HR0.out.below hb
  replace HR1 : Hid (OwnD w5 w1.heap.size w2.heap.size (some ⟨B1, 0, none⟩) (some ⟨B2, 0, none⟩) t.d) := HR1.out.below hb
  replace HR2 : Hid (OwnG w5 w2.heap.size w3.heap.size (some ⟨B3, 0, none⟩) (some ⟨B4, 0, none⟩) t.g) := HR2.out.below hb
  replace HR3 : Hid (Own w5 w3.heap.size w4.heap.size (some ⟨B5, 0, none⟩) t.hn t.hK t.hV) := HR3.out.below hb
  have hz4 : w4.heap.size ≤ w5.heap.size := by have := hb.size; omega
  replace x0 := cell_below x0 hb
  replace x1 := cell_below x1 hb
  replace x2 := cell_below x2 hb
  replace x3 := cell_below x3 hb
  replace x4 := cell_below x4 hb
  replace x5 := cell_below x5 hb
  replace x6 := cell_below x6 hb
  replace x7 := cell_below x7 hb
  replace s0 := cell_below s0 hb
  replace s1 := cell_below s1 hb
  replace s2 := cell_below s2 hb
  replace s3 := cell_below s3 hb
  replace s4 := cell_below s4 hb
  replace s5 := cell_below s5 hb
  replace s6 := cell_below s6 hb
  replace s7 := cell_below s7 hb
  replace f1 : ∀ i, w5.frozen? ⟨w.heap.size + 1, i, none⟩ = false := fun i => (hb.frozen (p := ⟨_, i, none⟩) (by show w.heap.size + 1 < W4.heap.size; omega)).trans (f1 i)
  replace f2 : ∀ i, w5.frozen? ⟨w.heap.size + 2, i, none⟩ = false := fun i => (hb.frozen (p := ⟨_, i, none⟩) (by show w.heap.size + 2 < W4.heap.size; omega)).trans (f2 i)
  clear hb hr hsz4 HB4
  have HWW : Hid (∀ w', Writes w.heap.size (w.heap.size + 3) w5 w' → w'.heap.size = w5.heap.size → Below w.heap.size w w' ∧ OwnInSt w' w.heap.size w'.heap.size (some ⟨w.heap.size + 3, 0, none⟩) (some ⟨B1, 0, none⟩) (some ⟨B2, 0, none⟩) (some ⟨B3, 0, none⟩) (some ⟨B4, 0, none⟩) (some ⟨B5, 0, none⟩) (some ⟨B6, 0, none⟩) t) := fun w' h e =>
    ⟨h.below HB5.out (Nat.le_refl _), w.heap.size + 3, w1.heap.size, w2.heap.size, w3.heap.size, w4.heap.size, w5.heap.size, by omega, by omega, by omega, by omega, by omega, by omega, by omega, Nat.le_refl _, HR0.out.writes h (.inr (by omega)), HR1.out.writes h (.inr (by omega)), HR2.out.writes h (.inr (by omega)), HR3.out.writes h (.inr (by omega)), HR4.out.writes h (.inr (by omega))⟩
  clear HR0 HR1 HR2 HR3 HR4
  go_wp2_with fail
  refine bodyPost_ret (v := .agg #[.int .i64 t.nx, .slice (some ⟨w.heap.size + 3, 0, none⟩) t.pn t.pn, .slice (some ⟨B1, 0, none⟩) t.d.n t.d.n, .slice (some ⟨B2, 0, none⟩) t.d.m t.d.m, .slice (some ⟨B3, 0, none⟩) t.g.n1 t.g.n1, .slice (some ⟨B4, 0, none⟩) t.g.n2 t.g.n2, .slice (some ⟨B5, 0, none⟩) t.hn t.hn, .slice (some ⟨B6, 0, none⟩) t.on t.on]) (by simp [results, Tryz.results6, go_sem, s0, s1, s2, s3, s4, s5, s6, s7]) rfl ⟨_, _, _, _, _, _, _, rfl, ?_⟩
  refine HWW.out _ ?_ (by simp [World.setCell])
  repeat (first | with_reducible exact Writes.refl _ _ _ | with_reducible refine Writes.setCell ?_ (by first | omega | (simp <;> omega)) (by first | omega | (simp <;> omega)) _)
/-! ### equal -/
set_option maxHeartbeats 2000000 in
theorem eqStore_same (t : Sto) (a0 : Option Addr) (c0 : Nat) (a1 : Option Addr) (c1 : Nat) (a2 : Option Addr) (c2 : Nat) (a3 : Option Addr) (c3 : Nat) (a4 : Option Addr) (c4 : Nat) (a5 : Option Addr) (c5 : Nat) (a6 : Option Addr) (c6 : Nat) (d0 : Option Addr) (e0 : Nat) (d1 : Option Addr) (e1 : Nat) (d2 : Option Addr) (e2 : Nat) (d3 : Option Addr) (e3 : Nat) (d4 : Option Addr) (e4 : Nat) (d5 : Option Addr) (e5 : Nat) (d6 : Option Addr) (e6 : Nat) (w : World) (hS : SmSt t) (h : InSt w a0 a1 a2 a3 a4 a5 a6 t) (h' : InSt w d0 d1 d2 d3 d4 d5 d6 t) :
    Calls Tryz.prog 9 #[.agg #[.int .i64 t.nx, .slice a0 t.pn c0, .slice a1 t.d.n c1, .slice a2 t.d.m c2, .slice a3 t.g.n1 c3, .slice a4 t.g.n2 c4, .slice a5 t.hn c5, .slice a6 t.on c6], .agg #[.int .i64 t.nx, .slice d0 t.pn e0, .slice d1 t.d.n e1, .slice d2 t.d.m e2, .slice d3 t.g.n1 e3, .slice d4 t.g.n2 e4, .slice d5 t.hn e5, .slice d6 t.on e6]] w fun e w' => e = .returned (.bool true) ∧ Below w.heap.size w w' := by
  obtain ⟨hS0, hS1, hS2, hS3, hS4⟩ := hS
  have HA : Hid (InSt w a0 a1 a2 a3 a4 a5 a6 t) := h
  have HD : Hid (InSt w d0 d1 d2 d3 d4 d5 d6 t) := h'
  clear h h'
  have hne0 : (t.nx != t.nx) = false := by simp
  have hb0 : ∀ o1 o2, Below w.heap.size w ((w.alloc o1).alloc o2) := fun o1 o2 => (((Below.refl _ _).alloc (Nat.le_refl _) _).alloc (by simp) _)
  go_enter Tryz.func9, Tryz.ntmps9
  go_wp2_with fail
  refine (eqPageS_any t.pn t.pT a0 d0 c0 e0 _ hS0.1 hS0.2.1 ((HA.out.1).below (hb0 _ _)) ((HD.out.1).below (hb0 _ _))).mono ?_
  rintro e w1 ⟨rfl, hb⟩
  have HB1 : Hid (Below w.heap.size w w1) := below_then (hb0 _ _) hb
  have q1 : w1.cell? ⟨w.heap.size, 2, none⟩ = some (.slice a1 t.d.n c1) := by rw [(bcell29 hb).1 _ _ (by simp <;> omega)]; simp [go_sem]
  have y1 : w1.cell? ⟨w.heap.size + 1, 2, none⟩ = some (.slice d1 t.d.n e1) := by rw [(bcell29 hb).1 _ _ (by simp <;> omega)]; simp [go_sem]
  have q2 : w1.cell? ⟨w.heap.size, 3, none⟩ = some (.slice a2 t.d.m c2) := by rw [(bcell29 hb).1 _ _ (by simp <;> omega)]; simp [go_sem]
  have y2 : w1.cell? ⟨w.heap.size + 1, 3, none⟩ = some (.slice d2 t.d.m e2) := by rw [(bcell29 hb).1 _ _ (by simp <;> omega)]; simp [go_sem]
  have q3 : w1.cell? ⟨w.heap.size, 4, none⟩ = some (.slice a3 t.g.n1 c3) := by rw [(bcell29 hb).1 _ _ (by simp <;> omega)]; simp [go_sem]
  have y3 : w1.cell? ⟨w.heap.size + 1, 4, none⟩ = some (.slice d3 t.g.n1 e3) := by rw [(bcell29 hb).1 _ _ (by simp <;> omega)]; simp [go_sem]
  have q4 : w1.cell? ⟨w.heap.size, 5, none⟩ = some (.slice a4 t.g.n2 c4) := by rw [(bcell29 hb).1 _ _ (by simp <;> omega)]; simp [go_sem]
  have y4 : w1.cell? ⟨w.heap.size + 1, 5, none⟩ = some (.slice d4 t.g.n2 e4) := by rw [(bcell29 hb).1 _ _ (by simp <;> omega)]; simp [go_sem]
  have q5 : w1.cell? ⟨w.heap.size, 6, none⟩ = some (.slice a5 t.hn c5) := by rw [(bcell29 hb).1 _ _ (by simp <;> omega)]; simp [go_sem]
  have y5 : w1.cell? ⟨w.heap.size + 1, 6, none⟩ = some (.slice d5 t.hn e5) := by rw [(bcell29 hb).1 _ _ (by simp <;> omega)]; simp [go_sem]
  have q6 : w1.cell? ⟨w.heap.size, 7, none⟩ = some (.slice a6 t.on c6) := by rw [(bcell29 hb).1 _ _ (by simp <;> omega)]; simp [go_sem]
  have y6 : w1.cell? ⟨w.heap.size + 1, 7, none⟩ = some (.slice d6 t.on e6) := by rw [(bcell29 hb).1 _ _ (by simp <;> omega)]; simp [go_sem]
  clear hb
  clear hb0
  go_wp2_with fail
  refine (eqDisk_same t.d a1 a2 d1 d2 c1 c2 e1 e2 _ hS1 ((HA.out.2.1).below HB1.out) ((HD.out.2.1).below HB1.out)).mono ?_
  rintro e w2 ⟨rfl, hb⟩
  have HB2 : Hid (Below w.heap.size w w2) := below_then HB1.out hb
  replace q3 := cell_below q3 hb
  replace y3 := cell_below y3 hb
  replace q4 := cell_below q4 hb
  replace y4 := cell_below y4 hb
  replace q5 := cell_below q5 hb
  replace y5 := cell_below y5 hb
  replace q6 := cell_below q6 hb
  replace y6 := cell_below y6 hb
  clear hb
  go_wp2_with fail
  refine (eqLog_same t.g a3 a4 d3 d4 c3 c4 e3 e4 _ hS2.1 hS2.2 ((HA.out.2.2.1).below HB2.out) ((HD.out.2.2.1).below HB2.out)).mono ?_
  rintro e w3 ⟨rfl, hb⟩
  have HB3 : Hid (Below w.heap.size w w3) := below_then HB2.out hb
  replace q5 := cell_below q5 hb
  replace y5 := cell_below y5 hb
  replace q6 := cell_below q6 hb
  replace y6 := cell_below y6 hb
  clear hb
  go_wp2_with fail
  refine (eqHeldS_any t.hn t.hK t.hV a5 d5 c5 e5 _ (by omega) ((HA.out.2.2.2.1).below HB3.out) ((HD.out.2.2.2.1).below HB3.out)).mono ?_
  rintro e w4 ⟨rfl, hb⟩
  have HB4 : Hid (Below w.heap.size w w4) := below_then HB3.out hb
  replace q6 := cell_below q6 hb
  replace y6 := cell_below y6 hb
  clear hb
  go_wp2_with fail
  refine (eqInt64S_any t.on t.oF a6 d6 c6 e6 _ (by omega) ((HA.out.2.2.2.2).below HB4.out) ((HD.out.2.2.2.2).below HB4.out)).mono ?_
  rintro e w5 ⟨rfl, hb⟩
  have HB5 : Hid (Below w.heap.size w w5) := below_then HB4.out hb
  clear hb
  go_wp2_with fail
  go_ret
  exact ⟨rfl, HB5.out⟩
/-! ### opened -/
theorem cellsStore : Tryz.prog.cellsOf 33 = 8 := by kernel_rfl
theorem cellsPageS : Tryz.prog.cellsOf 22 = 1 := by kernel_rfl
theorem cellsHeldS : Tryz.prog.cellsOf 30 = 1 := by kernel_rfl
theorem cellsIntS : Tryz.prog.cellsOf 31 = 1 := by kernel_rfl
theorem cellsByteSS : Tryz.prog.cellsOf 23 = 1 := by kernel_rfl
theorem cellsLooseS : Tryz.prog.cellsOf 24 = 1 := by kernel_rfl
end Go.Proofs.YtnplheilojhpmaaGreat
