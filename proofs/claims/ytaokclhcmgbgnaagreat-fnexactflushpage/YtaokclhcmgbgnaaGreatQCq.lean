/- impl.UnpackPage. -/
import Derived.Test.YtaokclhcmgbgnaaGreatQSp
import Derived.Test.YtaokclhcmgbgnaaGreatQSfault
import Derived.Laws.BitsLemmas
import Derived.Laws.BytesArg
import Derived.Test.YtaokclhcmgbgnaaGreatQPp
namespace Go.Proofs.YtaokclhcmgbgnaaGreat
open Go.RowKit Go.Deep
set_option linter.unusedVariables false
set_option maxRecDepth 20000

theorem info114 : (Tryz.prog.info? 136).map (fun i => (i.zero, i.size, i.bytes)) = some (some (.agg #[.int .i64 0, .int .i64 0, .slice none 0 0]), 3, 40) := by kernel_rfl
/-- The cells of loose writes. -/
def lv (P T : Nat → Int) (S : Nat → Value) (j : Nat) : Value := if j % 3 = 0 then .int .i64 (P (j / 3)) else if j % 3 = 1 then .int .i64 (T (j / 3)) else S (j / 3)
theorem lv0 (P T : Nat → Int) (S : Nat → Value) (i : Nat) : lv P T S (i * 3) = .int .i64 (P i) := by unfold lv; rw [if_pos (by omega)]; congr 2; omega
theorem lv1 (P T : Nat → Int) (S : Nat → Value) (i : Nat) : lv P T S (i * 3 + 1) = .int .i64 (T i) := by unfold lv; rw [if_neg (by omega), if_pos (by omega)]; congr 2; omega
theorem lv2 (P T : Nat → Int) (S : Nat → Value) (i : Nat) : lv P T S (i * 3 + 2) = S i := by unfold lv; rw [if_neg (by omega), if_neg (by omega)]; congr 1; omega
/-- 'make([]impl.Loose, n)'. -/
theorem run_make_looses (n : Nat) (hn : n ≤ 1099511627776) (w : World) :
    (Instr.makeSlice 36 (.int .i64 (n : Int)) (.int .i64 (n : Int))).run Tryz.prog w = .ok (.slice (some ⟨w.heap.size, 0, none⟩) n n) (w.alloc (.cells (madeCells #[.int .i64 0, .int .i64 0, .slice none 0 0] (n * 3)) 136)) := by
  obtain ⟨i, hi, hzz⟩ := Option.map_eq_some_iff.1 info114
  simp only [Prod.mk.injEq] at hzz
  obtain ⟨hz, hs, hb⟩ := hzz
  have hr := run_make (P := Tryz.prog) w 36 136 i _ Tryz.underlying36 hi hz .i64 .i64 n n (by omega) (Int.le_refl _) (by rw [hb]; omega) (by omega)
  simp only [Int.toNat_natCast, hs] at hr
  exact hr
theorem made_looses (w : World) (n : Nat) : (w.alloc (.cells (madeCells #[.int .i64 0, .int .i64 0, .slice none 0 0] (n * 3)) 136)).rowIs w.heap.size 136 (n * 3) (lv (fun _ => 0) (fun _ => 0) (fun _ => .slice none 0 0)) :=
  ⟨_, blk_alloc_new _ _, size_madeCells _ _, fun i hi => by
    have h : i % 3 = 0 ∨ i % 3 = 1 ∨ i % 3 = 2 := by omega
    rcases h with h | h | h <;> simp [madeCells, hi, lv, h]⟩
/-- k of n loose writes are copied. -/
def TL (w wr : World) (k n : Nat) (P T : Nat → Int) (L : Nat → Nat) (Z : Nat → Nat → Int) : Prop :=
  ∃ g : Nat → Nat, (∀ i j, i < k → j < k → g i = g j → i = j) ∧ (∀ i, i < k → w.heap.size < g i ∧ g i < wr.heap.size ∧ wr.rowIs (g i) 5 (L i) (fun j => .int .u8 (Z i j))) ∧
    wr.rowIs w.heap.size 136 (n * 3) (lv (fun i => if i < k then P i else 0) (fun i => if i < k then T i else 0) (fun i => if i < k then .slice (some ⟨g i, 0, none⟩) (L i) (L i) else .slice none 0 0))
theorem TL.step {w wr w1 : World} {k n B : Nat} {P T : Nat → Int} {L : Nat → Nat} {Z : Nat → Nat → Int} (h : TL w wr k n P T L Z) (hb : Below wr.heap.size wr w1) (hB : wr.heap.size ≤ B) (hr : w1.rowIs B 5 (L k) (fun j => .int .u8 (Z k j))) :
    TL w (((w1.setCell ⟨w.heap.size, k * 3, none⟩ (.int .i64 (P k))).setCell ⟨w.heap.size, k * 3 + 1, none⟩ (.int .i64 (T k))).setCell ⟨w.heap.size, k * 3 + 2, none⟩ (.slice (some ⟨B, 0, none⟩) (L k) (L k))) (k + 1) n P T L Z := by
  obtain ⟨g, hj, hg, hrow⟩ := h
  have hw := hrow.lt
  have hs1 := hr.lt
  refine ⟨fun i => if i < k then g i else B, fun i j hi hj' e => ?_, fun i hi => ?_, ?_⟩
  · by_cases c1 : i < k <;> by_cases c2 : j < k <;> simp only [c1, c2, if_true, if_false] at e
    · exact hj i j c1 c2 e
    · have := hg i c1; omega
    · have := hg j c2; omega
    · omega
  · by_cases c1 : i < k
    · simp only [c1, if_true]
      obtain ⟨g0, g1, g2⟩ := hg i c1
      refine ⟨g0, by simp [World.setCell]; have := hb.size; omega, ?_⟩
      refine World.rowIs.setOther (World.rowIs.setOther (World.rowIs.setOther (g2.of_block (hb.block _ g1)) ?_ _) ?_ _) ?_ _ <;> (show g i ≠ w.heap.size; omega)
    · have : i = k := by omega
      subst this
      simp only [Nat.lt_irrefl, if_false]
      refine ⟨by omega, by simp [World.setCell]; omega, ?_⟩
      refine World.rowIs.setOther (World.rowIs.setOther (World.rowIs.setOther hr ?_ _) ?_ _) ?_ _ <;> (show B ≠ w.heap.size; omega)
  · refine ((((hrow.of_block (hb.block _ hw)).set (k * 3) _).set (k * 3 + 1) _).set (k * 3 + 2) _).congr fun j _ => ?_
    by_cases e2 : j = k * 3 + 2
    · subst e2; rw [if_pos rfl, lv2]; simp
    · rw [if_neg e2]
      by_cases e1 : j = k * 3 + 1
      · subst e1; rw [if_pos rfl, lv1]; simp
      · rw [if_neg e1]
        by_cases e0 : j = k * 3
        · subst e0; rw [if_pos rfl, lv0]; simp
        · rw [if_neg e0]
          have : (j / 3 < k + 1) ↔ (j / 3 < k) := by omega
          unfold lv
          simp only [this]
          by_cases c : j / 3 < k
          · simp only [c, if_true]
          · simp only [c, if_false]
theorem TL.own {w wr : World} {n : Nat} {P T : Nat → Int} {L : Nat → Nat} {Z : Nat → Nat → Int} (h : TL w wr n n P T L Z) : OwnL wr w.heap.size wr.heap.size (some ⟨w.heap.size, 0, none⟩) n P T L Z := by
  obtain ⟨g, hj, hg, hrow⟩ := h
  refine ⟨Nat.le_refl _, .inr ⟨_, _, rfl, Nat.le_refl _, hrow.lt, g, fun _ => 0, L, hj, fun i hi => ?_⟩⟩
  obtain ⟨g0, g1, g2⟩ := hg i hi
  refine ⟨by omega, by omega, g1, ?_, ?_, ?_, hrow.frozen _, hrow.frozen _, Row1.of_row g2, Nat.le_refl _⟩
  · rw [Nat.zero_add, hrow.cell (by omega), lv0]; simp [hi]
  · rw [Nat.zero_add, hrow.cell (by omega), lv1]; simp [hi]
  · rw [Nat.zero_add, hrow.cell (by omega), lv2]; simp [hi]
/-- Three new blocks, then what they hold is turned: block B stays. -/
theorem row_far {w w' : World} {lo hi B n : Nat} {f : Nat → Value} {t : TypeId} (h : w.rowIs B t n f) (hw : Writes lo hi w w') (hB : hi ≤ B) : w'.rowIs B t n f := h.of_block (hw.block _ h.lt (.inr hB))
theorem toLoose_any (p t : Int) (n : Nat) (z : Nat → Int) (a : Option Addr) (cap : Nat) (w : World) (hn : n ≤ 1048576) (h : BytesAt w a n z) :
    Calls Tryz.prog 150 #[.agg #[.int .i64 p, .int .i64 t, .slice a n cap]] w fun e w' =>
      ∃ B, e = .returned (.agg #[.int .i64 p, .int .i64 t, .slice (some ⟨B, 0, none⟩) n n]) ∧ w.heap.size ≤ B ∧ Below w.heap.size w w' ∧ w'.rowIs B 5 n (fun j => .int .u8 (z j)) := by
  go_enter Tryz.func150, Tryz.ntmps150
  go_wp2_with fail
  have hb0 : ∀ o1 o2 o3, Below w.heap.size w (((w.alloc o1).alloc o2).alloc o3) := fun o1 o2 o3 => (((Below.refl _ _).alloc (Nat.le_refl _) _).alloc (by simp) _).alloc (by simp; omega) _
  refine (toByteS_any n z a cap _ (by omega) (h.below (hb0 _ _ _))).mono ?_
  rintro e w1 ⟨rfl, hb1, hr1⟩
  obtain ⟨hc, hf⟩ := bcell hb1
  have hz : w.heap.size + 2 < w1.heap.size := by have := hb1.size; simp at this; omega
  go_wp2_with fail
  refine bodyPost_ret (v := .agg #[.int .i64 p, .int .i64 t, .slice (some ⟨w.heap.size + 3, 0, none⟩) n n]) (by simp [results, Tryz.results150, go_sem, hc]) rfl ⟨_, rfl, by omega, ?_, ?_⟩
  · repeat (first | exact below_then (hb0 _ _ _) hb1 | refine Below.setCell ?_ (by first | omega | (simp <;> omega)) _)
  · have e3 : ∀ o1 o2 o3 : Obj, (((w.alloc o1).alloc o2).alloc o3).heap.size = w.heap.size + 3 := fun _ _ _ => by simp
    rw [e3] at hr1
    refine row_far hr1 (lo := w.heap.size) (hi := w.heap.size + 3) ?_ (Nat.le_refl _)
    repeat (first | exact Writes.refl _ _ _ | refine Writes.setCell ?_ (by first | omega | (simp <;> omega)) (by first | omega | (simp <;> omega)) _)
set_option maxHeartbeats 400000 in
theorem toLooseS_any (n : Nat) (P T : Nat → Int) (L : Nat → Nat) (Z : Nat → Nat → Int) (a : Option Addr) (cap : Nat) (w : World) (hn : n ≤ 1048576) (hL : ∀ i, i < n → L i ≤ 1048576) (h : LoosesAt w a n P T L Z) :
    Calls Tryz.prog 93 #[.slice a n cap] w fun e w' =>
      e = .returned (.slice (some ⟨w.heap.size, 0, none⟩) n n) ∧ Below w.heap.size w w' ∧ OwnL w' w.heap.size w'.heap.size (some ⟨w.heap.size, 0, none⟩) n P T L Z := by
  have hmk := run_make_looses n (by omega)
  have HL : Hid (∀ i, i < n → L i ≤ 1048576) := hL
  have HA : Hid (LoosesAt w a n P T L Z) := h
  clear hL h
  go_enter Tryz.func93, Tryz.ntmps93
  go_wp2
  go_loopw [4] (fun i wr => ∃ k : Nat, k ≤ n ∧ i = .int .i64 k ∧ Below w.heap.size w wr ∧ TL w wr k n P T L Z) (fun i _ => n - (intOf i).toNat)
  case atStart => exact ⟨0, Nat.zero_le _, rfl, (Below.refl _ _).alloc (Nat.le_refl _) _, fun _ => 0, fun i j h => by omega, fun i h => by omega, (made_looses w n).congr (fun i _ => by simp)⟩
  case round =>
    obtain ⟨k, hk, rfl, hb, hT⟩ := hrel
    by_cases hlt : k < n
    · rcases HA.out.below hb with h | ⟨b, off, rfl, hl, hc⟩
      · omega
      obtain ⟨hp, ht, ai, ci, hcell, hby, -⟩ := hc k hlt
      have HY : Hid (BytesAt wr ai (L k) (Z k)) := hby
      have HT : Hid (TL w wr k n P T L Z) := hT
      obtain ⟨g, -, -, hrow⟩ := hT
      have hsz := hrow.lt
      obtain ⟨v3, hv3⟩ : ∃ v, wr.cell? ⟨w.heap.size, k * 3, none⟩ = some v := ⟨_, hrow.cell (by omega)⟩
      obtain ⟨v4, hv4⟩ : ∃ v, wr.cell? ⟨w.heap.size, k * 3 + 1, none⟩ = some v := ⟨_, hrow.cell (by omega)⟩
      obtain ⟨v5, hv5⟩ : ∃ v, wr.cell? ⟨w.heap.size, k * 3 + 2, none⟩ = some v := ⟨_, hrow.cell (by omega)⟩
      have hf3 := hrow.frozen (k * 3)
      have hf4 := hrow.frozen (k * 3 + 1)
      have hf5 := hrow.frozen (k * 3 + 2)
      have HB : Hid (Below w.heap.size w wr) := hb
      clear hc hb hrow hmk hby
      go_wp2_with fail
      refine (toLoose_any (P k) (T k) (L k) (Z k) ai ci wr (HL.out k hlt) HY.out).mono ?_
      rintro e w1 ⟨B, rfl, hB, hb1, hr1⟩
      have g3 : w1.cell? ⟨w.heap.size, k * 3, none⟩ = some v3 := (hb1.cell (p := ⟨_, _, none⟩) hsz).trans hv3
      have g4 : w1.cell? ⟨w.heap.size, k * 3 + 1, none⟩ = some v4 := (hb1.cell (p := ⟨_, _, none⟩) hsz).trans hv4
      have g5 : w1.cell? ⟨w.heap.size, k * 3 + 2, none⟩ = some v5 := (hb1.cell (p := ⟨_, _, none⟩) hsz).trans hv5
      have f3 : w1.frozen? ⟨w.heap.size, k * 3, none⟩ = false := (hb1.frozen (p := ⟨_, _, none⟩) hsz).trans hf3
      have f4 : w1.frozen? ⟨w.heap.size, k * 3 + 1, none⟩ = false := (hb1.frozen (p := ⟨_, _, none⟩) hsz).trans hf4
      have f5 : w1.frozen? ⟨w.heap.size, k * 3 + 2, none⟩ = false := (hb1.frozen (p := ⟨_, _, none⟩) hsz).trans hf5
      have HB1 : Hid (Below wr.heap.size wr w1) := hb1
      have HR1 : Hid (w1.rowIs B 5 (L k) (fun j => .int .u8 (Z k j))) := hr1
      have HBB : Hid (wr.heap.size ≤ B) := hB
      clear hb1 hr1 hv3 hf3 hv4 hf4 hv5 hf5 hp ht hcell hB
      go_wp2_with fail
      go_roundw
      case rel => exact ⟨k + 1, hlt, by go_num, (((below_then HB.out HB1.out).setCell (Nat.le_refl _) _).setCell (Nat.le_refl _) _).setCell (Nat.le_refl _) _, HT.out.step HB1.out HBB.out HR1.out⟩
      case measure => simp [intOf]; omega
    · have hkn : k = n := by omega
      have HT : Hid (TL w wr n n P T L Z) := by have h := hT; rw [hkn] at h; exact h
      clear hmk hT
      go_wp2
      go_ret
      exact ⟨rfl, hb, HT.out.own⟩
/-- What a disk holds. -/
structure Dk where
  n : Nat
  L : Nat → Nat
  Z : Nat → Nat → Int
  m : Nat
  P : Nat → Int
  T : Nat → Int
  M : Nat → Nat
  Y : Nat → Nat → Int
def DiskAt (w : World) (a a' : Option Addr) (D : Dk) : Prop := PagesAt w a D.n D.L D.Z ∧ LoosesAt w a' D.m D.P D.T D.M D.Y
theorem DiskAt.below {w w' : World} {a a' : Option Addr} {D : Dk} (h : DiskAt w a a' D) (hb : Below w.heap.size w w') : DiskAt w' a a' D := ⟨h.1.below hb, h.2.below hb⟩
/-- A disk in blocks of its own. -/
def OwnD (w : World) (lo hi : Nat) (a a' : Option Addr) (D : Dk) : Prop :=
  hi ≤ w.heap.size ∧ ∃ l1 h1 l2 h2, lo ≤ l1 ∧ h1 ≤ hi ∧ lo ≤ l2 ∧ h2 ≤ hi ∧ (h1 ≤ l2 ∨ h2 ≤ l1) ∧ OwnP w l1 h1 a D.n D.L D.Z ∧ OwnL w l2 h2 a' D.m D.P D.T D.M D.Y
theorem OwnD.at {w : World} {lo hi : Nat} {a a' : Option Addr} {D : Dk} (h : OwnD w lo hi a a' D) : DiskAt w a a' D := by
  obtain ⟨_, l1, h1, l2, h2, _, _, _, _, _, hp, hl⟩ := h
  exact ⟨hp.at, hl.at⟩
theorem OwnD.writes {w w' : World} {lo hi lo' hi' : Nat} {a a' : Option Addr} {D : Dk} (h : OwnD w lo hi a a' D) (hw : Writes lo' hi' w w') (hd : hi ≤ lo' ∨ hi' ≤ lo) : OwnD w' lo hi a a' D := by
  obtain ⟨h0, l1, h1, l2, h2, k1, k2, k3, k4, k5, hp, hl⟩ := h
  exact ⟨Nat.le_trans h0 hw.size, l1, h1, l2, h2, k1, k2, k3, k4, k5, hp.writes hw (by omega), hl.writes hw (by omega)⟩
theorem OwnD.below {w w' : World} {lo hi : Nat} {a a' : Option Addr} {D : Dk} (h : OwnD w lo hi a a' D) (hb : Below w.heap.size w w') : OwnD w' lo hi a a' D :=
  h.writes (Writes.of_below (lo := hi) (hi := hi) hb) (.inl (Nat.le_refl _))
theorem OwnD.wide {w : World} {lo hi lo' hi' : Nat} {a a' : Option Addr} {D : Dk} (h : OwnD w lo hi a a' D) (e1 : lo' ≤ lo) (e2 : hi ≤ hi') (e3 : hi' ≤ w.heap.size) : OwnD w lo' hi' a a' D := by
  obtain ⟨h0, l1, h1, l2, h2, k1, k2, k3, k4, k5, hp, hl⟩ := h
  exact ⟨e3, l1, h1, l2, h2, by omega, by omega, by omega, by omega, k5, hp, hl⟩
/-- A disk that is not greater than the laws' bound. -/
structure Small (D : Dk) : Prop where
  n : D.n ≤ 1048576
  m : D.m ≤ 1048576
  L : ∀ i, i < D.n → D.L i ≤ 1048576
  M : ∀ i, i < D.m → D.M i ≤ 1048576
  s : sumL D.L D.n ≤ 1048576
  t : sumL D.M D.m ≤ 1048576
theorem sumL_ge (L : Nat → Nat) : ∀ n i, i < n → L i ≤ sumL L n
  | 0, i, h => by omega
  | n + 1, i, h => by
    by_cases e : i = n
    · subst e; simp [sumL]
    · have := sumL_ge L n i (by omega); simp only [sumL]; omega
theorem small_of {D : Dk} (h : 0 ≤ (1048576 : Int) - D.n - sumL D.L D.n - D.m - sumL D.M D.m) : Small D :=
  ⟨by omega, by omega, fun i hi => by have := sumL_ge D.L D.n i hi; omega, fun i hi => by have := sumL_ge D.M D.m i hi; omega, by omega, by omega⟩
set_option maxHeartbeats 400000 in
theorem toDisk_any (D : Dk) (a a' : Option Addr) (cap cap' : Nat) (w : World) (hs : Small D) (h : DiskAt w a a' D) :
    Calls Tryz.prog 33 #[.agg #[.slice a D.n cap, .slice a' D.m cap']] w fun e w' =>
      ∃ b b', e = .returned (.agg #[.slice (some ⟨b, 0, none⟩) D.n D.n, .slice (some ⟨b', 0, none⟩) D.m D.m]) ∧ Below w.heap.size w w' ∧ OwnD w' w.heap.size w'.heap.size (some ⟨b, 0, none⟩) (some ⟨b', 0, none⟩) D := by
  have HS : Hid (Small D) := hs
  obtain ⟨n, L, Z, m, P, T, M, Y⟩ := D
  obtain ⟨h1, h2⟩ := h
  dsimp only at *
  have HA : Hid (PagesAt w a n L Z) := h1
  have HA' : Hid (LoosesAt w a' m P T M Y) := h2
  clear h1 h2 hs
  go_enter Tryz.func33, Tryz.ntmps33
  go_wp2_with fail
  have hb0 : ∀ o1 o2 o3, Below w.heap.size w (((w.alloc o1).alloc o2).alloc o3) := fun o1 o2 o3 => (((Below.refl _ _).alloc (Nat.le_refl _) _).alloc (by simp) _).alloc (by simp; omega) _
  refine (toByteSS_any n L Z a cap _ HS.out.n HS.out.L (HA.out.below (hb0 _ _ _))).mono ?_
  rintro e w1 ⟨rfl, hb1, ho1⟩
  obtain ⟨hc, hf⟩ := bcell hb1
  have hz : w.heap.size + 2 < w1.heap.size := by have := hb1.size; simp at this; omega
  have e3 : ∀ o1 o2 o3 : Obj, (((w.alloc o1).alloc o2).alloc o3).heap.size = w.heap.size + 3 := fun _ _ _ => by simp
  have q0 : w1.cell? ⟨w.heap.size, 0, none⟩ = some (.slice a n cap) := by rw [hc _ _ (by simp <;> omega)]; simp [go_sem]
  have q1 : w1.cell? ⟨w.heap.size, 1, none⟩ = some (.slice a' m cap') := by rw [hc _ _ (by simp <;> omega)]; simp [go_sem]
  have r0 : w1.cell? ⟨w.heap.size + 1, 0, none⟩ = some (.slice none 0 0) := by rw [hc _ _ (by simp <;> omega)]; simp [go_sem]
  have r1 : w1.cell? ⟨w.heap.size + 1, 1, none⟩ = some (.slice none 0 0) := by rw [hc _ _ (by simp <;> omega)]; simp [go_sem]
  have s0 : w1.cell? ⟨w.heap.size + 2, 0, none⟩ = some (.slice none 0 0) := by rw [hc _ _ (by simp <;> omega)]; simp [go_sem]
  have s1 : w1.cell? ⟨w.heap.size + 2, 1, none⟩ = some (.slice none 0 0) := by rw [hc _ _ (by simp <;> omega)]; simp [go_sem]
  have f1 : ∀ i, w1.frozen? ⟨w.heap.size + 1, i, none⟩ = false := fun i => by rw [hf _ _ (by simp <;> omega)]; simp [go_sem]
  have f2 : ∀ i, w1.frozen? ⟨w.heap.size + 2, i, none⟩ = false := fun i => by rw [hf _ _ (by simp <;> omega)]; simp [go_sem]
  have HB : Hid (Below w.heap.size w w1) := below_then (hb0 _ _ _) hb1
  have HO : Hid (OwnP w1 (w.heap.size + 3) w1.heap.size (some ⟨w.heap.size + 3, 0, none⟩) n L Z) := by rw [e3] at ho1; exact ho1
  clear hc hf hb1 ho1 hb0 e3
  go_wp2_with fail
  have HB' : Hid (Below w.heap.size w (w1.setCell ⟨w.heap.size + 1 + 1, 0, none⟩ (.slice (some ⟨w.heap.size + 1 + 1 + 1, 0, none⟩) n n))) := HB.out.setCell (by simp <;> omega) _
  refine (toLooseS_any m P T M Y a' cap' _ HS.out.m HS.out.M (HA'.out.below HB'.out)).mono ?_
  rintro e w2 ⟨rfl, hb2, ho2⟩
  obtain ⟨hc, hf⟩ := bcell hb2
  have es : (w1.setCell ⟨w.heap.size + 1 + 1, 0, none⟩ (.slice (some ⟨w.heap.size + 1 + 1 + 1, 0, none⟩) n n)).heap.size = w1.heap.size := by simp [World.setCell]
  rw [es] at hc hf
  have t0 : w2.cell? ⟨w.heap.size + 1, 0, none⟩ = some (.slice none 0 0) := by rw [hc _ _ (by omega)]; rw [World.cell?_setCell_other _ _ _ _ (by simp), r0]
  have t1 : w2.cell? ⟨w.heap.size + 1, 1, none⟩ = some (.slice none 0 0) := by rw [hc _ _ (by omega)]; rw [World.cell?_setCell_other _ _ _ _ (by simp), r1]
  have u0 : w2.cell? ⟨w.heap.size + 1 + 1, 0, none⟩ = some (.slice (some ⟨w.heap.size + 1 + 1 + 1, 0, none⟩) n n) := by rw [hc _ _ (by omega)]; exact setS s0
  have u1 : w2.cell? ⟨w.heap.size + 1 + 1, 1, none⟩ = some (.slice none 0 0) := by rw [hc _ _ (by omega)]; rw [setO (by omega), s1]
  have k1 : ∀ i, w2.frozen? ⟨w.heap.size + 1, i, none⟩ = false := fun i => by rw [hf _ _ (by omega), World.frozen?_setCell]; exact f1 i
  have k2 : ∀ i, w2.frozen? ⟨w.heap.size + 1 + 1, i, none⟩ = false := fun i => by rw [hf _ _ (by omega), World.frozen?_setCell]; exact f2 i
  have HB2 : Hid (Below w.heap.size w w2) := below_then HB'.out hb2
  have HP : Hid (OwnP w2 (w.heap.size + 3) w1.heap.size (some ⟨w.heap.size + 3, 0, none⟩) n L Z) := by
    have h := HO.out.writes (lo' := w.heap.size) (hi' := w.heap.size + 3) (Writes.setCell (Writes.refl _ _ _) (p := ⟨w.heap.size + 1 + 1, 0, none⟩) (by simp <;> omega) (by simp <;> omega) (.slice (some ⟨w.heap.size + 1 + 1 + 1, 0, none⟩) n n)) (.inr (Nat.le_refl _))
    exact h.below hb2
  rw [es] at ho2
  have HQ : Hid (OwnL w2 w1.heap.size w2.heap.size (some ⟨w1.heap.size, 0, none⟩) m P T M Y) := ho2
  rw [es]
  have hs2 : w1.heap.size ≤ w2.heap.size := by have := hb2.size; rw [es] at this; exact this
  clear hc hf hb2 ho2 es q0 q1 r0 r1 s0 s1 f1 f2 HB'
  go_wp2_with fail
  refine bodyPost_ret (v := .agg #[.slice (some ⟨w.heap.size + 3, 0, none⟩) n n, .slice (some ⟨w1.heap.size, 0, none⟩) m m]) (by simp [results, Tryz.results33, go_sem, *]) rfl ⟨_, _, rfl, ?_, ?_⟩
  · repeat (first | exact HB2.out | refine Below.setCell ?_ (by first | omega | (simp <;> omega)) _)
  · have hw : ∀ w3, Writes w.heap.size (w.heap.size + 3) w2 w3 → w3.heap.size = w2.heap.size → OwnD w3 w.heap.size w3.heap.size (some ⟨w.heap.size + 3, 0, none⟩) (some ⟨w1.heap.size, 0, none⟩) ⟨n, L, Z, m, P, T, M, Y⟩ := fun w3 h e =>
      ⟨Nat.le_refl _, w.heap.size + 3, w1.heap.size, w1.heap.size, w2.heap.size, by omega, by omega, by omega, by omega, .inl (Nat.le_refl _), HP.out.writes h (.inr (Nat.le_refl _)), HQ.out.writes h (.inr (by omega))⟩
    refine hw _ ?_ (by simp [World.setCell])
    repeat (first | exact Writes.refl _ _ _ | refine Writes.setCell ?_ (by first | omega | (simp <;> omega)) (by first | omega | (simp <;> omega)) _)
theorem eqByteS_q (n : Nat) (z : Nat → Int) (a a' : Option Addr) (cap cap' : Nat) (w : World) (hn : n ≤ 8796093022208) (h : BytesAt w a n z) (h' : BytesAt w a' n z) :
    Calls Tryz.prog 106 #[.slice a n cap, .slice a' n cap'] w fun e w' => e = .returned (.bool true) ∧ ∃ m, w' = w.drewN m := by
  have z0 : ∀ (e : Ending) (w' : World), (e = .returned (.bool true) ∧ w' = w) → e = .returned (.bool true) ∧ ∃ m, w' = w.drewN m := by
    rintro e w' ⟨rfl, rfl⟩
    exact ⟨rfl, 0, rfl⟩
  rcases h with rfl | ⟨b, off, rfl, _, hc⟩
  · exact (eqByteS_zero a a' cap cap' w).mono z0
  · rcases h' with rfl | ⟨b', off', rfl, _, hc'⟩
    · exact (eqByteS_zero _ a' cap cap' w).mono z0
    · exact eqByteS_same n z b off cap b' off' cap' w (by omega) hc hc'
set_option maxHeartbeats 400000 in
theorem eqByteSS_any (n : Nat) (L : Nat → Nat) (Z : Nat → Nat → Int) (a a' : Option Addr) (cap cap' : Nat) (w : World) (hn : n ≤ 1048576) (hL : ∀ i, i < n → L i ≤ 1048576) (h : PagesAt w a n L Z) (h' : PagesAt w a' n L Z) :
    Calls Tryz.prog 104 #[.slice a n cap, .slice a' n cap'] w fun e w' => e = .returned (.bool true) ∧ Below w.heap.size w w' := by
  have HL : Hid (∀ i, i < n → L i ≤ 1048576) := hL
  have HA : Hid (PagesAt w a n L Z) := h
  have HA' : Hid (PagesAt w a' n L Z) := h'
  clear hL h h'
  go_enter Tryz.func104, Tryz.ntmps104
  go_wp2
  go_loopw [5] (fun i wr => ∃ k : Nat, k ≤ n ∧ i = .int .i64 k ∧ Below w.heap.size w wr) (fun i _ => n - (intOf i).toNat)
  case atStart => exact ⟨0, Nat.zero_le _, rfl, Below.refl _ _⟩
  case round =>
    obtain ⟨k, hk0, rfl, hb⟩ := hrel
    by_cases hlt : k < n
    · rcases HA.out.below hb with h | ⟨b, off, rfl, hl, hc⟩
      · omega
      rcases HA'.out.below hb with h | ⟨b', off', rfl, hl', hc'⟩
      · omega
      obtain ⟨ai, ci, h1, hy, -⟩ := hc k hlt
      obtain ⟨ai', ci', h1', hy', -⟩ := hc' k hlt
      have HY : Hid (BytesAt wr ai (L k) (Z k)) := hy
      have HY' : Hid (BytesAt wr ai' (L k) (Z k)) := hy'
      have HLk : Hid (L k ≤ 8796093022208) := Nat.le_trans (HL.out k hlt) (by omega)
      have hlt' : (k : Int) < (n : Int) := by omega
      have HB : Hid (Below w.heap.size w wr) := hb
      clear hc hc' hy hy' hb
      go_wp2
      go_region_held3 (fun w' => w'.cell? ⟨b, off + k, none⟩ = some (.slice ai (L k) ci) ∧ w'.cell? ⟨b', off' + k, none⟩ = some (.slice ai' (L k) ci')) (go_keep)
        (first | (go_at_call 106; refine (eqByteS_q (L k) (Z k) ai ai' ci ci' wr.drew HLk.out HY.out HY'.out).mono ?_; rintro e w' ⟨rfl, m, rfl⟩))
      go_wp2
      go_roundw
      case rel => exact ⟨k + 1, hlt, by go_num, by have hs := HB.out.size; first | exact below_drewN HB.out _ | exact below_drewN HB.out.drew _ | exact (below_drewN HB.out.drew _).drew⟩
      case measure => simp [intOf]; omega
    · have hkn : k = n := by omega
      go_wp2
      go_ret
      exact ⟨rfl, hb⟩
theorem eqLoose_same (p t : Int) (n : Nat) (z : Nat → Int) (a a' : Option Addr) (cap cap' : Nat) (w : World) (hn : n ≤ 8796093022208) (h : BytesAt w a n z) (h' : BytesAt w a' n z) :
    Calls Tryz.prog 168 #[.agg #[.int .i64 p, .int .i64 t, .slice a n cap], .agg #[.int .i64 p, .int .i64 t, .slice a' n cap']] w fun e w' => e = .returned (.bool true) ∧ ∃ c1 c2 : Array Value, ∃ m, w' = ((w.alloc (.cells c1 136)).alloc (.cells c2 136)).drewN m := by
  have HA : Hid (BytesAt w a n z) := h
  have HA' : Hid (BytesAt w a' n z) := h'
  clear h h'
  go_enter Tryz.func168, Tryz.ntmps168
  go_wp2_with fail
  have hb0 : ∀ o1 o2, Below w.heap.size w ((w.alloc o1).alloc o2) := fun o1 o2 => (((Below.refl _ _).alloc (Nat.le_refl _) _).alloc (by simp) _)
  refine (eqByteS_q n z a a' cap cap' _ hn (HA.out.below (hb0 _ _)) (HA'.out.below (hb0 _ _))).mono ?_
  rintro e w' ⟨rfl, m, rfl⟩
  go_wp2_with fail
  go_ret
  exact ⟨rfl, _, _, m, rfl⟩
set_option maxHeartbeats 400000 in
theorem eqLooseS_any (n : Nat) (P T : Nat → Int) (L : Nat → Nat) (Z : Nat → Nat → Int) (a a' : Option Addr) (cap cap' : Nat) (w : World) (hn : n ≤ 1048576) (hL : ∀ i, i < n → L i ≤ 1048576) (h : LoosesAt w a n P T L Z) (h' : LoosesAt w a' n P T L Z) :
    Calls Tryz.prog 105 #[.slice a n cap, .slice a' n cap'] w fun e w' => e = .returned (.bool true) ∧ Below w.heap.size w w' := by
  have HL : Hid (∀ i, i < n → L i ≤ 1048576) := hL
  have HA : Hid (LoosesAt w a n P T L Z) := h
  have HA' : Hid (LoosesAt w a' n P T L Z) := h'
  clear hL h h'
  go_enter Tryz.func105, Tryz.ntmps105
  go_wp2
  go_loopw [5] (fun i wr => ∃ k : Nat, k ≤ n ∧ i = .int .i64 k ∧ Below w.heap.size w wr) (fun i _ => n - (intOf i).toNat)
  case atStart => exact ⟨0, Nat.zero_le _, rfl, Below.refl _ _⟩
  case round =>
    obtain ⟨k, hk0, rfl, hb⟩ := hrel
    by_cases hlt : k < n
    · rcases HA.out.below hb with h | ⟨b, off, rfl, hl, hc⟩
      · omega
      rcases HA'.out.below hb with h | ⟨b', off', rfl, hl', hc'⟩
      · omega
      obtain ⟨p1, t1, ai, ci, h1, hy, -⟩ := hc k hlt
      obtain ⟨p1', t1', ai', ci', h1', hy', -⟩ := hc' k hlt
      have HY : Hid (BytesAt wr ai (L k) (Z k)) := hy
      have HY' : Hid (BytesAt wr ai' (L k) (Z k)) := hy'
      have HLk : Hid (L k ≤ 8796093022208) := Nat.le_trans (HL.out k hlt) (by omega)
      have hlt' : (k : Int) < (n : Int) := by omega
      have HB : Hid (Below w.heap.size w wr) := hb
      clear hc hc' hy hy' hb
      go_wp2
      go_region_held3 (fun w' => w'.cell? ⟨b, off + k * 3, none⟩ = some (.int .i64 (P k)) ∧ w'.cell? ⟨b, off + k * 3 + 1, none⟩ = some (.int .i64 (T k)) ∧ w'.cell? ⟨b, off + k * 3 + 2, none⟩ = some (.slice ai (L k) ci) ∧ w'.cell? ⟨b', off' + k * 3, none⟩ = some (.int .i64 (P k)) ∧ w'.cell? ⟨b', off' + k * 3 + 1, none⟩ = some (.int .i64 (T k)) ∧ w'.cell? ⟨b', off' + k * 3 + 2, none⟩ = some (.slice ai' (L k) ci')) (go_keep)
        (first | (go_at_call 168; refine (eqLoose_same (P k) (T k) (L k) (Z k) ai ai' ci ci' wr.drew HLk.out HY.out HY'.out).mono ?_; rintro e w' ⟨rfl, o1, o2, m, rfl⟩))
      go_wp2
      go_roundw
      case rel => exact ⟨k + 1, hlt, by go_num, by have hs := HB.out.size; repeat (first | exact HB.out | apply Below.drew | (refine below_drewN ?_ _) | refine Below.alloc ?_ (by first | omega | (simp; omega)) _)⟩
      case measure => simp [intOf]; omega
    · have hkn : k = n := by omega
      go_wp2
      go_ret
      exact ⟨rfl, hb⟩
theorem eqDisk_same (D : Dk) (a a' c c' : Option Addr) (cap cap' dap dap' : Nat) (w : World) (hs : Small D) (h : DiskAt w a a' D) (h' : DiskAt w c c' D) :
    Calls Tryz.prog 42 #[.agg #[.slice a D.n cap, .slice a' D.m cap'], .agg #[.slice c D.n dap, .slice c' D.m dap']] w fun e w' => e = .returned (.bool true) ∧ Below w.heap.size w w' := by
  have HS : Hid (Small D) := hs
  obtain ⟨n, L, Z, m, P, T, M, Y⟩ := D
  obtain ⟨h1, h2⟩ := h
  obtain ⟨h3, h4⟩ := h'
  dsimp only at *
  have H1 : Hid (PagesAt w a n L Z) := h1
  have H2 : Hid (LoosesAt w a' m P T M Y) := h2
  have H3 : Hid (PagesAt w c n L Z) := h3
  have H4 : Hid (LoosesAt w c' m P T M Y) := h4
  clear h1 h2 h3 h4 hs
  have hb0 : ∀ o1 o2, Below w.heap.size w ((w.alloc o1).alloc o2) := fun o1 o2 => (((Below.refl _ _).alloc (Nat.le_refl _) _).alloc (by simp) _)
  go_enter Tryz.func42, Tryz.ntmps42
  go_wp2_with fail
  refine (eqByteSS_any n L Z a c cap dap _ HS.out.n HS.out.L (H1.out.below (hb0 _ _)) (H3.out.below (hb0 _ _))).mono ?_
  rintro e w1 ⟨rfl, hb1⟩
  obtain ⟨hc, hf⟩ := bcell hb1
  have q0 : w1.cell? ⟨w.heap.size, 1, none⟩ = some (.slice a' m cap') := by rw [hc _ _ (by simp <;> omega)]; simp [go_sem]
  have q1 : w1.cell? ⟨w.heap.size + 1, 1, none⟩ = some (.slice c' m dap') := by rw [hc _ _ (by simp <;> omega)]; simp [go_sem]
  have HB : Hid (Below w.heap.size w w1) := below_then (hb0 _ _) hb1
  clear hc hf hb1 hb0
  go_wp2_with fail
  refine (eqLooseS_any m P T M Y a' c' cap' dap' _ HS.out.m HS.out.M (H2.out.below HB.out) (H4.out.below HB.out)).mono ?_
  rintro e w2 ⟨rfl, hb2⟩
  go_wp2_with fail
  go_ret
  exact ⟨rfl, below_then HB.out hb2⟩
/-- The number of m bytes from the i-th on, the highest first. -/
def num (z : Nat → Int) (i : Nat) : Nat → Int
  | 0 => 0
  | m + 1 => num z i m * 256 + z (i + m)
theorem num_bd (z : Nat → Int) (i : Nat) : ∀ m, (∀ j, j < m → 0 ≤ z (i + j) ∧ z (i + j) ≤ 255) → 0 ≤ num z i m ∧ num z i m < 256 ^ m
  | 0, _ => by simp [num]
  | m + 1, h => by
    have ih := num_bd z i m fun j hj => h j (by omega)
    have hm := h m (by omega)
    simp only [num, Int.pow_succ]
    omega
theorem or8 (x y : Int) (h0 : 0 ≤ x) (h1 : x ≤ 16777215) (h2 : 0 ≤ y) (h3 : y ≤ 255) : bits .or .u64 (x * 256) y = x * 256 + y :=
  bits_join .u64 40 (by decide) (fun n a c => by rw [IntKind.wrap_u64]; omega) 8 (x * 256) y (by omega) (by omega) (by omega) h2 (by omega) (by omega)
set_option maxHeartbeats 400000 in
theorem readNumber_some (m : Nat) (z : Nat → Int) (b off cap : Nat) (w : World) (hm : m ≤ 4) (hz : ∀ j, j < m → 0 ≤ z j ∧ z j ≤ 255) (hc : ∀ i, i < m → w.cell? ⟨b, off + i, none⟩ = some (.int .u8 (z i))) :
    Calls Tryz.prog 213 #[.slice (some ⟨b, off, none⟩) m cap] w fun e w' => e = .returned (.int .i64 (num z 0 m)) ∧ w' = w := by
  go_enter Tryz.func213, Tryz.ntmps213
  go_wp2
  go_loop [3, 5, 8] (fun h _ i => ∃ k : Nat, k ≤ m ∧ i = .int .i64 k ∧ h = .int .u64 (num z 0 k)) (fun _ _ i => m - (intOf i).toNat)
  case atStart => exact ⟨0, Nat.zero_le _, rfl, rfl⟩
  case round =>
    obtain ⟨k, hk, rfl, rfl⟩ := hrel
    by_cases hlt : k < m
    · have hcell := hc k hlt
      obtain ⟨hz1, hz2⟩ := hz k hlt
      have hb := num_bd z 0 k (fun j hj => by rw [Nat.zero_add]; exact hz j (by omega))
      have hb2 : num z 0 k ≤ 16777215 := by
        have h3 : k = 0 ∨ k = 1 ∨ k = 2 ∨ k = 3 := by omega
        rcases h3 with rfl | rfl | rfl | rfl <;> simp at hb <;> omega
      obtain ⟨hb1, -⟩ := hb
      have HO : Hid (bits .or .u64 (num z 0 k * 256) (z k) = num z 0 k * 256 + z k) := or8 _ _ hb1 hb2 hz1 hz2
      clear hc hz
      go_wp2
      go_round
      case rel => exact ⟨k + 1, hlt, by go_num, by rw [HO.out]; simp [num]⟩
      case measure => simp [intOf]; omega
    · have hkn : k = m := by omega
      have HB : Hid (wrap64 (num z 0 m) = num z 0 m) := by
        have hb := num_bd z 0 m (fun j hj => by rw [Nat.zero_add]; exact hz j (by omega))
        show wrap64 (num z 0 m) = num z 0 m
        unfold wrap64
        have h3 : m = 0 ∨ m = 1 ∨ m = 2 ∨ m = 3 ∨ m = 4 := by omega
        rcases h3 with rfl | rfl | rfl | rfl | rfl <;> simp at hb <;> omega
      clear hc hz
      go_wp2
      go_ret
      exact ⟨ret_int HB.out, rfl⟩
set_option maxHeartbeats 400000 in
theorem l1Take_some (n i m : Nat) (z : Nat → Int) (b off cap : Nat) (w : World) (hm : m ≤ 4) (him : i + m ≤ n) (hn : n ≤ 1000) (hz : Byt n z) (hc : ∀ i, i < n → w.cell? ⟨b, off + i, none⟩ = some (.int .u8 (z i))) :
    Calls Tryz.prog 117 #[.slice (some ⟨b, off, none⟩) n cap, .int .i64 i, .int .i64 m] w fun e w' => e = .returned (.int .i64 (num z i m)) ∧ w' = w := by
  go_enter Tryz.func117, Tryz.ntmps117
  go_wp2
  go_loop [7, 8] (fun h q => ∃ k : Nat, k ≤ m ∧ q = .int .i64 k ∧ h = .int .i64 (num z i k)) (fun _ q => m - (intOf q).toNat)
  case atStart => exact ⟨0, Nat.zero_le _, rfl, rfl⟩
  case round =>
    obtain ⟨k, hk, rfl, rfl⟩ := hrel
    by_cases hlt : k < m
    · have hcell := hc (i + k) (by omega)
      obtain ⟨hz1, hz2⟩ := hz (i + k) (by omega)
      have hb := num_bd z i k (fun j hj => hz (i + j) (by omega))
      have hb2 : num z i k ≤ 16777215 := by
        have h3 : k = 0 ∨ k = 1 ∨ k = 2 ∨ k = 3 := by omega
        rcases h3 with rfl | rfl | rfl | rfl <;> simp at hb <;> omega
      obtain ⟨hb1, -⟩ := hb
      have hik : ((i : Int) + (k : Int)) < (n : Int) := by omega
      have hik2 : ((i : Int) + (k : Int)).toNat = i + k := by omega
      clear hc hz
      go_wp2
      go_round
      case rel => exact ⟨k + 1, hlt, by go_num, by simp [num]⟩
      case measure => simp [intOf]; omega
    · have hkn : k = m := by omega
      clear hc hz
      go_wp2
      go_ret
      exact ⟨rfl, rfl⟩
/-! ### bytes as a string -/
theorem str_inj {xs ys : List Int} (hx : ∀ z ∈ xs, 0 ≤ z ∧ z ≤ 255) (hy : ∀ z ∈ ys, 0 ≤ z ∧ z ≤ 255) (h : (strOfNums xs).toList = (strOfNums ys).toList) : xs = ys := by
  have e1 : ∀ (l : List Int), (strOfNums l).data.toList = l.map fun n => UInt8.ofNat n.toNat := fun l => by simp [strOfNums]
  have e2 : ∀ (s : ByteArray), s.toList = s.data.toList := fun s => by exact ByteArray.toList_eq _
  rw [e2, e2, e1, e1] at h
  have back : ∀ (l : List Int), (∀ z ∈ l, 0 ≤ z ∧ z ≤ 255) → (l.map fun n => UInt8.ofNat n.toNat).map (fun b => (b.toNat : Int)) = l := fun l hl => by
    rw [List.map_map]
    conv => rhs; rw [← List.map_id l]
    apply List.map_congr_left
    intro z hz
    have := hl z hz
    simp
    omega
  rw [← back xs hx, h, back ys hy]
theorem equal_some (xs ys : List Int) (b off cap b' off' cap' : Nat) (w : World) (hx : ∀ z ∈ xs, 0 ≤ z ∧ z ≤ 255) (hy : ∀ z ∈ ys, 0 ≤ z ∧ z ≤ 255)
    (hc : ∀ i, i < xs.length → w.cell? ⟨b, off + i, none⟩ = some (.int .u8 (xs.getD i 0))) (hc' : ∀ i, i < ys.length → w.cell? ⟨b', off' + i, none⟩ = some (.int .u8 (ys.getD i 0))) :
    Calls Tryz.prog 212 #[.slice (some ⟨b, off, none⟩) xs.length cap, .slice (some ⟨b', off', none⟩) ys.length cap'] w fun e w' => e = .returned (.bool (decide (xs = ys))) ∧ w' = w := by
  have h1 := run_convert_bytes_arg (P := Tryz.prog) w 27 5 Tryz.underlying27 Tryz.underlying5 b off xs.length cap xs rfl hc 9 Tryz.underlying9
  have h2 := run_convert_bytes_arg (P := Tryz.prog) w 27 5 Tryz.underlying27 Tryz.underlying5 b' off' ys.length cap' ys rfl hc' 9 Tryz.underlying9
  have HE : Hid (((strOfNums xs).toList == (strOfNums ys).toList) = decide (xs = ys)) := by
    show ((strOfNums xs).toList == (strOfNums ys).toList) = decide (xs = ys)
    by_cases e : xs = ys
    · subst e; simp
    · have : ¬ (strOfNums xs).toList = (strOfNums ys).toList := fun h => e (str_inj hx hy h)
      simp [e, this]
  clear hc hc' hx hy
  go_enter Tryz.func212, Tryz.ntmps212
  go_wp2
  go_ret
  exact ⟨ret_bool HE.out, rfl⟩
theorem num_shift (z : Nat → Int) (lo : Nat) : ∀ m, num (fun j => z (lo + j)) 0 m = num z lo m
  | 0 => rfl
  | m + 1 => by simp only [num, num_shift z lo m, Nat.zero_add]
theorem readNum (lo m : Nat) (z : Nat → Int) (b off cap : Nat) (w : World) (hm : m ≤ 4) (hz : ∀ j, j < m → 0 ≤ z (lo + j) ∧ z (lo + j) ≤ 255) (hc : ∀ i, i < m → w.cell? ⟨b, off + i, none⟩ = some (.int .u8 (z (lo + i)))) :
    Calls Tryz.prog 213 #[.slice (some ⟨b, off, none⟩) m cap] w fun e w' => e = .returned (.int .i64 (num z lo m)) ∧ w' = w := by
  have h := readNumber_some m (fun j => z (lo + j)) b off cap w hm hz hc
  rw [num_shift] at h
  exact h
/-- So many bytes from a place on. -/
def BA (w : World) (b off n : Nat) (z : Nat → Int) : Prop := ∀ i, i < n → w.cell? ⟨b, off + i, none⟩ = some (.int .u8 (z i))
theorem BA.alloc {w : World} {b off n : Nat} {z : Nat → Int} (h : BA w b off n z) (o : Obj) : BA (w.alloc o) b off n z := fun i hi => cell_alloc (h i hi) o
theorem BA.below {w w' : World} {b off n : Nat} {z : Nat → Int} (h : BA w b off n z) (hb : Below w.heap.size w w') : BA w' b off n z := fun i hi => cell_below (h i hi) hb
theorem readNumG {off m cap : Nat} (z : Nat → Int) (b o n : Nat) (w : World) (h : BA w b o n z) (hz : Byt n z) (hm : m ≤ 4) (ho : o ≤ off) (ho2 : off + m ≤ o + n) :
    Calls Tryz.prog 213 #[.slice (some ⟨b, off, none⟩) m cap] w fun e w' => e = .returned (.int .i64 (num z (off - o) m)) ∧ w' = w :=
  readNum (off - o) m z b off cap w hm (fun j hj => hz _ (by omega)) fun i hi => by
    have := h (off - o + i) (by omega)
    rwa [show o + (off - o + i) = off + i by omega] at this
theorem pgb_48 {idn lsn : Int} {n : Nat} {K V : Nat → Int} (h : n ≤ 12) : (pgb idn lsn n K V).length = 48 := by
  simp only [pgb, fld, bdy, List.length_append, List.length_replicate, hd_len, cb_len, nb_len]; omega
def zL (z : Nat → Int) (n : Nat) : List Int := (List.range n).map z
theorem zL_len (z : Nat → Int) (n : Nat) : (zL z n).length = n := by simp [zL]
theorem zL_get (z : Nat → Int) (n i : Nat) (h : i < n) : (zL z n).getD i 0 = z i := by simp [zL, h]
theorem zL_byt {z : Nat → Int} {n : Nat} (h : Byt n z) : ∀ x ∈ zL z n, 0 ≤ x ∧ x ≤ 255 := fun x hx => by
  simp only [zL, List.mem_map, List.mem_range] at hx
  obtain ⟨i, hi, rfl⟩ := hx
  exact h i hi
end Go.Proofs.YtaokclhcmgbgnaaGreat
