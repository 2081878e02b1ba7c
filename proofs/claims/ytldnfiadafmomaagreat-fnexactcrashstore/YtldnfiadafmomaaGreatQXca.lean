/- What a crash leaves, as an answer: a disk and a log; equal, marked, held. -/
import Derived.Test.YtldnfiadafmomaaGreatQZem
import Derived.Test.YtldnfiadafmomaaGreatQLy
import Derived.Test.YtldnfiadafmomaaGreatQCr2
import Derived.Test.YtldnfiadafmomaaGreatQZfe
namespace Go.Proofs.YtldnfiadafmomaaGreat
open Go.ChangeShapes Go.WideShapes Go.ChangeAt Go.RowKit Go.Deep Go.Joins
set_option linter.unusedVariables false
set_option maxRecDepth 20000

/-- A disk and a log in blocks of their own from lo on, below hi. -/
def OwnK (w : World) (lo hi : Nat) (a a' a1 a2 : Option Addr) (X : Dk) (G : Lo) : Prop :=
  hi ≤ w.heap.size ∧ ∃ l1 h1 l2 h2, lo ≤ l1 ∧ h1 ≤ hi ∧ lo ≤ l2 ∧ h2 ≤ hi ∧ (h1 ≤ l2 ∨ h2 ≤ l1) ∧ OwnD w l1 h1 a a' X ∧ OwnG w l2 h2 a1 a2 G
theorem OwnK.at {w : World} {lo hi : Nat} {a a' a1 a2 : Option Addr} {X : Dk} {G : Lo} (h : OwnK w lo hi a a' a1 a2 X G) : DiskAt w a a' X ∧ LogAt w a1 a2 G := by
  obtain ⟨_, l1, h1, l2, h2, _, _, _, _, _, hp, hl⟩ := h
  exact ⟨hp.at, hl.at⟩
theorem OwnK.writes {w w' : World} {lo hi lo' hi' : Nat} {a a' a1 a2 : Option Addr} {X : Dk} {G : Lo} (h : OwnK w lo hi a a' a1 a2 X G) (hw : Writes lo' hi' w w') (hd : hi ≤ lo' ∨ hi' ≤ lo) : OwnK w' lo hi a a' a1 a2 X G := by
  obtain ⟨h0, l1, h1, l2, h2, k1, k2, k3, k4, k5, hp, hl⟩ := h
  exact ⟨Nat.le_trans h0 hw.size, l1, h1, l2, h2, k1, k2, k3, k4, k5, hp.writes hw (by omega), hl.writes hw (by omega)⟩
theorem OwnK.below {w w' : World} {lo hi : Nat} {a a' a1 a2 : Option Addr} {X : Dk} {G : Lo} (h : OwnK w lo hi a a' a1 a2 X G) (hb : Below w.heap.size w w') : OwnK w' lo hi a a' a1 a2 X G := by
  obtain ⟨h0, l1, h1, l2, h2, k1, k2, k3, k4, k5, hp, hl⟩ := h
  exact ⟨Nat.le_trans h0 hb.size, l1, h1, l2, h2, k1, k2, k3, k4, k5, hp.below hb, hl.below hb⟩
/-- The same, for reading alone. -/
def OwnKR (w : World) (lo hi : Nat) (a a' a1 a2 : Option Addr) (X : Dk) (G : Lo) : Prop := OwnR w lo hi a a' X ∧ OwnG w lo hi a1 a2 G
theorem OwnKR.at {w : World} {lo hi : Nat} {a a' a1 a2 : Option Addr} {X : Dk} {G : Lo} (h : OwnKR w lo hi a a' a1 a2 X G) : DiskAt w a a' X ∧ LogAt w a1 a2 G := ⟨h.1.at, h.2.at⟩
theorem OwnKR.writes {w w' : World} {lo hi lo' hi' : Nat} {a a' a1 a2 : Option Addr} {X : Dk} {G : Lo} (h : OwnKR w lo hi a a' a1 a2 X G) (hw : Writes lo' hi' w w') (hd : hi ≤ lo' ∨ hi' ≤ lo) : OwnKR w' lo hi a a' a1 a2 X G := ⟨h.1.writes hw hd, h.2.writes hw hd⟩
theorem OwnKR.below {w w' : World} {lo hi : Nat} {a a' a1 a2 : Option Addr} {X : Dk} {G : Lo} (h : OwnKR w lo hi a a' a1 a2 X G) (hb : Below w.heap.size w w') : OwnKR w' lo hi a a' a1 a2 X G := ⟨h.1.below hb, h.2.below hb⟩
def KRes (c : Int) (X : Dk) (G : Lo) (w : World) (e : Ending) (w' : World) : Prop :=
  ∃ a a' a1 a2 k k' k1 k2, e = .returned (.agg #[.int .i64 c, .slice a X.n k, .slice a' X.m k', .slice a1 G.n1 k1, .slice a2 G.n2 k2]) ∧ Below w.heap.size w w' ∧ OwnK w' w.heap.size w'.heap.size a a' a1 a2 X G
def KRd (c : Int) (X : Dk) (G : Lo) (w : World) (e : Ending) (w' : World) : Prop :=
  ∃ a a' a1 a2 k k' k1 k2, e = .returned (.agg #[.int .i64 c, .slice a X.n k, .slice a' X.m k', .slice a1 G.n1 k1, .slice a2 G.n2 k2]) ∧ Below w.heap.size w w' ∧ OwnKR w' w.heap.size w'.heap.size a a' a1 a2 X G
theorem ownG_none (w : World) (lo hi : Nat) (h1 : lo ≤ hi) (h2 : hi ≤ w.heap.size) : OwnG w lo hi none none ⟨0, fun _ => 0, 0, fun _ => 0⟩ :=
  ⟨h2, lo, hi, hi, hi, Nat.le_refl _, Nat.le_refl _, h1, Nat.le_refl _, .inl (Nat.le_refl _), ⟨h2, .inl rfl⟩, ⟨h2, .inl rfl⟩⟩
theorem ownD_none (w : World) (lo hi : Nat) (h1 : lo ≤ hi) (h2 : hi ≤ w.heap.size) : OwnD w lo hi none none E0 :=
  ⟨h2, lo, hi, hi, hi, Nat.le_refl _, Nat.le_refl _, h1, Nat.le_refl _, .inl (Nat.le_refl _), ⟨h2, .inl rfl⟩, ⟨h2, .inl rfl⟩⟩
theorem kres_bad {c : Int} {w w' : World} (hb : Below w.heap.size w w') : KRes c E0 ⟨0, fun _ => 0, 0, fun _ => 0⟩ w (.returned (.agg #[.int .i64 c, .slice none 0 0, .slice none 0 0, .slice none 0 0, .slice none 0 0])) w' :=
  ⟨none, none, none, none, 0, 0, 0, 0, rfl, hb, Nat.le_refl _, w.heap.size, w.heap.size, w.heap.size, w'.heap.size, Nat.le_refl _, hb.size, Nat.le_refl _, Nat.le_refl _, .inl (Nat.le_refl _), ownD_none _ _ _ (Nat.le_refl _) hb.size, ownG_none _ _ _ hb.size (Nat.le_refl _)⟩
theorem krd_bad {c : Int} {w w' : World} (hb : Below w.heap.size w w') : KRd c E0 ⟨0, fun _ => 0, 0, fun _ => 0⟩ w (.returned (.agg #[.int .i64 c, .slice none 0 0, .slice none 0 0, .slice none 0 0, .slice none 0 0])) w' :=
  ⟨none, none, none, none, 0, 0, 0, 0, rfl, hb, ⟨⟨Nat.le_refl _, .inl rfl⟩, ⟨Nat.le_refl _, .inl rfl⟩⟩, ownG_none _ _ _ hb.size (Nat.le_refl _)⟩
theorem kres_ok {X : Dk} {G : Lo} {w w1 w2 w3 w4 w' : World} {a a' a1 a2 : Option Addr} {k k' k1 k2 m2 m3 : Nat} (h1 : Below w.heap.size w w1) (hz1 : w.heap.size + 2 ≤ w1.heap.size) (h2 : Below w1.heap.size w1 w2) (h4 : Below w2.heap.size w2 w4)
    (hG : OwnG w2 w1.heap.size w2.heap.size a1 a2 G) (hm2 : w2.heap.size ≤ m2) (hD : OwnD w4 m2 m3 a a' X) (hm3 : m3 ≤ w4.heap.size) (hl : m2 ≤ m3) (hw : Writes (w.heap.size + 1) (w.heap.size + 2) w4 w') (hs : w'.heap.size = w4.heap.size) :
    KRes 0 X G w (.returned (.agg #[.int .i64 0, .slice a X.n k, .slice a' X.m k', .slice a1 G.n1 k1, .slice a2 G.n2 k2])) w' := by
  have z2 := h2.size
  have z4 := h4.size
  refine ⟨a, a', a1, a2, k, k', k1, k2, rfl, Writes.below (below_then h1 (below_then h2 h4)) hw (by omega), ?_⟩
  exact ⟨Nat.le_refl _, m2, m3, w1.heap.size, w2.heap.size, by omega, by omega, by omega, by omega, .inr (by omega), hD.writes hw (by omega), (hG.below h4).writes hw (by omega)⟩
theorem krd_ok {X : Dk} {G : Lo} {w w1 w2 w3 w4 w' : World} {a a' a1 a2 : Option Addr} {k k' k1 k2 m2 m3 : Nat} (h1 : Below w.heap.size w w1) (hz1 : w.heap.size + 2 ≤ w1.heap.size) (h2 : Below w1.heap.size w1 w2) (h4 : Below w2.heap.size w2 w4)
    (hG : OwnG w2 w1.heap.size w2.heap.size a1 a2 G) (hm2 : w2.heap.size ≤ m2) (hD : OwnR w4 m2 m3 a a' X) (hm3 : m3 ≤ w4.heap.size) (hl : m2 ≤ m3) (hw : Writes (w.heap.size + 1) (w.heap.size + 2) w4 w') (hs : w'.heap.size = w4.heap.size) :
    KRd 0 X G w (.returned (.agg #[.int .i64 0, .slice a X.n k, .slice a' X.m k', .slice a1 G.n1 k1, .slice a2 G.n2 k2])) w' := by
  have z2 := h2.size
  have z4 := h4.size
  refine ⟨a, a', a1, a2, k, k', k1, k2, rfl, Writes.below (below_then h1 (below_then h2 h4)) hw (by omega), ?_⟩
  exact ⟨(hD.writes hw (by omega)).wide (by omega) (by omega) (Nat.le_refl _), ((hG.below h4).writes hw (by omega)).wide (by omega) (by omega) (Nat.le_refl _)⟩
theorem eqCrashResult_same (c : Int) (X : Dk) (G : Lo) (a a' a1 a2 b b' b1 b2 : Option Addr) (k k' k1 k2 j j' j1 j2 : Nat) (w : World) (hX : Small X) (hG : G.n1 ≤ 1048576 ∧ G.n2 ≤ 1048576) (h : DiskAt w a a' X ∧ LogAt w a1 a2 G) (h' : DiskAt w b b' X ∧ LogAt w b1 b2 G) :
    Calls Tryz.prog 9 #[.agg #[.int .i64 c, .slice a X.n k, .slice a' X.m k', .slice a1 G.n1 k1, .slice a2 G.n2 k2], .agg #[.int .i64 c, .slice b X.n j, .slice b' X.m j', .slice b1 G.n1 j1, .slice b2 G.n2 j2]] w fun e w' => e = .returned (.bool true) ∧ Below w.heap.size w w' := by
  have hb0 : ∀ o1 o2, Below w.heap.size w ((w.alloc o1).alloc o2) := fun o1 o2 => ((Below.refl _ _).alloc (Nat.le_refl _) _).alloc (by simp) _
  have H1 : Hid (DiskAt w a a' X ∧ LogAt w a1 a2 G) := h
  have H2 : Hid (DiskAt w b b' X ∧ LogAt w b1 b2 G) := h'
  clear h h'
  go_enter Tryz.func9, Tryz.ntmps9
  go_wp2_with fail
  refine (eqDisk_same X a a' b b' k k' j j' _ hX (H1.out.1.below (hb0 _ _)) (H2.out.1.below (hb0 _ _))).mono ?_
  rintro e w1 ⟨rfl, hb1⟩
  obtain ⟨hcc, hff⟩ := bcell hb1
  have q3 : w1.cell? ⟨w.heap.size, 3, none⟩ = some (.slice a1 G.n1 k1) := by rw [hcc _ _ (by simp <;> omega)]; simp [go_sem]
  have q4 : w1.cell? ⟨w.heap.size, 4, none⟩ = some (.slice a2 G.n2 k2) := by rw [hcc _ _ (by simp <;> omega)]; simp [go_sem]
  have r3 : w1.cell? ⟨w.heap.size + 1, 3, none⟩ = some (.slice b1 G.n1 j1) := by rw [hcc _ _ (by simp <;> omega)]; simp [go_sem]
  have r4 : w1.cell? ⟨w.heap.size + 1, 4, none⟩ = some (.slice b2 G.n2 j2) := by rw [hcc _ _ (by simp <;> omega)]; simp [go_sem]
  have HB : Hid (Below w.heap.size w w1) := below_then (hb0 _ _) hb1
  clear hcc hff hb1 hb0
  go_wp2_with fail
  refine (eqLog_same G a1 a2 b1 b2 k1 k2 j1 j2 _ hG.1 hG.2 (H1.out.2.below HB.out) (H2.out.2.below HB.out)).mono ?_
  rintro e w2 ⟨rfl, hb2⟩
  go_wp2_with fail
  go_ret
  exact ⟨rfl, below_then HB.out hb2⟩
/-- Marked from 1 on. -/
def mKX (X : Dk) : Dk := mD 1 X
def mKG (X : Dk) (G : Lo) : Lo := mG (1 + tot X) G
def totK (X : Dk) (G : Lo) : Nat := tot X + (G.n1 + G.n2)
theorem markCrashResult_any (c : Int) (X : Dk) (G : Lo) (a a' a1 a2 : Option Addr) (k k' k1 k2 lo hi : Nat) (w : World) (hX : Small X) (hG : G.n1 ≤ 1048576 ∧ G.n2 ≤ 1048576) (h : OwnK w lo hi a a' a1 a2 X G) :
    Calls Tryz.prog 14 #[.agg #[.int .i64 c, .slice a X.n k, .slice a' X.m k', .slice a1 G.n1 k1, .slice a2 G.n2 k2], .int .i64 1] w fun e w' => e = .returned (.int .i64 (1 + totK X G)) ∧ Writes lo hi w w' ∧ OwnK w' lo hi a a' a1 a2 (mKX X) (mKG X G) := by
  obtain ⟨h0, l1, h1, l2, h2, e1, e2, e3, e4, e5, hp, hl⟩ := h
  have HP : Hid (OwnD w l1 h1 a a' X) := hp
  have HL : Hid (OwnG w l2 h2 a1 a2 G) := hl
  have htt := tot_le hX
  have hq : (1 : Int) + tot X + ((G.n1 + G.n2 : Nat) : Int) = 1 + (totK X G : Int) := by unfold totK; omega
  have HQ : Hid ((1 : Int) + tot X + ((G.n1 + G.n2 : Nat) : Int) = 1 + (totK X G : Int)) := hq
  clear hp hl hq
  go_enter Tryz.func14, Tryz.ntmps14
  go_wp2_with fail
  refine (markDisk_b X a a' k k' l1 h1 1 _ hX (by omega) (by omega) (HP.out.below (below_new _ _))).mono ?_
  rintro e w1 ⟨rfl, hw1, ho1⟩
  have HW : Hid (Writes l1 h1 w w1) := (Writes.of_below (below_new _ _)).trans hw1
  have hlt : h1 ≤ w.heap.size := HP.out.1
  have q3 : w1.cell? ⟨w.heap.size, 3, none⟩ = some (.slice a1 G.n1 k1) := by rw [hw1.cell (by simp) (by omega) _]; simp [go_sem]
  have q4 : w1.cell? ⟨w.heap.size, 4, none⟩ = some (.slice a2 G.n2 k2) := by rw [hw1.cell (by simp) (by omega) _]; simp [go_sem]
  have HO1 : Hid (OwnD w1 l1 h1 a a' (mD 1 X)) := ho1
  have hz1 : w.heap.size ≤ w1.heap.size := HW.out.size
  clear hw1 ho1
  obtain ⟨m, HM⟩ : ∃ m : Int, Hid ((1 : Int) + tot X = m) := ⟨_, rfl⟩
  have hm0 : 0 ≤ m := by have := HM.out; omega
  have hm1 : m ≤ 33554432 := by have := HM.out; omega
  rw [HM.out]
  go_wp2_with fail
  refine (markLog_b G a1 a2 k1 k2 l2 h2 m _ hG.1 hG.2 hm0 hm1 (HL.out.writes HW.out (by omega))).mono ?_
  rintro e w2 ⟨rfl, hw2, ho2⟩
  have hz2 : w1.heap.size ≤ w2.heap.size := hw2.size
  go_wp2_with fail
  go_ret
  refine ⟨ret_int (by rw [← HM.out]; exact HQ.out), (HW.out.wide e1 e2).trans (hw2.wide e3 e4), ?_⟩
  refine ⟨by omega, l1, h1, l2, h2, e1, e2, e3, e4, e5, HO1.out.writes hw2 (by omega), ?_⟩
  unfold mKG
  rw [HM.out]
  exact ho2
theorem heldCrashResult_any (c : Int) (X : Dk) (G : Lo) (a a' a1 a2 : Option Addr) (k k' k1 k2 : Nat) (w : World) (hX : Small X) (hG : G.n1 ≤ 1048576 ∧ G.n2 ≤ 1048576) (h : DiskAt w a a' (mKX X) ∧ LogAt w a1 a2 (mKG X G)) :
    Calls Tryz.prog 15 #[.agg #[.int .i64 c, .slice a X.n k, .slice a' X.m k', .slice a1 G.n1 k1, .slice a2 G.n2 k2], .int .i64 1] w fun e w' => e = .returned (.int .i64 (1 + totK X G)) ∧ Below w.heap.size w w' := by
  have H1 : Hid (DiskAt w a a' (mD 1 X)) := h.1
  have H2 : Hid (LogAt w a1 a2 (mG (1 + tot X) G)) := h.2
  have htt := tot_le hX
  have HT : Hid (1 + tot X ≤ 33554432) := by show 1 + tot X ≤ 33554432; omega
  have hq : (1 : Int) + tot X + ((G.n1 + G.n2 : Nat) : Int) = 1 + (totK X G : Int) := by unfold totK; omega
  have HQ : Hid ((1 : Int) + tot X + ((G.n1 + G.n2 : Nat) : Int) = 1 + (totK X G : Int)) := hq
  clear h hq htt
  obtain ⟨m, HM⟩ : ∃ m : Int, Hid ((1 : Int) + tot X = m) := ⟨_, rfl⟩
  have hm0 : 0 ≤ m := by have := HM.out; omega
  have hm1 : m ≤ 33554432 := by have := HM.out; have := HT.out; omega
  have hn0 : ¬ (m < 0) := by omega
  have hn1 : ¬ (m + ((G.n1 + G.n2 : Nat) : Int) < 0) := by omega
  go_enter Tryz.func15, Tryz.ntmps15
  go_wp2_with fail
  refine (heldDisk_any X a a' k k' 1 _ hX (by omega) (by omega) (H1.out.below (below_new _ _))).mono ?_
  rintro e w1 ⟨rfl, hb1⟩
  obtain ⟨hcc, hff⟩ := bcell hb1
  have q3 : w1.cell? ⟨w.heap.size, 3, none⟩ = some (.slice a1 G.n1 k1) := by rw [hcc _ _ (by simp <;> omega)]; simp [go_sem]
  have q4 : w1.cell? ⟨w.heap.size, 4, none⟩ = some (.slice a2 G.n2 k2) := by rw [hcc _ _ (by simp <;> omega)]; simp [go_sem]
  have HB : Hid (Below w.heap.size w w1) := below_then (below_new _ _) hb1
  clear hcc hff hb1
  rw [HM.out] at H2 ⊢
  go_wp2_with fail
  refine (heldLog_b G a1 a2 k1 k2 m _ hG.1 hG.2 hm0 hm1 (H2.out.below HB.out)).mono ?_
  rintro e w2 ⟨rfl, hb2⟩
  go_wp2_with fail
  go_ret
  exact ⟨ret_int (by rw [← HM.out]; exact HQ.out), below_then HB.out hb2⟩
/-- CrashStore's code, its disk, its log. -/
def csC (t : Sto) (x : Int) (k : Nat) (F : Nat → Int) : Int := if stF t = 0 then (if clC t.g x = 0 then crC t.d k F else clC t.g x) else stF t
def csD (t : Sto) (x : Int) (k : Nat) (F : Nat → Int) : Dk := rD (csC t x k F) (syD t.d F k)
def csG (t : Sto) (x : Int) (k : Nat) (F : Nat → Int) : Lo := if csC t x k F = 0 then clL t.g x else ⟨0, fun _ => 0, 0, fun _ => 0⟩
theorem cs_bad {t : Sto} {x : Int} {k : Nat} {F : Nat → Int} {c : Int} (h : csC t x k F = c) (hc : c ≠ 0) : csC t x k F = c ∧ csD t x k F = E0 ∧ csG t x k F = ⟨0, fun _ => 0, 0, fun _ => 0⟩ := by
  refine ⟨h, ?_, ?_⟩
  · unfold csD rD; rw [h, if_neg hc]
  · unfold csG; rw [h, if_neg hc]
theorem cs_ok {t : Sto} {x : Int} {k : Nat} {F : Nat → Int} (h : csC t x k F = 0) : csC t x k F = 0 ∧ csD t x k F = syD t.d F k ∧ csG t x k F = clL t.g x := by
  refine ⟨h, ?_, ?_⟩
  · unfold csD rD; rw [h, if_pos rfl]
  · unfold csG; rw [h, if_pos rfl]
theorem cs_at {t : Sto} {x : Int} {k : Nat} {F : Nat → Int} (h0 : stF t = 0) (h1 : clC t.g x = 0) : csC t x k F = crC t.d k F := by unfold csC; rw [if_pos h0, if_pos h1]
theorem cs_log {t : Sto} {x : Int} {k : Nat} {F : Nat → Int} (h0 : stF t = 0) (h1 : clC t.g x ≠ 0) : csC t x k F = clC t.g x := by unfold csC; rw [if_pos h0, if_neg h1]
theorem cs_st {t : Sto} {x : Int} {k : Nat} {F : Nat → Int} (h0 : stF t ≠ 0) : csC t x k F = stF t := by unfold csC; rw [if_neg h0]
end Go.Proofs.YtldnfiadafmomaaGreat
