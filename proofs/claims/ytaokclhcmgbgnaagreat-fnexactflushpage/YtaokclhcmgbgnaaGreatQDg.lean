/- What the laws over a store that is turned need besides: the cells of an answer, an argument in blocks of its colours. -/
import Derived.Test.YtaokclhcmgbgnaaGreatQDf
import Derived.Test.YtaokclhcmgbgnaaGreatQLcp
import Derived.Test.YtaokclhcmgbgnaaGreatQZpg
import Derived.Test.YtaokclhcmgbgnaaGreatQSp
import Derived.Test.YtaokclhcmgbgnaaGreatQCq
import Derived.Test.YtaokclhcmgbgnaaGreatQBase
import Derived.Test.YtaokclhcmgbgnaaGreatQPr2
namespace Go.Proofs.YtaokclhcmgbgnaaGreat
open Go.RowKit Go.Deep
set_option linter.unusedVariables false
set_option maxRecDepth 20000
open Go.ChangeShapes Go.WideShapes Go.ChangeAt Go.RowKit Go.Deep Go.Joins

theorem l1In_q (v lo hi : Int) (w : World) : Calls Tryz.prog 26 #[.int .i64 v, .int .i64 lo, .int .i64 hi] w fun e w' => e = .returned (.bool (inB v lo hi)) ∧ ∃ n, w' = w.drewN n := by
  refine (l1In_any v lo hi w).mono ?_
  rintro e w' ⟨rfl, rfl⟩
  exact ⟨rfl, 0, rfl⟩
set_option maxHeartbeats 2000000 in
theorem specDf_any (D : Dk) (a a' : Option Addr) (cap cap' : Nat) (w : World) (hs : Small D) (h : DiskAt w a a' D) :
    Calls Tryz.prog 83 #[.agg #[.slice a D.n cap, .slice a' D.m cap']] w fun e w' => e = .returned (.int .i64 (df D)) ∧ Below w.heap.size w w' := by
  have hn := hs.n
  have hm := hs.m
  generalize hdf : df D = c
  unfold df at hdf
  obtain ⟨n, L, Z, m, P, T, M, Y⟩ := D
  obtain ⟨h1, h2⟩ := h
  dsimp only at *
  have HA : Hid (PagesAt w a n L Z) := h1
  have HA' : Hid (LoosesAt w a' m P T M Y) := h2
  have HDF : Hid ((if inB n 1 8 = false then 1 else if pgf L n 0 = 1 then 1 else if 60 < m then 2 else lsf n P T M m 0) = c) := hdf
  clear h1 h2 hs hdf
  by_cases hr1 : n < 1
  · have HD1 : Hid (1 = c) := by have h := HDF.out; rw [if_pos (by simp [inB]; omega)] at h; exact h
    clear HDF
    have hr2 : decide ((n : Int) < 1) = true := by simp; omega
    go_enter Tryz.func83, Tryz.ntmps83
    go_wp2_with fail
    go_ret
    exact ⟨ret_int HD1.out, below_new _ _⟩
  · have hr2 : decide ((n : Int) < 1) = false := by simp; omega
    by_cases hr3 : 8 < n
    · have HD1 : Hid (1 = c) := by have h := HDF.out; rw [if_pos (by simp [inB]; omega)] at h; exact h
      clear HDF
      go_enter Tryz.func83, Tryz.ntmps83
      go_wp2_with fail
      go_ret
      exact ⟨ret_int HD1.out, below_new _ _⟩
    · have HD1 : Hid ((if pgf L n 0 = 1 then 1 else if 60 < m then 2 else lsf n P T M m 0) = c) := by have h := HDF.out; rw [if_neg (by simp [inB]; omega)] at h; exact h
      clear HDF
      go_enter Tryz.func83, Tryz.ntmps83
      go_wp2_with fail
      go_loop [3] (fun i => ∃ k : Nat, k ≤ n ∧ i = .int .i64 k ∧ Hid (pgf L n 0 = pgf L (n - k) k)) (fun i => n - (intOf i).toNat)
      case atStart => exact ⟨0, Nat.zero_le _, rfl, rfl⟩
      case round =>
        obtain ⟨k, hk, rfl, HC⟩ := hrel
        by_cases hlt : k < n
        · rcases HA.out.below (below_new w (.cells #[.slice a n cap, .slice a' m cap'] 38)) with h | ⟨b, off, rfl, hl, hc⟩
          · omega
          obtain ⟨ai, ci, h1, -⟩ := hc k hlt
          have HD : Hid (pgf L n 0 = _) := HC.out.trans (pgf_at hlt)
          clear HC hc
          by_cases hc1 : L k = 48
          · have HC : Hid (pgf L n 0 = pgf L (n - (k + 1)) (k + 1)) := HD.out.trans (if_pos hc1)
            clear HD
            go_wp2
            go_round
            case rel => exact ⟨k + 1, hlt, by go_num, HC⟩
            case measure => simp [intOf]; omega
          · have HC : Hid (pgf L n 0 = 1) := HD.out.trans (if_neg hc1)
            clear HD
            go_wp2
            go_ret
            exact ⟨ret_int (by rw [← HD1.out, if_pos HC.out]), below_new _ _⟩
        · have HC0 : Hid (pgf L n 0 = 0) := by
            refine HC.out.trans ?_
            rw [show n - k = 0 by omega, pgf]
          clear HC
          by_cases hc2 : 60 < m
          · go_wp2
            go_ret
            exact ⟨ret_int (by rw [← HD1.out, if_neg (by rw [HC0.out]; omega), if_pos hc2]), below_new _ _⟩
          · have HD2 : Hid (lsf n P T M m 0 = c) := by have h := HD1.out; rw [if_neg (by rw [HC0.out]; omega), if_neg (by omega)] at h; exact h
            clear HD1 HC0
            go_wp2_with fail
            go_loopw [4] (fun i wr => ∃ j : Nat, j ≤ m ∧ i = .int .i64 j ∧ Hid (lsf n P T M m 0 = lsf n P T M (m - j) j) ∧ Below w.heap.size w wr ∧ Box2 wr w.heap.size (.slice a n cap) (.slice a' m cap')) (fun i _ => m - (intOf i).toNat)
            case atStart => exact ⟨0, Nat.zero_le _, rfl, rfl, below_new _ _, Box2.new _ _ _ _⟩
            case round =>
              obtain ⟨j, hj, rfl, HC, hb, hbx⟩ := hrel
              clear hlt
              by_cases hlt : j < m
              · rcases HA'.out.below hb with h | ⟨b, off, rfl, hl, hc⟩
                · omega
                obtain ⟨h0, h1, ai, ci, h2, -⟩ := hc j hlt
                have HBX : Hid (Box2 wr w.heap.size (.slice a n cap) (.slice (some ⟨b, off, none⟩) m cap')) := hbx
                obtain ⟨q0, q1⟩ := hbx
                have hlt' : (j : Int) < (m : Int) := by omega
                have HB : Hid (Below w.heap.size w wr) := hb
                have HE : Hid (lsf n P T M m 0 = _) := HC.out.trans (lsf_at hlt)
                clear HC hc hb
                by_cases hc1 : inB (P j) 0 ((n : Int) - 1) = true
                · by_cases hc2 : inB (T j) 0 2 = true
                  · by_cases hc3 : M j = 16
                    · have HC : Hid (lsf n P T M m 0 = lsf n P T M (m - (j + 1)) (j + 1)) := by
                        refine HE.out.trans ?_
                        rw [if_neg (by simp [hc1, hc2]), if_pos hc3]
                      clear HE
                      go_wp2_with fail
                      go_quiet (first | (go_at_call 26; exact Calls.quiet_of (l1In_q _ _ _ _)))
                      go_wp2
                      go_roundw
                      case rel => exact ⟨j + 1, hlt, by go_num, HC, by repeat (first | exact HB.out | apply Below.drew | refine below_drewN ?_ _), HBX.out⟩
                      case measure => simp [intOf]; omega
                    · have HC : Hid (lsf n P T M m 0 = 1) := by
                        refine HE.out.trans ?_
                        rw [if_neg (by simp [hc1, hc2]), if_neg hc3]
                      clear HE
                      go_wp2_with fail
                      go_quiet (first | (go_at_call 26; exact Calls.quiet_of (l1In_q _ _ _ _)))
                      go_wp2
                      go_ret
                      exact ⟨ret_int (HC.out.symm.trans HD2.out), by repeat (first | exact HB.out | apply Below.drew | refine below_drewN ?_ _)⟩
                  · have hc4 : inB (T j) 0 2 = false := by simpa using hc2
                    have HC : Hid (lsf n P T M m 0 = 3) := by
                      refine HE.out.trans ?_
                      rw [if_pos (.inr hc4)]
                    clear HE hc2
                    go_wp2_with fail
                    go_quiet (first | (go_at_call 26; exact Calls.quiet_of (l1In_q _ _ _ _)))
                    go_wp2
                    go_ret
                    exact ⟨ret_int (HC.out.symm.trans HD2.out), by repeat (first | exact HB.out | apply Below.drew | refine below_drewN ?_ _)⟩
                · have hc4 : inB (P j) 0 ((n : Int) - 1) = false := by simpa using hc1
                  have HC : Hid (lsf n P T M m 0 = 3) := by
                    refine HE.out.trans ?_
                    rw [if_pos (.inl hc4)]
                  clear HE hc1
                  go_wp2_with fail
                  go_quiet (first | (go_at_call 26; exact Calls.quiet_of (l1In_q _ _ _ _)))
                  go_wp2
                  go_ret
                  exact ⟨ret_int (HC.out.symm.trans HD2.out), by repeat (first | exact HB.out | apply Below.drew | refine below_drewN ?_ _)⟩
              · have HC2 : Hid (lsf n P T M m 0 = 0) := by
                  refine HC.out.trans ?_
                  rw [show m - j = 0 by omega, lsf]
                have HBX : Hid (Box2 wr w.heap.size (.slice a n cap) (.slice a' m cap')) := hbx
                obtain ⟨q0, q1⟩ := hbx
                clear HC
                go_wp2
                go_ret
                exact ⟨ret_int (HC2.out.symm.trans HD2.out), hb⟩
/-- A disk without a fault. -/
structure GoodD (D : Dk) : Prop where
  n1 : 1 ≤ D.n
  n8 : D.n ≤ 8
  L : ∀ i, i < D.n → D.L i = 48
  m : D.m ≤ 60
  P : ∀ i, i < D.m → 0 ≤ D.P i ∧ D.P i < D.n
  T : ∀ i, i < D.m → 0 ≤ D.T i ∧ D.T i ≤ 2
  M : ∀ i, i < D.m → D.M i = 16
theorem pgf_zero {L : Nat → Nat} : ∀ {f k : Nat}, pgf L f k = 0 → ∀ i, k ≤ i → i < k + f → L i = 48
  | 0, k, _, i, h1, h2 => by omega
  | f + 1, k, h, i, h1, h2 => by
    rw [pgf] at h
    by_cases e : L k = 48
    · rw [if_pos e] at h
      by_cases d : i = k
      · subst d; exact e
      · exact pgf_zero h i (by omega) (by omega)
    · rw [if_neg e] at h; omega
theorem lsf_zero {n : Nat} {P T : Nat → Int} {M : Nat → Nat} : ∀ {f k : Nat}, lsf n P T M f k = 0 → ∀ i, k ≤ i → i < k + f → (0 ≤ P i ∧ P i < n) ∧ (0 ≤ T i ∧ T i ≤ 2) ∧ M i = 16
  | 0, k, _, i, h1, h2 => by omega
  | f + 1, k, h, i, h1, h2 => by
    rw [lsf] at h
    by_cases e : inB (P k) 0 ((n : Int) - 1) = false ∨ inB (T k) 0 2 = false
    · rw [if_pos e] at h; omega
    · rw [if_neg e] at h
      by_cases e2 : M k = 16
      · rw [if_pos e2] at h
        by_cases d : i = k
        · subst d
          simp [inB] at e
          exact ⟨⟨by omega, by omega⟩, ⟨by omega, by omega⟩, e2⟩
        · exact lsf_zero h i (by omega) (by omega)
      · rw [if_neg e2] at h; omega
theorem goodD_of {D : Dk} (h : df D = 0) : GoodD D := by
  unfold df at h
  by_cases h1 : inB D.n 1 8 = false
  · rw [if_pos h1] at h; omega
  · rw [if_neg h1] at h
    simp [inB] at h1
    by_cases h2 : pgf D.L D.n 0 = 1
    · rw [if_pos h2] at h; omega
    · rw [if_neg h2] at h
      have h3 : pgf D.L D.n 0 = 0 := by
        rcases pgf_01 D.L D.n 0 with h | h
        · exact h
        · exact absurd h h2
      by_cases h4 : 60 < D.m
      · rw [if_pos h4] at h; omega
      · rw [if_neg h4] at h
        have hl := fun i (hi : i < D.m) => lsf_zero h i (Nat.zero_le _) (by omega)
        exact ⟨by omega, by omega, fun i hi => pgf_zero h3 i (Nat.zero_le _) (by omega), by omega, fun i hi => (hl i hi).1, fun i hi => (hl i hi).2.1, fun i hi => (hl i hi).2.2⟩
/-- The disk of an answer with a code. -/
def E0 : Dk := ⟨0, fun _ => 0, fun _ _ => 0, 0, fun _ => 0, fun _ => 0, fun _ => 0, fun _ _ => 0⟩
def rD (c : Int) (X : Dk) : Dk := if c = 0 then X else E0
def DRes (c : Int) (X : Dk) (w : World) (e : Ending) (w' : World) : Prop :=
  ∃ a a' cap cap', e = .returned (.agg #[.int .i64 c, .slice a (rD c X).n cap, .slice a' (rD c X).m cap']) ∧ Below w.heap.size w w' ∧ OwnD w' w.heap.size w'.heap.size a a' (rD c X)
theorem dres_bad {c : Int} {X : Dk} {w w' : World} (hb : Below w.heap.size w w') (hc : c ≠ 0) : DRes c X w (.returned (.agg #[.int .i64 c, .slice none 0 0, .slice none 0 0])) w' := by
  unfold DRes rD
  rw [if_neg hc]
  exact ⟨none, none, 0, 0, rfl, hb, Nat.le_refl _, w.heap.size, w.heap.size, w.heap.size, w.heap.size, Nat.le_refl _, hb.size, Nat.le_refl _, hb.size, .inl (Nat.le_refl _), ⟨hb.size, .inl rfl⟩, ⟨hb.size, .inl rfl⟩⟩
theorem shl_get (Z : Nat → Nat → Int) : ∀ n i q, i < n → q < 48 → (shl Z n)[i * 48 + q]? = (bvs (Z i) 48)[q]?
  | 0, i, q, h, _ => by omega
  | n + 1, i, q, h, hq => by
    simp only [shl]
    by_cases e : i = n
    · subst e
      rw [List.getElem?_append_right (by rw [shl_len]; omega), shl_len]
      congr 1; omega
    · rw [List.getElem?_append_left (by rw [shl_len]; omega)]
      exact shl_get Z n i q (by omega) hq
theorem shl_range {w : World} {base b n c : Nat} {Z : Nat → Nat → Int} (h : w.ownsRow base 241 48 (.slice (some ⟨b, 0, none⟩) n c) n (shl Z n)) : ∀ i, i < n → w.rangeAt b (i * 48) (bvs (Z i) 48) := fun i hi j v hv => by
  obtain ⟨hj, rfl⟩ := bvs_get _ _ _ _ hv
  rw [h.cellAt (i * 48 + j) (by omega), shl_get Z n i j hi hj, hv]
open Classical in
theorem OwnS.of {w : World} {lo hi l2 h2 l3 h3 l4 h4 l5 h5 : Nat} {P : Nat → Prop} {a0 a1 a2 a3 a4 a5 a6 : Option Addr} {t : Sto} (h0 : hi ≤ w.heap.size)
    (bP : ∀ x, P x → lo ≤ x ∧ x < hi ∧ ¬ (l2 ≤ x ∧ x < h2) ∧ ¬ (l3 ≤ x ∧ x < h3) ∧ ¬ (l4 ≤ x ∧ x < h4) ∧ ¬ (l5 ≤ x ∧ x < h5)) (b2 : ∀ x, l2 ≤ x → x < h2 → lo ≤ x ∧ x < hi ∧ ¬ (l3 ≤ x ∧ x < h3) ∧ ¬ (l4 ≤ x ∧ x < h4) ∧ ¬ (l5 ≤ x ∧ x < h5)) (b3 : ∀ x, l3 ≤ x → x < h3 → lo ≤ x ∧ x < hi ∧ ¬ (l4 ≤ x ∧ x < h4) ∧ ¬ (l5 ≤ x ∧ x < h5)) (b4 : ∀ x, l4 ≤ x → x < h4 → lo ≤ x ∧ x < hi ∧ ¬ (l5 ≤ x ∧ x < h5)) (b5 : ∀ x, l5 ≤ x → x < h5 → lo ≤ x ∧ x < hi)
    (p1 : OwnPgP w P a0 t.pn t.pT) (p2 : OwnD w l2 h2 a1 a2 t.d) (p3 : OwnG w l3 h3 a3 a4 t.g) (p4 : Own w l4 h4 a5 t.hn t.hK t.hV) (p5 : OwnI w l5 h5 a6 t.on t.oF) : OwnS w lo hi a0 a1 a2 a3 a4 a5 a6 t := by
  refine ⟨h0, fun x => if l2 ≤ x ∧ x < h2 then 2 else if l3 ≤ x ∧ x < h3 then 3 else if l4 ≤ x ∧ x < h4 then 4 else if l5 ≤ x ∧ x < h5 then 5 else if P x then 1 else 0, fun x hx => ?_, p1.mono fun x hx => ?_, ⟨l2, h2, fun x x1 x2 => ?_, p2⟩, ⟨l3, h3, fun x x1 x2 => ?_, p3⟩, ⟨l4, h4, fun x x1 x2 => ?_, p4⟩, ⟨l5, h5, fun x x1 x2 => ?_, p5⟩⟩
  · by_cases c2 : l2 ≤ x ∧ x < h2
    · have := b2 x c2.1 c2.2; exact ⟨this.1, this.2.1⟩
    · by_cases c3 : l3 ≤ x ∧ x < h3
      · have := b3 x c3.1 c3.2; exact ⟨this.1, this.2.1⟩
      · by_cases c4 : l4 ≤ x ∧ x < h4
        · have := b4 x c4.1 c4.2; exact ⟨this.1, this.2.1⟩
        · by_cases c5 : l5 ≤ x ∧ x < h5
          · exact b5 x c5.1 c5.2
          · by_cases c1 : P x
            · have := bP x c1; exact ⟨this.1, this.2.1⟩
            · simp only [if_neg c2, if_neg c3, if_neg c4, if_neg c5, if_neg c1] at hx; exact absurd rfl hx
  · obtain ⟨_, _, n2, n3, n4, n5⟩ := bP x hx
    simp only [if_neg n2, if_neg n3, if_neg n4, if_neg n5, if_pos hx]
  · simp only [if_pos (And.intro x1 x2)]
  · obtain ⟨_, _, n4, n5⟩ := b3 x x1 x2
    have n2 : ¬ (l2 ≤ x ∧ x < h2) := fun c => (b2 x c.1 c.2).2.2.1 ⟨x1, x2⟩
    simp only [if_neg n2, if_pos (And.intro x1 x2)]
  · have n2 : ¬ (l2 ≤ x ∧ x < h2) := fun c => (b2 x c.1 c.2).2.2.2.1 ⟨x1, x2⟩
    have n3 : ¬ (l3 ≤ x ∧ x < h3) := fun c => (b3 x c.1 c.2).2.2.1 ⟨x1, x2⟩
    simp only [if_neg n2, if_neg n3, if_pos (And.intro x1 x2)]
  · have n2 : ¬ (l2 ≤ x ∧ x < h2) := fun c => (b2 x c.1 c.2).2.2.2.2 ⟨x1, x2⟩
    have n3 : ¬ (l3 ≤ x ∧ x < h3) := fun c => (b3 x c.1 c.2).2.2.2 ⟨x1, x2⟩
    have n4 : ¬ (l4 ≤ x ∧ x < h4) := fun c => (b4 x c.1 c.2).2.2 ⟨x1, x2⟩
    simp only [if_neg n2, if_neg n3, if_neg n4, if_pos (And.intro x1 x2)]
theorem BoxS.block {w w' : World} {B : Nat} {c0 c1 c2 c3 c4 c5 c6 c7 : Value} (h : BoxS w B c0 c1 c2 c3 c4 c5 c6 c7) (e : w'.heap[B]? = w.heap[B]?) : BoxS w' B c0 c1 c2 c3 c4 c5 c6 c7 := by
  have g : ∀ i, w'.cell? ⟨B, i, none⟩ = w.cell? ⟨B, i, none⟩ := fun i => World.cell?_of_block (w := w) (a := ⟨B, i, none⟩) e
  obtain ⟨h0, h1, h2, h3, h4, h5, h6, h7⟩ := h
  exact ⟨(g _).trans h0, (g _).trans h1, (g _).trans h2, (g _).trans h3, (g _).trans h4, (g _).trans h5, (g _).trans h6, (g _).trans h7⟩
theorem BoxS.set1 {w : World} {B : Nat} {c0 c1 c2 c3 c4 c5 c6 c7 : Value} (h : BoxS w B c0 c1 c2 c3 c4 c5 c6 c7) (u : Value) : BoxS (w.setCell ⟨B, 1, none⟩ u) B c0 u c2 c3 c4 c5 c6 c7 := by
  obtain ⟨h0, h1, h2, h3, h4, h5, h6, h7⟩ := h
  exact ⟨by rw [setO (by omega)]; exact h0, setS h1, by rw [setO (by omega)]; exact h2, by rw [setO (by omega)]; exact h3, by rw [setO (by omega)]; exact h4, by rw [setO (by omega)]; exact h5, by rw [setO (by omega)]; exact h6, by rw [setO (by omega)]; exact h7⟩
def Box10 (w : World) (B : Nat) (c0 c1 c2 c3 c4 c5 c6 c7 c8 c9 : Value) : Prop := w.cell? ⟨B, 0, none⟩ = some c0 ∧ w.cell? ⟨B, 1, none⟩ = some c1 ∧ w.cell? ⟨B, 2, none⟩ = some c2 ∧ w.cell? ⟨B, 3, none⟩ = some c3 ∧ w.cell? ⟨B, 4, none⟩ = some c4 ∧ w.cell? ⟨B, 5, none⟩ = some c5 ∧ w.cell? ⟨B, 6, none⟩ = some c6 ∧ w.cell? ⟨B, 7, none⟩ = some c7 ∧ w.cell? ⟨B, 8, none⟩ = some c8 ∧ w.cell? ⟨B, 9, none⟩ = some c9
theorem Box10.alloc {w : World} {B : Nat} {c0 c1 c2 c3 c4 c5 c6 c7 c8 c9 : Value} (h : Box10 w B c0 c1 c2 c3 c4 c5 c6 c7 c8 c9) (x : Obj) : Box10 (w.alloc x) B c0 c1 c2 c3 c4 c5 c6 c7 c8 c9 := ⟨cell_alloc h.1 x, cell_alloc h.2.1 x, cell_alloc h.2.2.1 x, cell_alloc h.2.2.2.1 x, cell_alloc h.2.2.2.2.1 x, cell_alloc h.2.2.2.2.2.1 x, cell_alloc h.2.2.2.2.2.2.1 x, cell_alloc h.2.2.2.2.2.2.2.1 x, cell_alloc h.2.2.2.2.2.2.2.2.1 x, cell_alloc h.2.2.2.2.2.2.2.2.2 x⟩
theorem Box10.below {w w' : World} {B : Nat} {c0 c1 c2 c3 c4 c5 c6 c7 c8 c9 : Value} (h : Box10 w B c0 c1 c2 c3 c4 c5 c6 c7 c8 c9) (x : Below w.heap.size w w') : Box10 w' B c0 c1 c2 c3 c4 c5 c6 c7 c8 c9 := ⟨cell_below h.1 x, cell_below h.2.1 x, cell_below h.2.2.1 x, cell_below h.2.2.2.1 x, cell_below h.2.2.2.2.1 x, cell_below h.2.2.2.2.2.1 x, cell_below h.2.2.2.2.2.2.1 x, cell_below h.2.2.2.2.2.2.2.1 x, cell_below h.2.2.2.2.2.2.2.2.1 x, cell_below h.2.2.2.2.2.2.2.2.2 x⟩
theorem Box10.writes {w w' : World} {lo hi : Nat} {B : Nat} {c0 c1 c2 c3 c4 c5 c6 c7 c8 c9 : Value} (h : Box10 w B c0 c1 c2 c3 c4 c5 c6 c7 c8 c9) (x : Writes lo hi w w') (d : B < lo ∨ hi ≤ B) : Box10 w' B c0 c1 c2 c3 c4 c5 c6 c7 c8 c9 := ⟨cell_writes h.1 x d, cell_writes h.2.1 x d, cell_writes h.2.2.1 x d, cell_writes h.2.2.2.1 x d, cell_writes h.2.2.2.2.1 x d, cell_writes h.2.2.2.2.2.1 x d, cell_writes h.2.2.2.2.2.2.1 x d, cell_writes h.2.2.2.2.2.2.2.1 x d, cell_writes h.2.2.2.2.2.2.2.2.1 x d, cell_writes h.2.2.2.2.2.2.2.2.2 x d⟩
theorem Box10.new (w : World) (c0 c1 c2 c3 c4 c5 c6 c7 c8 c9 : Value) (t : TypeId) : Box10 (w.alloc (.cells #[c0, c1, c2, c3, c4, c5, c6, c7, c8, c9] t)) w.heap.size c0 c1 c2 c3 c4 c5 c6 c7 c8 c9 := by simp [Box10]
theorem OwnInSt.toS {w : World} {l h : Nat} {a0 a1 a2 a3 a4 a5 a6 : Option Addr} {t : Sto} (k : OwnInSt w l h a0 a1 a2 a3 a4 a5 a6 t) : OwnS w l h a0 a1 a2 a3 a4 a5 a6 t := by
  obtain ⟨m0, m1, m2, m3, m4, m5, e0, e1, e2, e3, e4, e5, e6, e7, p0, p1, p2, p3, p4⟩ := k
  exact OwnS.of e7 (P := fun x => m0 ≤ x ∧ x < m1) (fun x hx => by obtain ⟨_, _⟩ := hx; omega) (fun x _ _ => by omega) (fun x _ _ => by omega) (fun x _ _ => by omega) (fun x _ _ => by omega) p0.toP p1 p2 p3 p4
end Go.Proofs.YtaokclhcmgbgnaaGreat
