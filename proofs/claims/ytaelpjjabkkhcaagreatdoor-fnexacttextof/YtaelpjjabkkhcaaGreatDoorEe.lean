/- Engines: sizes, copies, equal, marked, held, opened; answers that are engines. -/
import Derived.Test.YtaelpjjabkkhcaaGreatDoorErb
import Derived.Test.YtaelpjjabkkhcaaGreatDoorEtb
namespace Go.Proofs.YtaelpjjabkkhcaaGreatDoor
open Go.ChangeShapes Go.WideShapes Go.ChangeAt Go.RowKit Go.Deep Go.Joins
set_option linter.unusedVariables false
set_option maxRecDepth 20000

/-- What an engine holds. -/
structure En where
  nx : Int
  ck : Int
  p : Nat
  T : Nat → Tx
  q : Nat
  R : Nat → Rw
def EngAt (w : World) (a a' : Option Addr) (E : En) : Prop := TxsAt w a E.p E.T ∧ RwsAt w a' E.q E.R
theorem EngAt.below {w w' : World} {a a' : Option Addr} {E : En} (h : EngAt w a a' E) (hb : Below w.heap.size w w') : EngAt w' a a' E := ⟨h.1.below hb, h.2.below hb⟩
/-- An engine in blocks of its own. -/
def OwnE (w : World) (lo hi : Nat) (a a' : Option Addr) (E : En) : Prop :=
  hi ≤ w.heap.size ∧ ∃ l1 h1 l2 h2, lo ≤ l1 ∧ h1 ≤ hi ∧ lo ≤ l2 ∧ h2 ≤ hi ∧ (h1 ≤ l2 ∨ h2 ≤ l1) ∧ OwnTx w l1 h1 a E.p E.T ∧ OwnRw w l2 h2 a' E.q E.R
theorem OwnE.at {w : World} {lo hi : Nat} {a a' : Option Addr} {E : En} (h : OwnE w lo hi a a' E) : EngAt w a a' E := by
  obtain ⟨_, l1, h1, l2, h2, _, _, _, _, _, hp, hl⟩ := h
  exact ⟨hp.at, hl.at⟩
theorem OwnE.writes {w w' : World} {lo hi lo' hi' : Nat} {a a' : Option Addr} {E : En} (h : OwnE w lo hi a a' E) (hw : Writes lo' hi' w w') (hd : hi ≤ lo' ∨ hi' ≤ lo) : OwnE w' lo hi a a' E := by
  obtain ⟨h0, l1, h1, l2, h2, k1, k2, k3, k4, k5, hp, hl⟩ := h
  exact ⟨Nat.le_trans h0 hw.size, l1, h1, l2, h2, k1, k2, k3, k4, k5, hp.writes hw (by omega), hl.writes hw (by omega)⟩
theorem OwnE.below {w w' : World} {lo hi : Nat} {a a' : Option Addr} {E : En} (h : OwnE w lo hi a a' E) (hb : Below w.heap.size w w') : OwnE w' lo hi a a' E :=
  h.writes (Writes.of_below (lo := hi) (hi := hi) hb) (.inl (Nat.le_refl _))
theorem OwnE.wide {w : World} {lo hi lo' hi' : Nat} {a a' : Option Addr} {E : En} (h : OwnE w lo hi a a' E) (e1 : lo' ≤ lo) (e2 : hi ≤ hi') (e3 : hi' ≤ w.heap.size) : OwnE w lo' hi' a a' E := by
  obtain ⟨h0, l1, h1, l2, h2, k1, k2, k3, k4, k5, hp, hl⟩ := h
  exact ⟨e3, l1, h1, l2, h2, by omega, by omega, by omega, by omega, k5, hp, hl⟩
theorem OwnE.mk' {w : World} {lo hi l1 h1 l2 h2 : Nat} {a a' : Option Addr} {E : En} (e0 : hi ≤ w.heap.size) (e1 : lo ≤ l1) (e2 : h1 ≤ hi) (e3 : lo ≤ l2) (e4 : h2 ≤ hi) (e5 : h1 ≤ l2 ∨ h2 ≤ l1) (hp : OwnTx w l1 h1 a E.p E.T) (hl : OwnRw w l2 h2 a' E.q E.R) : OwnE w lo hi a a' E :=
  ⟨e0, l1, h1, l2, h2, e1, e2, e3, e4, e5, hp, hl⟩
/-- An engine that is not greater than the laws' bound. -/
structure SmallE (E : En) : Prop where
  p : E.p ≤ 1048576
  q : E.q ≤ 1048576
  t : ∀ i, i < E.p → (E.T i).n ≤ 1048576
  r : ∀ i, i < E.q → (E.R i).n ≤ 1048576
  st : smTx E.T E.p ≤ 1048576
  sr : smRw E.R E.q ≤ 1048576
theorem smallE_of {E : En} (h : 0 ≤ (1048576 : Int) - E.p - smTx E.T E.p - E.q - smRw E.R E.q) : SmallE E :=
  ⟨by omega, by omega, fun i hi => by have := smf_ge (fun i => (E.T i).n) E.p i hi; unfold smTx at h; omega, fun i hi => by have := smf_ge (fun i => (E.R i).n) E.q i hi; unfold smRw at h; omega, by omega, by omega⟩
theorem Writes.wide2 {lo hi lo' hi' : Nat} {w w' : World} (h : Writes lo hi w w') (e1 : lo' ≤ lo) (e2 : hi ≤ hi') : Writes lo' hi' w w' :=
  ⟨h.os, h.tape, h.output, h.size, fun k hk hd => h.block k hk (by omega)⟩
set_option maxHeartbeats 1000000 in
theorem szEngine_any (E : En) (a a' : Option Addr) (cap cap' : Nat) (w : World) (hn : E.p ≤ 9223372036854775807) (hL : ∀ i, i < E.p → (E.T i).n ≤ 9223372036854775807) (hm : E.q ≤ 9223372036854775807) (hL' : ∀ i, i < E.q → (E.R i).n ≤ 9223372036854775807) (h : EngAt w a a' E) :
    Calls Tryz.prog 4 #[.agg #[.int .i64 E.nx, .int .i64 E.ck, .slice a E.p cap, .slice a' E.q cap'], .int .i64 1048576] w fun e w' => Below w.heap.size w w' ∧ ∃ r : Int, e = .returned (.int .i64 r) ∧ (r = -1 ∨ (0 ≤ r ∧ r = 1048576 - E.p - smTx E.T E.p - E.q - smRw E.R E.q)) := by
  have HL : Hid (∀ i, i < E.p → (E.T i).n ≤ 9223372036854775807) := hL
  have HL' : Hid (∀ i, i < E.q → (E.R i).n ≤ 9223372036854775807) := hL'
  have HA : Hid (EngAt w a a' E) := h
  clear hL hL' h
  go_enter Tryz.func4, Tryz.ntmps4
  go_wp2_with fail
  refine (szTxnS_any E.p E.T a cap 1048576 _ hn HL.out (by omega) (by omega) (HA.out.1.below (below_new _ _))).mono ?_
  rintro e w1 ⟨hb1, r, rfl, hr⟩
  have HB1 : Hid (Below w.heap.size w w1) := below_then (below_new _ _) hb1
  have q3 : w1.cell? ⟨w.heap.size, 3, none⟩ = some (.slice a' E.q cap') := by rw [(bcell2 hb1).1 _ _ (by simp)]; simp [go_sem]
  clear hb1
  rcases hr with rfl | ⟨hr0, hr1⟩
  · go_wp2_with fail
    go_ret
    exact ⟨HB1.out, _, rfl, .inl rfl⟩
  · have hr2 : r ≤ 1048576 := by omega
    have HR : Hid (r = 1048576 - E.p - smTx E.T E.p) := hr1
    clear hr1
    have hrn : ¬ (r < 0) := by omega
    go_wp2_with fail
    refine (szRowS_any E.q E.R a' cap' r _ hm HL'.out hr0 hr2 (HA.out.2.below HB1.out)).mono ?_
    rintro e w2 ⟨hb, s, rfl, hs⟩
    have HB := below_then HB1.out hb
    rcases hs with rfl | ⟨hs0, hs1⟩
    · go_wp2_with fail
      go_ret
      exact ⟨HB, _, rfl, .inl rfl⟩
    · have HS : Hid (s = r - E.q - smRw E.R E.q) := hs1
      clear hs1
      have hsn : ¬ (s < 0) := by omega
      go_wp2_with fail
      go_ret
      exact ⟨HB, _, rfl, .inr ⟨hs0, by rw [HS.out, HR.out]⟩⟩
set_option maxHeartbeats 4000000 in
theorem toEngine_any (E : En) (a a' : Option Addr) (cap cap' : Nat) (w : World) (hs : SmallE E) (h : EngAt w a a' E) :
    Calls Tryz.prog 6 #[.agg #[.int .i64 E.nx, .int .i64 E.ck, .slice a E.p cap, .slice a' E.q cap']] w fun e w' =>
      ∃ b b', e = .returned (.agg #[.int .i64 E.nx, .int .i64 E.ck, .slice (some ⟨b, 0, none⟩) E.p E.p, .slice (some ⟨b', 0, none⟩) E.q E.q]) ∧ Below w.heap.size w w' ∧ OwnE w' w.heap.size w'.heap.size (some ⟨b, 0, none⟩) (some ⟨b', 0, none⟩) E := by
  have HS : Hid (SmallE E) := hs
  obtain ⟨nx, ck, n, TT, m, RR⟩ := E
  obtain ⟨h1, h2⟩ := h
  dsimp only at *
  have HA : Hid (TxsAt w a n TT) := h1
  have HA' : Hid (RwsAt w a' m RR) := h2
  clear h1 h2 hs
  go_enter Tryz.func6, Tryz.ntmps6
  go_wp2_with fail
  have hb0 : ∀ o1 o2 o3, Below w.heap.size w (((w.alloc o1).alloc o2).alloc o3) := fun o1 o2 o3 => (((Below.refl _ _).alloc (Nat.le_refl _) _).alloc (by simp) _).alloc (by simp; omega) _
  refine (toTxnS_any n TT a cap _ HS.out.p HS.out.t (HA.out.below (hb0 _ _ _))).mono ?_
  rintro e w1 ⟨rfl, hb1, ho1⟩
  obtain ⟨hc, hf⟩ := bcell2 hb1
  have hz : w.heap.size + 2 < w1.heap.size := by have := hb1.size; simp at this; omega
  have e3 : ∀ o1 o2 o3 : Obj, (((w.alloc o1).alloc o2).alloc o3).heap.size = w.heap.size + 3 := fun _ _ _ => by simp
  have q1 : w1.cell? ⟨w.heap.size, 3, none⟩ = some (.slice a' m cap') := by rw [hc _ _ (by simp <;> omega)]; simp [go_sem]
  have r0 : w1.cell? ⟨w.heap.size + 1, 0, none⟩ = some (.int .i64 0) := by rw [hc _ _ (by simp <;> omega)]; simp [go_sem]
  have r1 : w1.cell? ⟨w.heap.size + 1, 1, none⟩ = some (.int .i64 0) := by rw [hc _ _ (by simp <;> omega)]; simp [go_sem]
  have r2 : w1.cell? ⟨w.heap.size + 1, 2, none⟩ = some (.slice none 0 0) := by rw [hc _ _ (by simp <;> omega)]; simp [go_sem]
  have r3 : w1.cell? ⟨w.heap.size + 1, 3, none⟩ = some (.slice none 0 0) := by rw [hc _ _ (by simp <;> omega)]; simp [go_sem]
  have s0 : w1.cell? ⟨w.heap.size + 2, 0, none⟩ = some (.int .i64 nx) := by rw [hc _ _ (by simp <;> omega)]; simp [go_sem]
  have s1 : w1.cell? ⟨w.heap.size + 2, 1, none⟩ = some (.int .i64 ck) := by rw [hc _ _ (by simp <;> omega)]; simp [go_sem]
  have s2 : w1.cell? ⟨w.heap.size + 2, 2, none⟩ = some (.slice none 0 0) := by rw [hc _ _ (by simp <;> omega)]; simp [go_sem]
  have s3 : w1.cell? ⟨w.heap.size + 2, 3, none⟩ = some (.slice none 0 0) := by rw [hc _ _ (by simp <;> omega)]; simp [go_sem]
  have f1 : ∀ i, w1.frozen? ⟨w.heap.size + 1, i, none⟩ = false := fun i => by rw [hf _ _ (by simp <;> omega)]; simp [go_sem]
  have f2 : ∀ i, w1.frozen? ⟨w.heap.size + 2, i, none⟩ = false := fun i => by rw [hf _ _ (by simp <;> omega)]; simp [go_sem]
  have HB : Hid (Below w.heap.size w w1) := below_then (hb0 _ _ _) hb1
  have HO : Hid (OwnTx w1 (w.heap.size + 3) w1.heap.size (some ⟨w.heap.size + 3, 0, none⟩) n TT) := by rw [e3] at ho1; exact ho1
  clear hc hf hb1 ho1 hb0 e3
  go_wp2_with fail
  have HB' : Hid (Below w.heap.size w (w1.setCell ⟨w.heap.size + 1 + 1, 2, none⟩ (.slice (some ⟨w.heap.size + 1 + 1 + 1, 0, none⟩) n n))) := HB.out.setCell (by simp <;> omega) _
  refine (toRowS_any m RR a' cap' _ HS.out.q HS.out.r (HA'.out.below HB'.out)).mono ?_
  rintro e w2 ⟨rfl, hb2, ho2⟩
  obtain ⟨hc, hf⟩ := bcell2 hb2
  have es : (w1.setCell ⟨w.heap.size + 1 + 1, 2, none⟩ (.slice (some ⟨w.heap.size + 1 + 1 + 1, 0, none⟩) n n)).heap.size = w1.heap.size := by simp [World.setCell]
  rw [es] at hc hf
  have t0 : w2.cell? ⟨w.heap.size + 1, 0, none⟩ = some (.int .i64 0) := by rw [hc _ _ (by omega)]; rw [World.cell?_setCell_other _ _ _ _ (by simp), r0]
  have t1 : w2.cell? ⟨w.heap.size + 1, 1, none⟩ = some (.int .i64 0) := by rw [hc _ _ (by omega)]; rw [World.cell?_setCell_other _ _ _ _ (by simp), r1]
  have t2 : w2.cell? ⟨w.heap.size + 1, 2, none⟩ = some (.slice none 0 0) := by rw [hc _ _ (by omega)]; rw [World.cell?_setCell_other _ _ _ _ (by simp), r2]
  have t3 : w2.cell? ⟨w.heap.size + 1, 3, none⟩ = some (.slice none 0 0) := by rw [hc _ _ (by omega)]; rw [World.cell?_setCell_other _ _ _ _ (by simp), r3]
  have u0 : w2.cell? ⟨w.heap.size + 1 + 1, 0, none⟩ = some (.int .i64 nx) := by rw [hc _ _ (by omega)]; rw [setO (by omega), s0]
  have u1 : w2.cell? ⟨w.heap.size + 1 + 1, 1, none⟩ = some (.int .i64 ck) := by rw [hc _ _ (by omega)]; rw [setO (by omega), s1]
  have u2 : w2.cell? ⟨w.heap.size + 1 + 1, 2, none⟩ = some (.slice (some ⟨w.heap.size + 1 + 1 + 1, 0, none⟩) n n) := by rw [hc _ _ (by omega)]; exact setS s2
  have u3 : w2.cell? ⟨w.heap.size + 1 + 1, 3, none⟩ = some (.slice none 0 0) := by rw [hc _ _ (by omega)]; rw [setO (by omega), s3]
  have k1 : ∀ i, w2.frozen? ⟨w.heap.size + 1, i, none⟩ = false := fun i => by rw [hf _ _ (by omega), World.frozen?_setCell]; exact f1 i
  have k2 : ∀ i, w2.frozen? ⟨w.heap.size + 1 + 1, i, none⟩ = false := fun i => by rw [hf _ _ (by omega), World.frozen?_setCell]; exact f2 i
  have HB2 : Hid (Below w.heap.size w w2) := below_then HB'.out hb2
  have HP : Hid (OwnTx w2 (w.heap.size + 3) w1.heap.size (some ⟨w.heap.size + 3, 0, none⟩) n TT) := by
    have h := HO.out.writes (lo' := w.heap.size) (hi' := w.heap.size + 3) (Writes.setCell (Writes.refl _ _ _) (p := ⟨w.heap.size + 1 + 1, 2, none⟩) (by simp <;> omega) (by simp <;> omega) (.slice (some ⟨w.heap.size + 1 + 1 + 1, 0, none⟩) n n)) (.inr (Nat.le_refl _))
    exact h.below hb2
  rw [es] at ho2
  have HQ : Hid (OwnRw w2 w1.heap.size w2.heap.size (some ⟨w1.heap.size, 0, none⟩) m RR) := ho2
  rw [es]
  have hs2 : w1.heap.size ≤ w2.heap.size := by have := hb2.size; rw [es] at this; exact this
  clear hc hf hb2 ho2 es q1 r0 r1 r2 r3 s0 s1 s2 s3 f1 f2 HB'
  go_wp2_with fail
  refine bodyPost_ret (v := .agg #[.int .i64 nx, .int .i64 ck, .slice (some ⟨w.heap.size + 3, 0, none⟩) n n, .slice (some ⟨w1.heap.size, 0, none⟩) m m]) (by simp [results, Tryz.results6, go_sem, *]) rfl ⟨_, _, rfl, ?_, ?_⟩
  · repeat (first | with_reducible exact HB2.out | with_reducible refine Below.setCell ?_ (by first | omega | (simp <;> omega)) _)
  · have hw : ∀ w3, Writes w.heap.size (w.heap.size + 3) w2 w3 → w3.heap.size = w2.heap.size → OwnE w3 w.heap.size w3.heap.size (some ⟨w.heap.size + 3, 0, none⟩) (some ⟨w1.heap.size, 0, none⟩) ⟨nx, ck, n, TT, m, RR⟩ := fun w3 h e =>
      ⟨Nat.le_refl _, w.heap.size + 3, w1.heap.size, w1.heap.size, w2.heap.size, by omega, by omega, by omega, by omega, .inl (Nat.le_refl _), HP.out.writes h (.inr (Nat.le_refl _)), HQ.out.writes h (.inr (by omega))⟩
    refine hw _ ?_ (by simp [World.setCell])
    repeat (first | with_reducible exact Writes.refl _ _ _ | with_reducible refine Writes.setCell ?_ (by first | omega | (simp <;> omega)) (by first | omega | (simp <;> omega)) _)
set_option maxHeartbeats 2000000 in
theorem eqEngine_same (E : En) (a a' d d' : Option Addr) (cap cap' dap dap' : Nat) (w : World) (hs : SmallE E) (h : EngAt w a a' E) (h' : EngAt w d d' E) :
    Calls Tryz.prog 9 #[.agg #[.int .i64 E.nx, .int .i64 E.ck, .slice a E.p cap, .slice a' E.q cap'], .agg #[.int .i64 E.nx, .int .i64 E.ck, .slice d E.p dap, .slice d' E.q dap']] w fun e w' => e = .returned (.bool true) ∧ Below w.heap.size w w' := by
  have HS : Hid (SmallE E) := hs
  have H1 : Hid (EngAt w a a' E) := h
  have H3 : Hid (EngAt w d d' E) := h'
  clear h h' hs
  have hb0 : ∀ o1 o2, Below w.heap.size w ((w.alloc o1).alloc o2) := fun o1 o2 => (((Below.refl _ _).alloc (Nat.le_refl _) _).alloc (by simp) _)
  go_enter Tryz.func9, Tryz.ntmps9
  go_wp2_with fail
  refine (eqTxnS_any E.p E.T a d cap dap _ HS.out.p HS.out.t (H1.out.1.below (hb0 _ _)) (H3.out.1.below (hb0 _ _))).mono ?_
  rintro e w1 ⟨rfl, hb1⟩
  obtain ⟨hc, hf⟩ := bcell2 hb1
  have q0 : w1.cell? ⟨w.heap.size, 3, none⟩ = some (.slice a' E.q cap') := by rw [hc _ _ (by simp <;> omega)]; simp [go_sem]
  have q1 : w1.cell? ⟨w.heap.size + 1, 3, none⟩ = some (.slice d' E.q dap') := by rw [hc _ _ (by simp <;> omega)]; simp [go_sem]
  have HB : Hid (Below w.heap.size w w1) := below_then (hb0 _ _) hb1
  clear hc hf hb1 hb0
  go_wp2_with fail
  refine (eqRowS_any E.q E.R a' d' cap' dap' _ HS.out.q HS.out.r (H1.out.2.below HB.out) (H3.out.2.below HB.out)).mono ?_
  rintro e w2 ⟨rfl, hb2⟩
  go_wp2_with fail
  go_ret
  exact ⟨rfl, below_then HB.out hb2⟩
/-- An engine with marks from m on. -/
def mE (m : Int) (E : En) : En := ⟨E.nx, E.ck, E.p, mTx m E.T, E.q, mRw (m + sTx E.T E.p) E.R⟩
/-- How many marks an engine takes. -/
def totE (E : En) : Nat := sTx E.T E.p + sRw E.R E.q
theorem totE_le {E : En} (h : SmallE E) : totE E ≤ 13631488 := by
  have := sTx_eq E.T E.p
  have := sRw_eq E.R E.q
  have h1 := h.st
  have h2 := h.sr
  have h3 := h.p
  have h4 := h.q
  unfold totE; omega
theorem sTx_le {E : En} (h : SmallE E) : sTx E.T E.p ≤ 8388608 := by
  have := sTx_eq E.T E.p
  have h1 := h.st
  have h3 := h.p
  omega
/-! ### answers that are engines -/
/-! ### opened -/
theorem cellsEng : Tryz.prog.cellsOf 25 = 4 := by kernel_rfl
theorem openEngine {H : Type} {enc : TypeId × Value → H} {W : World} {r : Reach} {b0 : Nat} {v : Value} {d : DataW H} {p : List MemPlace}
    (hv : Value.okWide Tryz.prog W r b0 25 v) (h : DataW.Trod enc Tryz.prog W 0 (fun _ => true) true 25 v d p) :
    ∃ (E : En) (a a' : Option Addr) (cap cap' : Nat), v = .agg #[.int .i64 E.nx, .int .i64 E.ck, .slice a E.p cap, .slice a' E.q cap'] ∧ E.p ≤ 9223372036854775807 ∧ (∀ i, i < E.p → (E.T i).n ≤ 9223372036854775807) ∧ E.q ≤ 9223372036854775807 ∧ (∀ i, i < E.q → (E.R i).n ≤ 9223372036854775807) ∧ EngAt W a a' E := by
  obtain ⟨c0, c1, c2, c3, y0, y1, y2, y3, m, rfl, rfl, rfl, h0, h1, h2, h3⟩ := open_agg4 Tryz.underlying25 (by kernel_rfl) cellsEng hv h
  obtain ⟨x0, e0, _, _⟩ := DataW.trod_int Tryz.underlying2 h0
  obtain ⟨x1, e1, _, _⟩ := DataW.trod_int Tryz.underlying2 h1
  obtain ⟨a, n, cap, TT, e2, k1, k2, k4⟩ := openTxs h2
  obtain ⟨a', n', cap', RR, e3, j1, j2, j4⟩ := openRws h3
  simp at e0 e1 e2 e3
  subst e0 e1 e2 e3
  exact ⟨⟨x0, x1, n, TT, n', RR⟩, a, a', cap, cap', rfl, k1, k2, j1, j2, k4, j4⟩
end Go.Proofs.YtaelpjjabkkhcaaGreatDoor
