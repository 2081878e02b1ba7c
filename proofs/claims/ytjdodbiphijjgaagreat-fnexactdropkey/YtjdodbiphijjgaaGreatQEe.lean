/- Chapter 5: small tests of versions. -/
import Derived.Test.YtjdodbiphijjgaaGreatQEta
import Derived.Test.YtjdodbiphijjgaaGreatQBase
namespace Go.Proofs.YtjdodbiphijjgaaGreat
open Go.ChangeShapes Go.WideShapes Go.ChangeAt Go.RowKit Go.Deep Go.Joins
set_option linter.unusedVariables false
set_option maxRecDepth 20000
open Go.RowKit Go.Deep

/-- What an engine holds. -/
structure En where
  nx : Int
  ck : Int
  p : Nat
  T : Nat → Tx
  q : Nat
  R : Nat → Rw
def EngAt (w : World) (a a' : Option Addr) (E : En) : Prop := TxsAt w a E.p E.T ∧ RwsAt w a' E.q E.R
theorem EngAt.below {w w' : World} {a a' : Option Addr} {E : En} (h : EngAt w a a' E) (hb : Below w.heap.size w w') : EngAt w' a a' E := ⟨h.1.below hb, h.2.below hb⟩
/-- An engine in blocks of its own. -/
def OwnE (w : World) (lo hi : Nat) (a a' : Option Addr) (E : En) : Prop :=
  hi ≤ w.heap.size ∧ ∃ l1 h1 l2 h2, lo ≤ l1 ∧ h1 ≤ hi ∧ lo ≤ l2 ∧ h2 ≤ hi ∧ (h1 ≤ l2 ∨ h2 ≤ l1) ∧ OwnTx w l1 h1 a E.p E.T ∧ OwnRw w l2 h2 a' E.q E.R
theorem OwnE.at {w : World} {lo hi : Nat} {a a' : Option Addr} {E : En} (h : OwnE w lo hi a a' E) : EngAt w a a' E := by
  obtain ⟨_, l1, h1, l2, h2, _, _, _, _, _, hp, hl⟩ := h
  exact ⟨hp.at, hl.at⟩
theorem OwnE.writes {w w' : World} {lo hi lo' hi' : Nat} {a a' : Option Addr} {E : En} (h : OwnE w lo hi a a' E) (hw : Writes lo' hi' w w') (hd : hi ≤ lo' ∨ hi' ≤ lo) : OwnE w' lo hi a a' E := by
  obtain ⟨h0, l1, h1, l2, h2, k1, k2, k3, k4, k5, hp, hl⟩ := h
  exact ⟨Nat.le_trans h0 hw.size, l1, h1, l2, h2, k1, k2, k3, k4, k5, hp.writes hw (by omega), hl.writes hw (by omega)⟩
theorem OwnE.below {w w' : World} {lo hi : Nat} {a a' : Option Addr} {E : En} (h : OwnE w lo hi a a' E) (hb : Below w.heap.size w w') : OwnE w' lo hi a a' E :=
  h.writes (Writes.of_below (lo := hi) (hi := hi) hb) (.inl (Nat.le_refl _))
theorem OwnE.wide {w : World} {lo hi lo' hi' : Nat} {a a' : Option Addr} {E : En} (h : OwnE w lo hi a a' E) (e1 : lo' ≤ lo) (e2 : hi ≤ hi') (e3 : hi' ≤ w.heap.size) : OwnE w lo' hi' a a' E := by
  obtain ⟨h0, l1, h1, l2, h2, k1, k2, k3, k4, k5, hp, hl⟩ := h
  exact ⟨e3, l1, h1, l2, h2, by omega, by omega, by omega, by omega, k5, hp, hl⟩
theorem OwnE.mk' {w : World} {lo hi l1 h1 l2 h2 : Nat} {a a' : Option Addr} {E : En} (e0 : hi ≤ w.heap.size) (e1 : lo ≤ l1) (e2 : h1 ≤ hi) (e3 : lo ≤ l2) (e4 : h2 ≤ hi) (e5 : h1 ≤ l2 ∨ h2 ≤ l1) (hp : OwnTx w l1 h1 a E.p E.T) (hl : OwnRw w l2 h2 a' E.q E.R) : OwnE w lo hi a a' E :=
  ⟨e0, l1, h1, l2, h2, e1, e2, e3, e4, e5, hp, hl⟩
/-- An engine that is not greater than the laws' bound. -/
structure SmallE (E : En) : Prop where
  p : E.p ≤ 1048576
  q : E.q ≤ 1048576
  t : ∀ i, i < E.p → (E.T i).n ≤ 1048576
  r : ∀ i, i < E.q → (E.R i).n ≤ 1048576
  st : smTx E.T E.p ≤ 1048576
  sr : smRw E.R E.q ≤ 1048576
theorem smallE_of {E : En} (h : 0 ≤ (1048576 : Int) - E.p - smTx E.T E.p - E.q - smRw E.R E.q) : SmallE E :=
  ⟨by omega, by omega, fun i hi => by have := smf_ge (fun i => (E.T i).n) E.p i hi; unfold smTx at h; omega, fun i hi => by have := smf_ge (fun i => (E.R i).n) E.q i hi; unfold smRw at h; omega, by omega, by omega⟩
theorem Writes.wide2 {lo hi lo' hi' : Nat} {w w' : World} (h : Writes lo hi w w') (e1 : lo' ≤ lo) (e2 : hi ≤ hi') : Writes lo' hi' w w' :=
  ⟨h.os, h.tape, h.output, h.size, fun k hk hd => h.block k hk (by omega)⟩
set_option maxHeartbeats 1000000 in
theorem szEngine_any (E : En) (a a' : Option Addr) (cap cap' : Nat) (w : World) (hn : E.p ≤ 9223372036854775807) (hL : ∀ i, i < E.p → (E.T i).n ≤ 9223372036854775807) (hm : E.q ≤ 9223372036854775807) (hL' : ∀ i, i < E.q → (E.R i).n ≤ 9223372036854775807) (h : EngAt w a a' E) :
    Calls Tryz.prog 9 #[.agg #[.int .i64 E.nx, .int .i64 E.ck, .slice a E.p cap, .slice a' E.q cap'], .int .i64 1048576] w fun e w' => Below w.heap.size w w' ∧ ∃ r : Int, e = .returned (.int .i64 r) ∧ (r = -1 ∨ (0 ≤ r ∧ r = 1048576 - E.p - smTx E.T E.p - E.q - smRw E.R E.q)) := by
  have HL : Hid (∀ i, i < E.p → (E.T i).n ≤ 9223372036854775807) := hL
  have HL' : Hid (∀ i, i < E.q → (E.R i).n ≤ 9223372036854775807) := hL'
  have HA : Hid (EngAt w a a' E) := h
  clear hL hL' h
  go_enter Tryz.func9, Tryz.ntmps9
  go_wp2_with fail
  refine (szTxnS_any E.p E.T a cap 1048576 _ hn HL.out (by omega) (by omega) (HA.out.1.below (below_new _ _))).mono ?_
  rintro e w1 ⟨hb1, r, rfl, hr⟩
  have HB1 : Hid (Below w.heap.size w w1) := below_then (below_new _ _) hb1
  have q3 : w1.cell? ⟨w.heap.size, 3, none⟩ = some (.slice a' E.q cap') := by rw [(bcell2 hb1).1 _ _ (by simp)]; simp [go_sem]
  clear hb1
  rcases hr with rfl | ⟨hr0, hr1⟩
  · go_wp2_with fail
    go_ret
    exact ⟨HB1.out, _, rfl, .inl rfl⟩
  · have hr2 : r ≤ 1048576 := by omega
    have HR : Hid (r = 1048576 - E.p - smTx E.T E.p) := hr1
    clear hr1
    have hrn : ¬ (r < 0) := by omega
    go_wp2_with fail
    refine (szRowS_any E.q E.R a' cap' r _ hm HL'.out hr0 hr2 (HA.out.2.below HB1.out)).mono ?_
    rintro e w2 ⟨hb, s, rfl, hs⟩
    have HB := below_then HB1.out hb
    rcases hs with rfl | ⟨hs0, hs1⟩
    · go_wp2_with fail
      go_ret
      exact ⟨HB, _, rfl, .inl rfl⟩
    · have HS : Hid (s = r - E.q - smRw E.R E.q) := hs1
      clear hs1
      have hsn : ¬ (s < 0) := by omega
      go_wp2_with fail
      go_ret
      exact ⟨HB, _, rfl, .inr ⟨hs0, by rw [HS.out, HR.out]⟩⟩
set_option maxHeartbeats 4000000 in
theorem toEngine_any (E : En) (a a' : Option Addr) (cap cap' : Nat) (w : World) (hs : SmallE E) (h : EngAt w a a' E) :
    Calls Tryz.prog 11 #[.agg #[.int .i64 E.nx, .int .i64 E.ck, .slice a E.p cap, .slice a' E.q cap']] w fun e w' =>
      ∃ b b', e = .returned (.agg #[.int .i64 E.nx, .int .i64 E.ck, .slice (some ⟨b, 0, none⟩) E.p E.p, .slice (some ⟨b', 0, none⟩) E.q E.q]) ∧ Below w.heap.size w w' ∧ OwnE w' w.heap.size w'.heap.size (some ⟨b, 0, none⟩) (some ⟨b', 0, none⟩) E := by
  have HS : Hid (SmallE E) := hs
  obtain ⟨nx, ck, n, TT, m, RR⟩ := E
  obtain ⟨h1, h2⟩ := h
  dsimp only at *
  have HA : Hid (TxsAt w a n TT) := h1
  have HA' : Hid (RwsAt w a' m RR) := h2
  clear h1 h2 hs
  go_enter Tryz.func11, Tryz.ntmps11
  go_wp2_with fail
  have hb0 : ∀ o1 o2 o3, Below w.heap.size w (((w.alloc o1).alloc o2).alloc o3) := fun o1 o2 o3 => (((Below.refl _ _).alloc (Nat.le_refl _) _).alloc (by simp) _).alloc (by simp; omega) _
  refine (toTxnS_any n TT a cap _ HS.out.p HS.out.t (HA.out.below (hb0 _ _ _))).mono ?_
  rintro e w1 ⟨rfl, hb1, ho1⟩
  obtain ⟨hc, hf⟩ := bcell2 hb1
  have hz : w.heap.size + 2 < w1.heap.size := by have := hb1.size; simp at this; omega
  have e3 : ∀ o1 o2 o3 : Obj, (((w.alloc o1).alloc o2).alloc o3).heap.size = w.heap.size + 3 := fun _ _ _ => by simp
  have q1 : w1.cell? ⟨w.heap.size, 3, none⟩ = some (.slice a' m cap') := by rw [hc _ _ (by simp <;> omega)]; simp [go_sem]
  have r0 : w1.cell? ⟨w.heap.size + 1, 0, none⟩ = some (.int .i64 0) := by rw [hc _ _ (by simp <;> omega)]; simp [go_sem]
  have r1 : w1.cell? ⟨w.heap.size + 1, 1, none⟩ = some (.int .i64 0) := by rw [hc _ _ (by simp <;> omega)]; simp [go_sem]
  have r2 : w1.cell? ⟨w.heap.size + 1, 2, none⟩ = some (.slice none 0 0) := by rw [hc _ _ (by simp <;> omega)]; simp [go_sem]
  have r3 : w1.cell? ⟨w.heap.size + 1, 3, none⟩ = some (.slice none 0 0) := by rw [hc _ _ (by simp <;> omega)]; simp [go_sem]
  have s0 : w1.cell? ⟨w.heap.size + 2, 0, none⟩ = some (.int .i64 nx) := by rw [hc _ _ (by simp <;> omega)]; simp [go_sem]
  have s1 : w1.cell? ⟨w.heap.size + 2, 1, none⟩ = some (.int .i64 ck) := by rw [hc _ _ (by simp <;> omega)]; simp [go_sem]
  have s2 : w1.cell? ⟨w.heap.size + 2, 2, none⟩ = some (.slice none 0 0) := by rw [hc _ _ (by simp <;> omega)]; simp [go_sem]
  have s3 : w1.cell? ⟨w.heap.size + 2, 3, none⟩ = some (.slice none 0 0) := by rw [hc _ _ (by simp <;> omega)]; simp [go_sem]
  have f1 : ∀ i, w1.frozen? ⟨w.heap.size + 1, i, none⟩ = false := fun i => by rw [hf _ _ (by simp <;> omega)]; simp [go_sem]
  have f2 : ∀ i, w1.frozen? ⟨w.heap.size + 2, i, none⟩ = false := fun i => by rw [hf _ _ (by simp <;> omega)]; simp [go_sem]
  have HB : Hid (Below w.heap.size w w1) := below_then (hb0 _ _ _) hb1
  have HO : Hid (OwnTx w1 (w.heap.size + 3) w1.heap.size (some ⟨w.heap.size + 3, 0, none⟩) n TT) := by rw [e3] at ho1; exact ho1
  clear hc hf hb1 ho1 hb0 e3
  go_wp2_with fail
  have HB' : Hid (Below w.heap.size w (w1.setCell ⟨w.heap.size + 1 + 1, 2, none⟩ (.slice (some ⟨w.heap.size + 1 + 1 + 1, 0, none⟩) n n))) := HB.out.setCell (by simp <;> omega) _
  refine (toRowS_any m RR a' cap' _ HS.out.q HS.out.r (HA'.out.below HB'.out)).mono ?_
  rintro e w2 ⟨rfl, hb2, ho2⟩
  obtain ⟨hc, hf⟩ := bcell2 hb2
  have es : (w1.setCell ⟨w.heap.size + 1 + 1, 2, none⟩ (.slice (some ⟨w.heap.size + 1 + 1 + 1, 0, none⟩) n n)).heap.size = w1.heap.size := by simp [World.setCell]
  rw [es] at hc hf
  have t0 : w2.cell? ⟨w.heap.size + 1, 0, none⟩ = some (.int .i64 0) := by rw [hc _ _ (by omega)]; rw [World.cell?_setCell_other _ _ _ _ (by simp), r0]
  have t1 : w2.cell? ⟨w.heap.size + 1, 1, none⟩ = some (.int .i64 0) := by rw [hc _ _ (by omega)]; rw [World.cell?_setCell_other _ _ _ _ (by simp), r1]
  have t2 : w2.cell? ⟨w.heap.size + 1, 2, none⟩ = some (.slice none 0 0) := by rw [hc _ _ (by omega)]; rw [World.cell?_setCell_other _ _ _ _ (by simp), r2]
  have t3 : w2.cell? ⟨w.heap.size + 1, 3, none⟩ = some (.slice none 0 0) := by rw [hc _ _ (by omega)]; rw [World.cell?_setCell_other _ _ _ _ (by simp), r3]
  have u0 : w2.cell? ⟨w.heap.size + 1 + 1, 0, none⟩ = some (.int .i64 nx) := by rw [hc _ _ (by omega)]; rw [setO (by omega), s0]
  have u1 : w2.cell? ⟨w.heap.size + 1 + 1, 1, none⟩ = some (.int .i64 ck) := by rw [hc _ _ (by omega)]; rw [setO (by omega), s1]
  have u2 : w2.cell? ⟨w.heap.size + 1 + 1, 2, none⟩ = some (.slice (some ⟨w.heap.size + 1 + 1 + 1, 0, none⟩) n n) := by rw [hc _ _ (by omega)]; exact setS s2
  have u3 : w2.cell? ⟨w.heap.size + 1 + 1, 3, none⟩ = some (.slice none 0 0) := by rw [hc _ _ (by omega)]; rw [setO (by omega), s3]
  have k1 : ∀ i, w2.frozen? ⟨w.heap.size + 1, i, none⟩ = false := fun i => by rw [hf _ _ (by omega), World.frozen?_setCell]; exact f1 i
  have k2 : ∀ i, w2.frozen? ⟨w.heap.size + 1 + 1, i, none⟩ = false := fun i => by rw [hf _ _ (by omega), World.frozen?_setCell]; exact f2 i
  have HB2 : Hid (Below w.heap.size w w2) := below_then HB'.out hb2
  have HP : Hid (OwnTx w2 (w.heap.size + 3) w1.heap.size (some ⟨w.heap.size + 3, 0, none⟩) n TT) := by
    have h := HO.out.writes (lo' := w.heap.size) (hi' := w.heap.size + 3) (Writes.setCell (Writes.refl _ _ _) (p := ⟨w.heap.size + 1 + 1, 2, none⟩) (by simp <;> omega) (by simp <;> omega) (.slice (some ⟨w.heap.size + 1 + 1 + 1, 0, none⟩) n n)) (.inr (Nat.le_refl _))
    exact h.below hb2
  rw [es] at ho2
  have HQ : Hid (OwnRw w2 w1.heap.size w2.heap.size (some ⟨w1.heap.size, 0, none⟩) m RR) := ho2
  rw [es]
  have hs2 : w1.heap.size ≤ w2.heap.size := by have := hb2.size; rw [es] at this; exact this
  clear hc hf hb2 ho2 es q1 r0 r1 r2 r3 s0 s1 s2 s3 f1 f2 HB'
  go_wp2_with fail
  refine bodyPost_ret (v := .agg #[.int .i64 nx, .int .i64 ck, .slice (some ⟨w.heap.size + 3, 0, none⟩) n n, .slice (some ⟨w1.heap.size, 0, none⟩) m m]) (by simp [results, Tryz.results11, go_sem, *]) rfl ⟨_, _, rfl, ?_, ?_⟩
  · repeat (first | with_reducible exact HB2.out | with_reducible refine Below.setCell ?_ (by first | omega | (simp <;> omega)) _)
  · have hw : ∀ w3, Writes w.heap.size (w.heap.size + 3) w2 w3 → w3.heap.size = w2.heap.size → OwnE w3 w.heap.size w3.heap.size (some ⟨w.heap.size + 3, 0, none⟩) (some ⟨w1.heap.size, 0, none⟩) ⟨nx, ck, n, TT, m, RR⟩ := fun w3 h e =>
      ⟨Nat.le_refl _, w.heap.size + 3, w1.heap.size, w1.heap.size, w2.heap.size, by omega, by omega, by omega, by omega, .inl (Nat.le_refl _), HP.out.writes h (.inr (Nat.le_refl _)), HQ.out.writes h (.inr (by omega))⟩
    refine hw _ ?_ (by simp [World.setCell])
    repeat (first | with_reducible exact Writes.refl _ _ _ | with_reducible refine Writes.setCell ?_ (by first | omega | (simp <;> omega)) (by first | omega | (simp <;> omega)) _)
set_option maxHeartbeats 2000000 in
theorem eqEngine_same (E : En) (a a' d d' : Option Addr) (cap cap' dap dap' : Nat) (w : World) (hs : SmallE E) (h : EngAt w a a' E) (h' : EngAt w d d' E) :
    Calls Tryz.prog 14 #[.agg #[.int .i64 E.nx, .int .i64 E.ck, .slice a E.p cap, .slice a' E.q cap'], .agg #[.int .i64 E.nx, .int .i64 E.ck, .slice d E.p dap, .slice d' E.q dap']] w fun e w' => e = .returned (.bool true) ∧ Below w.heap.size w w' := by
  have HS : Hid (SmallE E) := hs
  have H1 : Hid (EngAt w a a' E) := h
  have H3 : Hid (EngAt w d d' E) := h'
  clear h h' hs
  have hb0 : ∀ o1 o2, Below w.heap.size w ((w.alloc o1).alloc o2) := fun o1 o2 => (((Below.refl _ _).alloc (Nat.le_refl _) _).alloc (by simp) _)
  go_enter Tryz.func14, Tryz.ntmps14
  go_wp2_with fail
  refine (eqTxnS_any E.p E.T a d cap dap _ HS.out.p HS.out.t (H1.out.1.below (hb0 _ _)) (H3.out.1.below (hb0 _ _))).mono ?_
  rintro e w1 ⟨rfl, hb1⟩
  obtain ⟨hc, hf⟩ := bcell2 hb1
  have q0 : w1.cell? ⟨w.heap.size, 3, none⟩ = some (.slice a' E.q cap') := by rw [hc _ _ (by simp <;> omega)]; simp [go_sem]
  have q1 : w1.cell? ⟨w.heap.size + 1, 3, none⟩ = some (.slice d' E.q dap') := by rw [hc _ _ (by simp <;> omega)]; simp [go_sem]
  have HB : Hid (Below w.heap.size w w1) := below_then (hb0 _ _) hb1
  clear hc hf hb1 hb0
  go_wp2_with fail
  refine (eqRowS_any E.q E.R a' d' cap' dap' _ HS.out.q HS.out.r (H1.out.2.below HB.out) (H3.out.2.below HB.out)).mono ?_
  rintro e w2 ⟨rfl, hb2⟩
  go_wp2_with fail
  go_ret
  exact ⟨rfl, below_then HB.out hb2⟩
/-- An engine with marks from m on. -/
def mE (m : Int) (E : En) : En := ⟨E.nx, E.ck, E.p, mTx m E.T, E.q, mRw (m + sTx E.T E.p) E.R⟩
/-- How many marks an engine takes. -/
def totE (E : En) : Nat := sTx E.T E.p + sRw E.R E.q
theorem totE_le {E : En} (h : SmallE E) : totE E ≤ 13631488 := by
  have := sTx_eq E.T E.p
  have := sRw_eq E.R E.q
  have h1 := h.st
  have h2 := h.sr
  have h3 := h.p
  have h4 := h.q
  unfold totE; omega
theorem sTx_le {E : En} (h : SmallE E) : sTx E.T E.p ≤ 8388608 := by
  have := sTx_eq E.T E.p
  have h1 := h.st
  have h3 := h.p
  omega
set_option maxHeartbeats 1000000 in
theorem markEngine_any (E : En) (a a' : Option Addr) (cap cap' lo hi : Nat) (m : Int) (w : World) (hs : SmallE E) (hm1 : 0 ≤ m) (hm2 : m ≤ 1048576) (h : OwnE w lo hi a a' E) :
    Calls Tryz.prog 15 #[.agg #[.int .i64 E.nx, .int .i64 E.ck, .slice a E.p cap, .slice a' E.q cap'], .int .i64 m] w fun e w' => e = .returned (.int .i64 (m + totE E)) ∧ Writes lo hi w w' ∧ OwnE w' lo hi a a' (mE m E) := by
  have HS : Hid (SmallE E) := hs
  have hst := sTx_le hs
  have HT : Hid ((totE E : Int) = sTx E.T E.p + sRw E.R E.q) := by simp [totE, Hid]
  obtain ⟨h0, l1, h1, l2, h2, e1, e2, e3, e4, e5, hp, hl⟩ := h
  have HP : Hid (OwnTx w l1 h1 a E.p E.T) := hp
  have HL : Hid (OwnRw w l2 h2 a' E.q E.R) := hl
  clear hs hp hl
  go_enter Tryz.func15, Tryz.ntmps15
  go_wp2_with fail
  refine (markTxnS_any E.p E.T a cap l1 h1 m _ HS.out.p HS.out.st hm1 (by omega) (HP.out.below (below_new _ _))).mono ?_
  rintro e w1 ⟨rfl, hw1, ho1⟩
  have HW : Hid (Writes l1 h1 w w1) := (Writes.of_below (below_new _ _)).trans hw1
  have hlt : h1 ≤ w.heap.size := HP.out.1
  have q1 : w1.cell? ⟨w.heap.size, 3, none⟩ = some (.slice a' E.q cap') := by
    rw [hw1.cell (by simp) (by omega) _]; simp [go_sem]
  have HO1 : Hid (OwnTx w1 l1 h1 a E.p (mTx m E.T)) := ho1
  have hz1 : w.heap.size ≤ w1.heap.size := HW.out.size
  clear hw1 ho1
  go_wp2_with fail
  refine (markRowS_any E.q E.R a' cap' l2 h2 (m + sTx E.T E.p) _ HS.out.q HS.out.sr (by omega) (by omega) (HL.out.writes HW.out (by omega))).mono ?_
  rintro e w2 ⟨rfl, hw2, ho2⟩
  have hz2 : w1.heap.size ≤ w2.heap.size := hw2.size
  go_wp2_with fail
  go_ret
  refine ⟨ret_int (by rw [HT.out]; omega), (HW.out.wide2 e1 e2).trans (hw2.wide2 e3 e4), ?_⟩
  exact OwnE.mk' (by omega) e1 e2 e3 e4 e5 (HO1.out.writes hw2 (by omega)) ho2
set_option maxHeartbeats 1000000 in
theorem heldEngine_any (E : En) (a a' : Option Addr) (cap cap' : Nat) (m : Int) (x y : Int) (w : World) (hs : SmallE E) (hm1 : 0 ≤ m) (hm2 : m ≤ 1048576) (h : EngAt w a a' (mE m E)) :
    Calls Tryz.prog 71 #[.agg #[.int .i64 x, .int .i64 y, .slice a E.p cap, .slice a' E.q cap'], .int .i64 m] w fun e w' => e = .returned (.int .i64 (m + totE E)) ∧ Below w.heap.size w w' := by
  have HS : Hid (SmallE E) := hs
  have hst := sTx_le hs
  have HT : Hid ((totE E : Int) = sTx E.T E.p + sRw E.R E.q) := by simp [totE, Hid]
  obtain ⟨hp, hl⟩ := h
  have HP : Hid (TxsAt w a E.p (mTx m E.T)) := hp
  have HL : Hid (RwsAt w a' E.q (mRw (m + sTx E.T E.p) E.R)) := hl
  clear hs hp hl
  have hneg : ¬ (m + (sTx E.T E.p : Int) < 0) := by omega
  have hneg2 : ¬ (m + (sTx E.T E.p : Int) + (sRw E.R E.q : Int) < 0) := by omega
  go_enter Tryz.func71, Tryz.ntmps71
  go_wp2_with fail
  refine (heldTxnS_any E.p E.T a cap m _ HS.out.p HS.out.st hm1 (by omega) (HP.out.below (below_new _ _))).mono ?_
  rintro e w1 ⟨rfl, rfl⟩
  go_wp2_with fail
  refine (heldRowS_any E.q E.R a' cap' (m + sTx E.T E.p) _ HS.out.q HS.out.sr (by omega) (by omega) (HL.out.below (below_new _ _))).mono ?_
  rintro e w2 ⟨rfl, rfl⟩
  go_wp2_with fail
  go_ret
  exact ⟨ret_int (by rw [HT.out]; omega), below_new _ _⟩
/-! ### answers that are engines -/
theorem eqEngineResult_same (c v : Int) (E : En) (a a' d d' : Option Addr) (cap cap' dap dap' : Nat) (w : World) (hs : SmallE E) (h : EngAt w a a' E) (h' : EngAt w d d' E) :
    Calls Tryz.prog 13 #[.agg #[.int .i64 c, .int .i64 v, .int .i64 E.nx, .int .i64 E.ck, .slice a E.p cap, .slice a' E.q cap'], .agg #[.int .i64 c, .int .i64 v, .int .i64 E.nx, .int .i64 E.ck, .slice d E.p dap, .slice d' E.q dap']] w fun e w' => e = .returned (.bool true) ∧ Below w.heap.size w w' := by
  have HS : Hid (SmallE E) := hs
  have H1 : Hid (EngAt w a a' E) := h
  have H2 : Hid (EngAt w d d' E) := h'
  clear hs h h'
  have hb0 : ∀ o1 o2, Below w.heap.size w ((w.alloc o1).alloc o2) := fun o1 o2 => (((Below.refl _ _).alloc (Nat.le_refl _) _).alloc (by simp) _)
  go_enter Tryz.func13, Tryz.ntmps13
  go_wp2_with fail
  refine (eqEngine_same E a a' d d' cap cap' dap dap' _ HS.out (H1.out.below (hb0 _ _)) (H2.out.below (hb0 _ _))).mono ?_
  rintro e w1 ⟨rfl, hb1⟩
  go_wp2_with fail
  go_ret
  exact ⟨rfl, below_then (hb0 _ _) hb1⟩
theorem heldEngineResult_any (c v : Int) (E : En) (a a' : Option Addr) (cap cap' : Nat) (x y : Int) (w : World) (hs : SmallE E) (h : EngAt w a a' (mE 1 E)) :
    Calls Tryz.prog 17 #[.agg #[.int .i64 c, .int .i64 v, .int .i64 x, .int .i64 y, .slice a E.p cap, .slice a' E.q cap'], .int .i64 1] w fun e w' => e = .returned (.int .i64 (1 + totE E)) ∧ Below w.heap.size w w' := by
  have HS : Hid (SmallE E) := hs
  have HO : Hid (EngAt w a a' (mE 1 E)) := h
  have hneg : ¬ ((1 : Int) + (totE E : Int) < 0) := by omega
  clear hs h
  go_enter Tryz.func17, Tryz.ntmps17
  go_wp2_with fail
  refine (heldEngine_any E a a' cap cap' 1 x y _ HS.out (by omega) (by omega) (HO.out.below (below_new _ _))).mono ?_
  rintro e w1 ⟨rfl, hb⟩
  go_wp2_with fail
  go_ret
  exact ⟨rfl, below_then (below_new _ _) hb⟩
/-! ### opened -/
theorem cellsEng : Tryz.prog.cellsOf 25 = 4 := by kernel_rfl
theorem openEngine {H : Type} {enc : TypeId × Value → H} {W : World} {r : Reach} {b0 : Nat} {v : Value} {d : DataW H} {p : List MemPlace}
    (hv : Value.okWide Tryz.prog W r b0 25 v) (h : DataW.Trod enc Tryz.prog W 0 (fun _ => true) true 25 v d p) :
    ∃ (E : En) (a a' : Option Addr) (cap cap' : Nat), v = .agg #[.int .i64 E.nx, .int .i64 E.ck, .slice a E.p cap, .slice a' E.q cap'] ∧ E.p ≤ 9223372036854775807 ∧ (∀ i, i < E.p → (E.T i).n ≤ 9223372036854775807) ∧ E.q ≤ 9223372036854775807 ∧ (∀ i, i < E.q → (E.R i).n ≤ 9223372036854775807) ∧ EngAt W a a' E := by
  obtain ⟨c0, c1, c2, c3, y0, y1, y2, y3, m, rfl, rfl, rfl, h0, h1, h2, h3⟩ := open_agg4 Tryz.underlying25 (by kernel_rfl) cellsEng hv h
  obtain ⟨x0, e0, _, _⟩ := DataW.trod_int Tryz.underlying2 h0
  obtain ⟨x1, e1, _, _⟩ := DataW.trod_int Tryz.underlying2 h1
  obtain ⟨a, n, cap, TT, e2, k1, k2, k4⟩ := openTxs h2
  obtain ⟨a', n', cap', RR, e3, j1, j2, j4⟩ := openRws h3
  simp at e0 e1 e2 e3
  subst e0 e1 e2 e3
  exact ⟨⟨x0, x1, n, TT, n', RR⟩, a, a', cap, cap', rfl, k1, k2, j1, j2, k4, j4⟩
theorem isTxn_any (v : Int) (w : World) : Calls Tryz.prog 140 #[.int .i64 v] w fun e w' => e = .returned (.bool (inB v 1 999)) ∧ w' = w := by
  go_enter Tryz.func140, Tryz.ntmps140
  go_wp2_with (go_at_call 145; refine (within_any _ _ _ _).mono ?_; rintro e w' ⟨rfl, rfl⟩)
  go_ret
  exact ⟨rfl, rfl⟩
theorem isAt_any (v : Int) (w : World) : Calls Tryz.prog 141 #[.int .i64 v] w fun e w' => e = .returned (.bool (inB v 0 1000000)) ∧ w' = w := by
  go_enter Tryz.func141, Tryz.ntmps141
  go_wp2_with (go_at_call 145; refine (within_any _ _ _ _).mono ?_; rintro e w' ⟨rfl, rfl⟩)
  go_ret
  exact ⟨rfl, rfl⟩
theorem l5Txn_any (v : Int) (w : World) : Calls Tryz.prog 130 #[.int .i64 v] w fun e w' => e = .returned (.bool (inB v 1 999)) ∧ w' = w := by
  go_enter Tryz.func130, Tryz.ntmps130
  go_wp2_with (go_at_call 75; refine (l1In_any _ _ _ _).mono ?_; rintro e w' ⟨rfl, rfl⟩)
  go_ret
  exact ⟨rfl, rfl⟩
theorem l5At_any (v : Int) (w : World) : Calls Tryz.prog 222 #[.int .i64 v] w fun e w' => e = .returned (.bool (inB v 1 1000000)) ∧ w' = w := by
  go_enter Tryz.func222, Tryz.ntmps222
  go_wp2_with (go_at_call 75; refine (l1In_any _ _ _ _).mono ?_; rintro e w' ⟨rfl, rfl⟩)
  go_ret
  exact ⟨rfl, rfl⟩
theorem isCommitted_any (t a : Int) (g : Bool) (v : Int) (w : World) : Calls Tryz.prog 206 #[.agg #[.int .i64 t, .int .i64 a, .bool g, .int .i64 v]] w fun e w' => e = .returned (.bool (a != 0)) ∧ Below w.heap.size w w' := by
  go_enter Tryz.func206, Tryz.ntmps206
  go_wp2
  go_ret
  exact ⟨rfl, below_new _ _⟩
theorem goneWithValue_any (t a : Int) (g : Bool) (v : Int) (w : World) : Calls Tryz.prog 216 #[.agg #[.int .i64 t, .int .i64 a, .bool g, .int .i64 v]] w fun e w' => e = .returned (.bool (g && v != 0)) ∧ Below w.heap.size w w' := by
  cases g
  · go_enter Tryz.func216, Tryz.ntmps216
    go_wp2
    go_ret
    exact ⟨rfl, below_new _ _⟩
  · go_enter Tryz.func216, Tryz.ntmps216
    go_wp2
    all_goals
      go_ret
      exact ⟨ret_bool (by simp [*]), below_new _ _⟩
theorem openBy_any (t a : Int) (g : Bool) (v x : Int) (w : World) : Calls Tryz.prog 205 #[.agg #[.int .i64 t, .int .i64 a, .bool g, .int .i64 v], .int .i64 x] w fun e w' => e = .returned (.bool (t == x && a == 0)) ∧ Below w.heap.size w w' := by
  go_enter Tryz.func205, Tryz.ntmps205
  go_wp2
  all_goals
    go_ret
    exact ⟨ret_bool (by simp [*]), below_new _ _⟩
/-- May r stand right behind p? -/
def older (r p : Vr) : Bool := r.a != 0 && (p.a == 0 || decide (r.a < p.a))
theorem isOlder_any (r p : Vr) (w : World) : Calls Tryz.prog 224 #[.agg #[.int .i64 r.t, .int .i64 r.a, .bool r.g, .int .i64 r.v], .agg #[.int .i64 p.t, .int .i64 p.a, .bool p.g, .int .i64 p.v]] w fun e w' => e = .returned (.bool (older r p)) ∧ Below w.heap.size w w' := by
  obtain ⟨t, a, g, v⟩ := r
  obtain ⟨t', a', g', v'⟩ := p
  have hb0 : ∀ o1 o2, Below w.heap.size w ((w.alloc o1).alloc o2) := fun o1 o2 => ((Below.refl _ _).alloc (Nat.le_refl _) _).alloc (by simp) _
  unfold older
  by_cases h1 : a = 0
  · subst h1
    have e1 : ((0 : Int) != 0) = false := rfl
    go_enter Tryz.func224, Tryz.ntmps224
    go_wp2_with fail
    refine (isCommitted_any _ _ _ _ _).mono ?_
    rintro e w1 ⟨rfl, hb1⟩
    rw [e1]
    go_wp2_with fail
    go_ret
    exact ⟨rfl, below_then (hb0 _ _) hb1⟩
  · have e1 : (a != 0) = true := by simp [h1]
    by_cases h2 : a' = 0
    · subst h2
      have e2 : ((0 : Int) != 0) = false := rfl
      go_enter Tryz.func224, Tryz.ntmps224
      go_wp2_with fail
      refine (isCommitted_any _ _ _ _ _).mono ?_
      rintro e w1 ⟨rfl, hb1⟩
      rw [e1]
      obtain ⟨hc, hf⟩ := bcell hb1
      go_wp2_with fail
      refine (isCommitted_any _ _ _ _ _).mono ?_
      rintro e w2 ⟨rfl, hb2⟩
      rw [e2]
      go_wp2_with fail
      go_ret
      exact ⟨ret_bool (by simp [h1]), below_then (below_then (hb0 _ _) hb1) hb2⟩
    · have e2 : (a' != 0) = true := by simp [h2]
      have HV : Hid ((a != 0 && (a' == 0 || decide (a < a'))) = decide (a < a')) := by
        have e3 : (a' == 0) = false := by simp [h2]
        show (a != 0 && (a' == 0 || decide (a < a'))) = decide (a < a')
        rw [e1, e3]
        rfl
      go_enter Tryz.func224, Tryz.ntmps224
      go_wp2_with fail
      refine (isCommitted_any _ _ _ _ _).mono ?_
      rintro e w1 ⟨rfl, hb1⟩
      rw [e1]
      obtain ⟨hc, hf⟩ := bcell hb1
      go_wp2_with fail
      refine (isCommitted_any _ _ _ _ _).mono ?_
      rintro e w2 ⟨rfl, hb2⟩
      rw [e2]
      have hb3 := below_then hb1 hb2
      obtain ⟨hc2, hf2⟩ := bcell hb3
      go_wp2_with fail
      go_ret
      exact ⟨ret_bool HV.out.symm, below_then (hb0 _ _) hb3⟩
/-- What a view (x, o) meets in r: nothing (0), one that is gone (1), one that tells (2). -/
def kd (r : Vr) (x o : Int) : Int := if (r.a ≠ 0 ∧ r.a ≤ x) ∨ (r.t = o ∧ r.a = 0) then (if r.g then 1 else 2) else 0
theorem kindIn_any (r : Vr) (x o : Int) (w : World) : Calls Tryz.prog 170 #[.agg #[.int .i64 r.t, .int .i64 r.a, .bool r.g, .int .i64 r.v], .agg #[.int .i64 x, .int .i64 o]] w fun e w' => e = .returned (.int .i64 (kd r x o)) ∧ Below w.heap.size w w' := by
  obtain ⟨t, a, g, v⟩ := r
  have hb0 : ∀ o1 o2, Below w.heap.size w ((w.alloc o1).alloc o2) := fun o1 o2 => ((Below.refl _ _).alloc (Nat.le_refl _) _).alloc (by simp) _
  by_cases h1 : a = 0
  · subst h1
    have e1 : ((0 : Int) != 0) = false := rfl
    by_cases h2 : t = o
    · subst h2
      have e2 : (t == t && (0 : Int) == 0) = true := by simp
      cases g
      all_goals
        go_enter Tryz.func170, Tryz.ntmps170
        go_wp2_with fail
        refine (isCommitted_any _ _ _ _ _).mono ?_
        rintro e w1 ⟨rfl, hb1⟩
        rw [e1]
        obtain ⟨hc, hf⟩ := bcell hb1
        go_wp2_with fail
        refine (openBy_any _ _ _ _ _ _).mono ?_
        rintro e w2 ⟨rfl, hb2⟩
        rw [e2]
        have hb3 := below_then hb1 hb2
        obtain ⟨hc2, hf2⟩ := bcell hb3
        go_wp2_with fail
        go_ret
        exact ⟨ret_int (by simp [kd]), below_then (hb0 _ _) hb3⟩
    · have e2 : (t == o && (0 : Int) == 0) = false := by simp [h2]
      go_enter Tryz.func170, Tryz.ntmps170
      go_wp2_with fail
      refine (isCommitted_any _ _ _ _ _).mono ?_
      rintro e w1 ⟨rfl, hb1⟩
      rw [e1]
      obtain ⟨hc, hf⟩ := bcell hb1
      go_wp2_with fail
      refine (openBy_any _ _ _ _ _ _).mono ?_
      rintro e w2 ⟨rfl, hb2⟩
      rw [e2]
      go_wp2_with fail
      go_ret
      exact ⟨ret_int (by simp [kd, h2]), below_then (below_then (hb0 _ _) hb1) hb2⟩
  · have e1 : (a != 0) = true := by simp [h1]
    by_cases h3 : a ≤ x
    · cases g
      all_goals
        go_enter Tryz.func170, Tryz.ntmps170
        go_wp2_with fail
        refine (isCommitted_any _ _ _ _ _).mono ?_
        rintro e w1 ⟨rfl, hb1⟩
        rw [e1]
        obtain ⟨hc, hf⟩ := bcell hb1
        go_wp2_with fail
        go_ret
        exact ⟨ret_int (by simp [kd, h1, h3]), below_then (hb0 _ _) hb1⟩
    · have e3 : decide (a ≤ x) = false := by simp; omega
      have HK : Hid (kd ⟨t, a, g, v⟩ x o = 0) := by
        show _ = _
        unfold kd
        exact if_neg (by intro h; simp only [ne_eq] at h; omega)
      have e2 : (t == o && a == 0) = false := by simp [h1]
      go_enter Tryz.func170, Tryz.ntmps170
      go_wp2_with fail
      refine (isCommitted_any _ _ _ _ _).mono ?_
      rintro e w1 ⟨rfl, hb1⟩
      rw [e1]
      obtain ⟨hc, hf⟩ := bcell hb1
      go_wp2_with fail
      refine (openBy_any _ _ _ _ _ _).mono ?_
      rintro e w2 ⟨rfl, hb2⟩
      rw [e2]
      go_wp2_with fail
      go_ret
      exact ⟨ret_int HK.out.symm, below_then (below_then (hb0 _ _) hb1) hb2⟩
end Go.Proofs.YtjdodbiphijjgaaGreat
