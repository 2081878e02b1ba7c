/- Chapter 5: small tests of versions. -/
import Derived.Test.YtabkgncnanlapaaGreatQEta
import Derived.Deep.AppendLies
import Derived.Laws.AppendOwn
import Derived.OwnWalk
import Derived.Test.YtabkgncnanlapaaGreatQBase
namespace Go.Proofs.YtabkgncnanlapaaGreat
open Go.ChangeShapes Go.WideShapes Go.ChangeAt Go.RowKit Go.Deep Go.Joins
set_option linter.unusedVariables false
set_option maxRecDepth 20000
open Go.RowKit Go.Deep

/-- What an engine holds. -/
structure En where
  nx : Int
  ck : Int
  p : Nat
  T : Nat → Tx
  q : Nat
  R : Nat → Rw
def EngAt (w : World) (a a' : Option Addr) (E : En) : Prop := TxsAt w a E.p E.T ∧ RwsAt w a' E.q E.R
theorem EngAt.below {w w' : World} {a a' : Option Addr} {E : En} (h : EngAt w a a' E) (hb : Below w.heap.size w w') : EngAt w' a a' E := ⟨h.1.below hb, h.2.below hb⟩
/-- An engine in blocks of its own. -/
def OwnE (w : World) (lo hi : Nat) (a a' : Option Addr) (E : En) : Prop :=
  hi ≤ w.heap.size ∧ ∃ l1 h1 l2 h2, lo ≤ l1 ∧ h1 ≤ hi ∧ lo ≤ l2 ∧ h2 ≤ hi ∧ (h1 ≤ l2 ∨ h2 ≤ l1) ∧ OwnTx w l1 h1 a E.p E.T ∧ OwnRw w l2 h2 a' E.q E.R
theorem OwnE.at {w : World} {lo hi : Nat} {a a' : Option Addr} {E : En} (h : OwnE w lo hi a a' E) : EngAt w a a' E := by
  obtain ⟨_, l1, h1, l2, h2, _, _, _, _, _, hp, hl⟩ := h
  exact ⟨hp.at, hl.at⟩
theorem OwnE.writes {w w' : World} {lo hi lo' hi' : Nat} {a a' : Option Addr} {E : En} (h : OwnE w lo hi a a' E) (hw : Writes lo' hi' w w') (hd : hi ≤ lo' ∨ hi' ≤ lo) : OwnE w' lo hi a a' E := by
  obtain ⟨h0, l1, h1, l2, h2, k1, k2, k3, k4, k5, hp, hl⟩ := h
  exact ⟨Nat.le_trans h0 hw.size, l1, h1, l2, h2, k1, k2, k3, k4, k5, hp.writes hw (by omega), hl.writes hw (by omega)⟩
theorem OwnE.below {w w' : World} {lo hi : Nat} {a a' : Option Addr} {E : En} (h : OwnE w lo hi a a' E) (hb : Below w.heap.size w w') : OwnE w' lo hi a a' E :=
  h.writes (Writes.of_below (lo := hi) (hi := hi) hb) (.inl (Nat.le_refl _))
theorem OwnE.wide {w : World} {lo hi lo' hi' : Nat} {a a' : Option Addr} {E : En} (h : OwnE w lo hi a a' E) (e1 : lo' ≤ lo) (e2 : hi ≤ hi') (e3 : hi' ≤ w.heap.size) : OwnE w lo' hi' a a' E := by
  obtain ⟨h0, l1, h1, l2, h2, k1, k2, k3, k4, k5, hp, hl⟩ := h
  exact ⟨e3, l1, h1, l2, h2, by omega, by omega, by omega, by omega, k5, hp, hl⟩
theorem OwnE.mk' {w : World} {lo hi l1 h1 l2 h2 : Nat} {a a' : Option Addr} {E : En} (e0 : hi ≤ w.heap.size) (e1 : lo ≤ l1) (e2 : h1 ≤ hi) (e3 : lo ≤ l2) (e4 : h2 ≤ hi) (e5 : h1 ≤ l2 ∨ h2 ≤ l1) (hp : OwnTx w l1 h1 a E.p E.T) (hl : OwnRw w l2 h2 a' E.q E.R) : OwnE w lo hi a a' E :=
  ⟨e0, l1, h1, l2, h2, e1, e2, e3, e4, e5, hp, hl⟩
/-- An engine that is not greater than the laws' bound. -/
structure SmallE (E : En) : Prop where
  p : E.p ≤ 1048576
  q : E.q ≤ 1048576
  t : ∀ i, i < E.p → (E.T i).n ≤ 1048576
  r : ∀ i, i < E.q → (E.R i).n ≤ 1048576
  st : smTx E.T E.p ≤ 1048576
  sr : smRw E.R E.q ≤ 1048576
theorem smallE_of {E : En} (h : 0 ≤ (1048576 : Int) - E.p - smTx E.T E.p - E.q - smRw E.R E.q) : SmallE E :=
  ⟨by omega, by omega, fun i hi => by have := smf_ge (fun i => (E.T i).n) E.p i hi; unfold smTx at h; omega, fun i hi => by have := smf_ge (fun i => (E.R i).n) E.q i hi; unfold smRw at h; omega, by omega, by omega⟩
theorem Writes.wide2 {lo hi lo' hi' : Nat} {w w' : World} (h : Writes lo hi w w') (e1 : lo' ≤ lo) (e2 : hi ≤ hi') : Writes lo' hi' w w' :=
  ⟨h.os, h.tape, h.output, h.size, fun k hk hd => h.block k hk (by omega)⟩
set_option maxHeartbeats 1000000 in
theorem szEngine_any (E : En) (a a' : Option Addr) (cap cap' : Nat) (w : World) (hn : E.p ≤ 9223372036854775807) (hL : ∀ i, i < E.p → (E.T i).n ≤ 9223372036854775807) (hm : E.q ≤ 9223372036854775807) (hL' : ∀ i, i < E.q → (E.R i).n ≤ 9223372036854775807) (h : EngAt w a a' E) :
    Calls Tryz.prog 7 #[.agg #[.int .i64 E.nx, .int .i64 E.ck, .slice a E.p cap, .slice a' E.q cap'], .int .i64 1048576] w fun e w' => Below w.heap.size w w' ∧ ∃ r : Int, e = .returned (.int .i64 r) ∧ (r = -1 ∨ (0 ≤ r ∧ r = 1048576 - E.p - smTx E.T E.p - E.q - smRw E.R E.q)) := by
  have HL : Hid (∀ i, i < E.p → (E.T i).n ≤ 9223372036854775807) := hL
  have HL' : Hid (∀ i, i < E.q → (E.R i).n ≤ 9223372036854775807) := hL'
  have HA : Hid (EngAt w a a' E) := h
  clear hL hL' h
  go_enter Tryz.func7, Tryz.ntmps7
  go_wp2_with fail
  refine (szTxnS_any E.p E.T a cap 1048576 _ hn HL.out (by omega) (by omega) (HA.out.1.below (below_new _ _))).mono ?_
  rintro e w1 ⟨hb1, r, rfl, hr⟩
  have HB1 : Hid (Below w.heap.size w w1) := below_then (below_new _ _) hb1
  have q3 : w1.cell? ⟨w.heap.size, 3, none⟩ = some (.slice a' E.q cap') := by rw [(bcell2 hb1).1 _ _ (by simp)]; simp [go_sem]
  clear hb1
  rcases hr with rfl | ⟨hr0, hr1⟩
  · go_wp2_with fail
    go_ret
    exact ⟨HB1.out, _, rfl, .inl rfl⟩
  · have hr2 : r ≤ 1048576 := by omega
    have HR : Hid (r = 1048576 - E.p - smTx E.T E.p) := hr1
    clear hr1
    have hrn : ¬ (r < 0) := by omega
    go_wp2_with fail
    refine (szRowS_any E.q E.R a' cap' r _ hm HL'.out hr0 hr2 (HA.out.2.below HB1.out)).mono ?_
    rintro e w2 ⟨hb, s, rfl, hs⟩
    have HB := below_then HB1.out hb
    rcases hs with rfl | ⟨hs0, hs1⟩
    · go_wp2_with fail
      go_ret
      exact ⟨HB, _, rfl, .inl rfl⟩
    · have HS : Hid (s = r - E.q - smRw E.R E.q) := hs1
      clear hs1
      have hsn : ¬ (s < 0) := by omega
      go_wp2_with fail
      go_ret
      exact ⟨HB, _, rfl, .inr ⟨hs0, by rw [HS.out, HR.out]⟩⟩
set_option maxHeartbeats 4000000 in
theorem toEngine_any (E : En) (a a' : Option Addr) (cap cap' : Nat) (w : World) (hs : SmallE E) (h : EngAt w a a' E) :
    Calls Tryz.prog 9 #[.agg #[.int .i64 E.nx, .int .i64 E.ck, .slice a E.p cap, .slice a' E.q cap']] w fun e w' =>
      ∃ b b', e = .returned (.agg #[.int .i64 E.nx, .int .i64 E.ck, .slice (some ⟨b, 0, none⟩) E.p E.p, .slice (some ⟨b', 0, none⟩) E.q E.q]) ∧ Below w.heap.size w w' ∧ OwnE w' w.heap.size w'.heap.size (some ⟨b, 0, none⟩) (some ⟨b', 0, none⟩) E := by
  have HS : Hid (SmallE E) := hs
  obtain ⟨nx, ck, n, TT, m, RR⟩ := E
  obtain ⟨h1, h2⟩ := h
  dsimp only at *
  have HA : Hid (TxsAt w a n TT) := h1
  have HA' : Hid (RwsAt w a' m RR) := h2
  clear h1 h2 hs
  go_enter Tryz.func9, Tryz.ntmps9
  go_wp2_with fail
  have hb0 : ∀ o1 o2 o3, Below w.heap.size w (((w.alloc o1).alloc o2).alloc o3) := fun o1 o2 o3 => (((Below.refl _ _).alloc (Nat.le_refl _) _).alloc (by simp) _).alloc (by simp; omega) _
  refine (toTxnS_any n TT a cap _ HS.out.p HS.out.t (HA.out.below (hb0 _ _ _))).mono ?_
  rintro e w1 ⟨rfl, hb1, ho1⟩
  obtain ⟨hc, hf⟩ := bcell2 hb1
  have hz : w.heap.size + 2 < w1.heap.size := by have := hb1.size; simp at this; omega
  have e3 : ∀ o1 o2 o3 : Obj, (((w.alloc o1).alloc o2).alloc o3).heap.size = w.heap.size + 3 := fun _ _ _ => by simp
  have q1 : w1.cell? ⟨w.heap.size, 3, none⟩ = some (.slice a' m cap') := by rw [hc _ _ (by simp <;> omega)]; simp [go_sem]
  have r0 : w1.cell? ⟨w.heap.size + 1, 0, none⟩ = some (.int .i64 0) := by rw [hc _ _ (by simp <;> omega)]; simp [go_sem]
  have r1 : w1.cell? ⟨w.heap.size + 1, 1, none⟩ = some (.int .i64 0) := by rw [hc _ _ (by simp <;> omega)]; simp [go_sem]
  have r2 : w1.cell? ⟨w.heap.size + 1, 2, none⟩ = some (.slice none 0 0) := by rw [hc _ _ (by simp <;> omega)]; simp [go_sem]
  have r3 : w1.cell? ⟨w.heap.size + 1, 3, none⟩ = some (.slice none 0 0) := by rw [hc _ _ (by simp <;> omega)]; simp [go_sem]
  have s0 : w1.cell? ⟨w.heap.size + 2, 0, none⟩ = some (.int .i64 nx) := by rw [hc _ _ (by simp <;> omega)]; simp [go_sem]
  have s1 : w1.cell? ⟨w.heap.size + 2, 1, none⟩ = some (.int .i64 ck) := by rw [hc _ _ (by simp <;> omega)]; simp [go_sem]
  have s2 : w1.cell? ⟨w.heap.size + 2, 2, none⟩ = some (.slice none 0 0) := by rw [hc _ _ (by simp <;> omega)]; simp [go_sem]
  have s3 : w1.cell? ⟨w.heap.size + 2, 3, none⟩ = some (.slice none 0 0) := by rw [hc _ _ (by simp <;> omega)]; simp [go_sem]
  have f1 : ∀ i, w1.frozen? ⟨w.heap.size + 1, i, none⟩ = false := fun i => by rw [hf _ _ (by simp <;> omega)]; simp [go_sem]
  have f2 : ∀ i, w1.frozen? ⟨w.heap.size + 2, i, none⟩ = false := fun i => by rw [hf _ _ (by simp <;> omega)]; simp [go_sem]
  have HB : Hid (Below w.heap.size w w1) := below_then (hb0 _ _ _) hb1
  have HO : Hid (OwnTx w1 (w.heap.size + 3) w1.heap.size (some ⟨w.heap.size + 3, 0, none⟩) n TT) := by rw [e3] at ho1; exact ho1
  clear hc hf hb1 ho1 hb0 e3
  go_wp2_with fail
  have HB' : Hid (Below w.heap.size w (w1.setCell ⟨w.heap.size + 1 + 1, 2, none⟩ (.slice (some ⟨w.heap.size + 1 + 1 + 1, 0, none⟩) n n))) := HB.out.setCell (by simp <;> omega) _
  refine (toRowS_any m RR a' cap' _ HS.out.q HS.out.r (HA'.out.below HB'.out)).mono ?_
  rintro e w2 ⟨rfl, hb2, ho2⟩
  obtain ⟨hc, hf⟩ := bcell2 hb2
  have es : (w1.setCell ⟨w.heap.size + 1 + 1, 2, none⟩ (.slice (some ⟨w.heap.size + 1 + 1 + 1, 0, none⟩) n n)).heap.size = w1.heap.size := by simp [World.setCell]
  rw [es] at hc hf
  have t0 : w2.cell? ⟨w.heap.size + 1, 0, none⟩ = some (.int .i64 0) := by rw [hc _ _ (by omega)]; rw [World.cell?_setCell_other _ _ _ _ (by simp), r0]
  have t1 : w2.cell? ⟨w.heap.size + 1, 1, none⟩ = some (.int .i64 0) := by rw [hc _ _ (by omega)]; rw [World.cell?_setCell_other _ _ _ _ (by simp), r1]
  have t2 : w2.cell? ⟨w.heap.size + 1, 2, none⟩ = some (.slice none 0 0) := by rw [hc _ _ (by omega)]; rw [World.cell?_setCell_other _ _ _ _ (by simp), r2]
  have t3 : w2.cell? ⟨w.heap.size + 1, 3, none⟩ = some (.slice none 0 0) := by rw [hc _ _ (by omega)]; rw [World.cell?_setCell_other _ _ _ _ (by simp), r3]
  have u0 : w2.cell? ⟨w.heap.size + 1 + 1, 0, none⟩ = some (.int .i64 nx) := by rw [hc _ _ (by omega)]; rw [setO (by omega), s0]
  have u1 : w2.cell? ⟨w.heap.size + 1 + 1, 1, none⟩ = some (.int .i64 ck) := by rw [hc _ _ (by omega)]; rw [setO (by omega), s1]
  have u2 : w2.cell? ⟨w.heap.size + 1 + 1, 2, none⟩ = some (.slice (some ⟨w.heap.size + 1 + 1 + 1, 0, none⟩) n n) := by rw [hc _ _ (by omega)]; exact setS s2
  have u3 : w2.cell? ⟨w.heap.size + 1 + 1, 3, none⟩ = some (.slice none 0 0) := by rw [hc _ _ (by omega)]; rw [setO (by omega), s3]
  have k1 : ∀ i, w2.frozen? ⟨w.heap.size + 1, i, none⟩ = false := fun i => by rw [hf _ _ (by omega), World.frozen?_setCell]; exact f1 i
  have k2 : ∀ i, w2.frozen? ⟨w.heap.size + 1 + 1, i, none⟩ = false := fun i => by rw [hf _ _ (by omega), World.frozen?_setCell]; exact f2 i
  have HB2 : Hid (Below w.heap.size w w2) := below_then HB'.out hb2
  have HP : Hid (OwnTx w2 (w.heap.size + 3) w1.heap.size (some ⟨w.heap.size + 3, 0, none⟩) n TT) := by
    have h := HO.out.writes (lo' := w.heap.size) (hi' := w.heap.size + 3) (Writes.setCell (Writes.refl _ _ _) (p := ⟨w.heap.size + 1 + 1, 2, none⟩) (by simp <;> omega) (by simp <;> omega) (.slice (some ⟨w.heap.size + 1 + 1 + 1, 0, none⟩) n n)) (.inr (Nat.le_refl _))
    exact h.below hb2
  rw [es] at ho2
  have HQ : Hid (OwnRw w2 w1.heap.size w2.heap.size (some ⟨w1.heap.size, 0, none⟩) m RR) := ho2
  rw [es]
  have hs2 : w1.heap.size ≤ w2.heap.size := by have := hb2.size; rw [es] at this; exact this
  clear hc hf hb2 ho2 es q1 r0 r1 r2 r3 s0 s1 s2 s3 f1 f2 HB'
  go_wp2_with fail
  refine bodyPost_ret (v := .agg #[.int .i64 nx, .int .i64 ck, .slice (some ⟨w.heap.size + 3, 0, none⟩) n n, .slice (some ⟨w1.heap.size, 0, none⟩) m m]) (by simp [results, Tryz.results9, go_sem, *]) rfl ⟨_, _, rfl, ?_, ?_⟩
  · repeat (first | with_reducible exact HB2.out | with_reducible refine Below.setCell ?_ (by first | omega | (simp <;> omega)) _)
  · have hw : ∀ w3, Writes w.heap.size (w.heap.size + 3) w2 w3 → w3.heap.size = w2.heap.size → OwnE w3 w.heap.size w3.heap.size (some ⟨w.heap.size + 3, 0, none⟩) (some ⟨w1.heap.size, 0, none⟩) ⟨nx, ck, n, TT, m, RR⟩ := fun w3 h e =>
      ⟨Nat.le_refl _, w.heap.size + 3, w1.heap.size, w1.heap.size, w2.heap.size, by omega, by omega, by omega, by omega, .inl (Nat.le_refl _), HP.out.writes h (.inr (Nat.le_refl _)), HQ.out.writes h (.inr (by omega))⟩
    refine hw _ ?_ (by simp [World.setCell])
    repeat (first | with_reducible exact Writes.refl _ _ _ | with_reducible refine Writes.setCell ?_ (by first | omega | (simp <;> omega)) (by first | omega | (simp <;> omega)) _)
set_option maxHeartbeats 2000000 in
theorem eqEngine_same (E : En) (a a' d d' : Option Addr) (cap cap' dap dap' : Nat) (w : World) (hs : SmallE E) (h : EngAt w a a' E) (h' : EngAt w d d' E) :
    Calls Tryz.prog 12 #[.agg #[.int .i64 E.nx, .int .i64 E.ck, .slice a E.p cap, .slice a' E.q cap'], .agg #[.int .i64 E.nx, .int .i64 E.ck, .slice d E.p dap, .slice d' E.q dap']] w fun e w' => e = .returned (.bool true) ∧ Below w.heap.size w w' := by
  have HS : Hid (SmallE E) := hs
  have H1 : Hid (EngAt w a a' E) := h
  have H3 : Hid (EngAt w d d' E) := h'
  clear h h' hs
  have hb0 : ∀ o1 o2, Below w.heap.size w ((w.alloc o1).alloc o2) := fun o1 o2 => (((Below.refl _ _).alloc (Nat.le_refl _) _).alloc (by simp) _)
  go_enter Tryz.func12, Tryz.ntmps12
  go_wp2_with fail
  refine (eqTxnS_any E.p E.T a d cap dap _ HS.out.p HS.out.t (H1.out.1.below (hb0 _ _)) (H3.out.1.below (hb0 _ _))).mono ?_
  rintro e w1 ⟨rfl, hb1⟩
  obtain ⟨hc, hf⟩ := bcell2 hb1
  have q0 : w1.cell? ⟨w.heap.size, 3, none⟩ = some (.slice a' E.q cap') := by rw [hc _ _ (by simp <;> omega)]; simp [go_sem]
  have q1 : w1.cell? ⟨w.heap.size + 1, 3, none⟩ = some (.slice d' E.q dap') := by rw [hc _ _ (by simp <;> omega)]; simp [go_sem]
  have HB : Hid (Below w.heap.size w w1) := below_then (hb0 _ _) hb1
  clear hc hf hb1 hb0
  go_wp2_with fail
  refine (eqRowS_any E.q E.R a' d' cap' dap' _ HS.out.q HS.out.r (H1.out.2.below HB.out) (H3.out.2.below HB.out)).mono ?_
  rintro e w2 ⟨rfl, hb2⟩
  go_wp2_with fail
  go_ret
  exact ⟨rfl, below_then HB.out hb2⟩
/-- An engine with marks from m on. -/
def mE (m : Int) (E : En) : En := ⟨E.nx, E.ck, E.p, mTx m E.T, E.q, mRw (m + sTx E.T E.p) E.R⟩
/-- How many marks an engine takes. -/
def totE (E : En) : Nat := sTx E.T E.p + sRw E.R E.q
theorem totE_le {E : En} (h : SmallE E) : totE E ≤ 13631488 := by
  have := sTx_eq E.T E.p
  have := sRw_eq E.R E.q
  have h1 := h.st
  have h2 := h.sr
  have h3 := h.p
  have h4 := h.q
  unfold totE; omega
theorem sTx_le {E : En} (h : SmallE E) : sTx E.T E.p ≤ 8388608 := by
  have := sTx_eq E.T E.p
  have h1 := h.st
  have h3 := h.p
  omega
set_option maxHeartbeats 1000000 in
theorem markEngine_any (E : En) (a a' : Option Addr) (cap cap' lo hi : Nat) (m : Int) (w : World) (hs : SmallE E) (hm1 : 0 ≤ m) (hm2 : m ≤ 1048576) (h : OwnE w lo hi a a' E) :
    Calls Tryz.prog 13 #[.agg #[.int .i64 E.nx, .int .i64 E.ck, .slice a E.p cap, .slice a' E.q cap'], .int .i64 m] w fun e w' => e = .returned (.int .i64 (m + totE E)) ∧ Writes lo hi w w' ∧ OwnE w' lo hi a a' (mE m E) := by
  have HS : Hid (SmallE E) := hs
  have hst := sTx_le hs
  have HT : Hid ((totE E : Int) = sTx E.T E.p + sRw E.R E.q) := by simp [totE, Hid]
  obtain ⟨h0, l1, h1, l2, h2, e1, e2, e3, e4, e5, hp, hl⟩ := h
  have HP : Hid (OwnTx w l1 h1 a E.p E.T) := hp
  have HL : Hid (OwnRw w l2 h2 a' E.q E.R) := hl
  clear hs hp hl
  go_enter Tryz.func13, Tryz.ntmps13
  go_wp2_with fail
  refine (markTxnS_any E.p E.T a cap l1 h1 m _ HS.out.p HS.out.st hm1 (by omega) (HP.out.below (below_new _ _))).mono ?_
  rintro e w1 ⟨rfl, hw1, ho1⟩
  have HW : Hid (Writes l1 h1 w w1) := (Writes.of_below (below_new _ _)).trans hw1
  have hlt : h1 ≤ w.heap.size := HP.out.1
  have q1 : w1.cell? ⟨w.heap.size, 3, none⟩ = some (.slice a' E.q cap') := by
    rw [hw1.cell (by simp) (by omega) _]; simp [go_sem]
  have HO1 : Hid (OwnTx w1 l1 h1 a E.p (mTx m E.T)) := ho1
  have hz1 : w.heap.size ≤ w1.heap.size := HW.out.size
  clear hw1 ho1
  go_wp2_with fail
  refine (markRowS_any E.q E.R a' cap' l2 h2 (m + sTx E.T E.p) _ HS.out.q HS.out.sr (by omega) (by omega) (HL.out.writes HW.out (by omega))).mono ?_
  rintro e w2 ⟨rfl, hw2, ho2⟩
  have hz2 : w1.heap.size ≤ w2.heap.size := hw2.size
  go_wp2_with fail
  go_ret
  refine ⟨ret_int (by rw [HT.out]; omega), (HW.out.wide2 e1 e2).trans (hw2.wide2 e3 e4), ?_⟩
  exact OwnE.mk' (by omega) e1 e2 e3 e4 e5 (HO1.out.writes hw2 (by omega)) ho2
set_option maxHeartbeats 1000000 in
theorem heldEngine_any (E : En) (a a' : Option Addr) (cap cap' : Nat) (m : Int) (x y : Int) (w : World) (hs : SmallE E) (hm1 : 0 ≤ m) (hm2 : m ≤ 1048576) (h : EngAt w a a' (mE m E)) :
    Calls Tryz.prog 36 #[.agg #[.int .i64 x, .int .i64 y, .slice a E.p cap, .slice a' E.q cap'], .int .i64 m] w fun e w' => e = .returned (.int .i64 (m + totE E)) ∧ Below w.heap.size w w' := by
  have HS : Hid (SmallE E) := hs
  have hst := sTx_le hs
  have HT : Hid ((totE E : Int) = sTx E.T E.p + sRw E.R E.q) := by simp [totE, Hid]
  obtain ⟨hp, hl⟩ := h
  have HP : Hid (TxsAt w a E.p (mTx m E.T)) := hp
  have HL : Hid (RwsAt w a' E.q (mRw (m + sTx E.T E.p) E.R)) := hl
  clear hs hp hl
  have hneg : ¬ (m + (sTx E.T E.p : Int) < 0) := by omega
  have hneg2 : ¬ (m + (sTx E.T E.p : Int) + (sRw E.R E.q : Int) < 0) := by omega
  go_enter Tryz.func36, Tryz.ntmps36
  go_wp2_with fail
  refine (heldTxnS_any E.p E.T a cap m _ HS.out.p HS.out.st hm1 (by omega) (HP.out.below (below_new _ _))).mono ?_
  rintro e w1 ⟨rfl, rfl⟩
  go_wp2_with fail
  refine (heldRowS_any E.q E.R a' cap' (m + sTx E.T E.p) _ HS.out.q HS.out.sr (by omega) (by omega) (HL.out.below (below_new _ _))).mono ?_
  rintro e w2 ⟨rfl, rfl⟩
  go_wp2_with fail
  go_ret
  exact ⟨ret_int (by rw [HT.out]; omega), below_new _ _⟩
/-! ### answers that are engines -/
theorem eqEngineResult_same (c v : Int) (E : En) (a a' d d' : Option Addr) (cap cap' dap dap' : Nat) (w : World) (hs : SmallE E) (h : EngAt w a a' E) (h' : EngAt w d d' E) :
    Calls Tryz.prog 11 #[.agg #[.int .i64 c, .int .i64 v, .int .i64 E.nx, .int .i64 E.ck, .slice a E.p cap, .slice a' E.q cap'], .agg #[.int .i64 c, .int .i64 v, .int .i64 E.nx, .int .i64 E.ck, .slice d E.p dap, .slice d' E.q dap']] w fun e w' => e = .returned (.bool true) ∧ Below w.heap.size w w' := by
  have HS : Hid (SmallE E) := hs
  have H1 : Hid (EngAt w a a' E) := h
  have H2 : Hid (EngAt w d d' E) := h'
  clear hs h h'
  have hb0 : ∀ o1 o2, Below w.heap.size w ((w.alloc o1).alloc o2) := fun o1 o2 => (((Below.refl _ _).alloc (Nat.le_refl _) _).alloc (by simp) _)
  go_enter Tryz.func11, Tryz.ntmps11
  go_wp2_with fail
  refine (eqEngine_same E a a' d d' cap cap' dap dap' _ HS.out (H1.out.below (hb0 _ _)) (H2.out.below (hb0 _ _))).mono ?_
  rintro e w1 ⟨rfl, hb1⟩
  go_wp2_with fail
  go_ret
  exact ⟨rfl, below_then (hb0 _ _) hb1⟩
theorem heldEngineResult_any (c v : Int) (E : En) (a a' : Option Addr) (cap cap' : Nat) (x y : Int) (w : World) (hs : SmallE E) (h : EngAt w a a' (mE 1 E)) :
    Calls Tryz.prog 15 #[.agg #[.int .i64 c, .int .i64 v, .int .i64 x, .int .i64 y, .slice a E.p cap, .slice a' E.q cap'], .int .i64 1] w fun e w' => e = .returned (.int .i64 (1 + totE E)) ∧ Below w.heap.size w w' := by
  have HS : Hid (SmallE E) := hs
  have HO : Hid (EngAt w a a' (mE 1 E)) := h
  have hneg : ¬ ((1 : Int) + (totE E : Int) < 0) := by omega
  clear hs h
  go_enter Tryz.func15, Tryz.ntmps15
  go_wp2_with fail
  refine (heldEngine_any E a a' cap cap' 1 x y _ HS.out (by omega) (by omega) (HO.out.below (below_new _ _))).mono ?_
  rintro e w1 ⟨rfl, hb⟩
  go_wp2_with fail
  go_ret
  exact ⟨rfl, below_then (below_new _ _) hb⟩
/-! ### opened -/
theorem cellsEng : Tryz.prog.cellsOf 25 = 4 := by kernel_rfl
theorem openEngine {H : Type} {enc : TypeId × Value → H} {W : World} {r : Reach} {b0 : Nat} {v : Value} {d : DataW H} {p : List MemPlace}
    (hv : Value.okWide Tryz.prog W r b0 25 v) (h : DataW.Trod enc Tryz.prog W 0 (fun _ => true) true 25 v d p) :
    ∃ (E : En) (a a' : Option Addr) (cap cap' : Nat), v = .agg #[.int .i64 E.nx, .int .i64 E.ck, .slice a E.p cap, .slice a' E.q cap'] ∧ E.p ≤ 9223372036854775807 ∧ (∀ i, i < E.p → (E.T i).n ≤ 9223372036854775807) ∧ E.q ≤ 9223372036854775807 ∧ (∀ i, i < E.q → (E.R i).n ≤ 9223372036854775807) ∧ EngAt W a a' E := by
  obtain ⟨c0, c1, c2, c3, y0, y1, y2, y3, m, rfl, rfl, rfl, h0, h1, h2, h3⟩ := open_agg4 Tryz.underlying25 (by kernel_rfl) cellsEng hv h
  obtain ⟨x0, e0, _, _⟩ := DataW.trod_int Tryz.underlying2 h0
  obtain ⟨x1, e1, _, _⟩ := DataW.trod_int Tryz.underlying2 h1
  obtain ⟨a, n, cap, TT, e2, k1, k2, k4⟩ := openTxs h2
  obtain ⟨a', n', cap', RR, e3, j1, j2, j4⟩ := openRws h3
  simp at e0 e1 e2 e3
  subst e0 e1 e2 e3
  exact ⟨⟨x0, x1, n, TT, n', RR⟩, a, a', cap, cap', rfl, k1, k2, j1, j2, k4, j4⟩
theorem ownsRow_of {w w' : World} {base n s : Nat} {e : TypeId} {v : Value} {xs : List Value} (h : w.ownsRow base e s v n xs) (hb : ∀ q, v.ownBlock = some q → w'.heap[q]? = w.heap[q]?) : w'.ownsRow base e s v n xs := by
  obtain ⟨h1, h2 | ⟨g, cap, cur, rfl, k1, k2, k3⟩⟩ := h
  · exact ⟨h1, .inl h2⟩
  · exact ⟨h1, .inr ⟨g, cap, cur, rfl, k1, (hb g rfl).trans k2, k3⟩⟩
theorem info_parts2 {P : Program} {t : TypeId} {z : Value} {s b : Nat} (h : (P.info? t).map (fun i => (i.zero, i.size, i.bytes)) = some (some z, s, b)) : ∃ i, P.info? t = some i ∧ i.zero = some z ∧ i.size = s ∧ i.bytes = b := by
  obtain ⟨i, hi, hzz⟩ := Option.map_eq_some_iff.1 h
  simp only [Prod.mk.injEq] at hzz
  exact ⟨i, hi, hzz.1, hzz.2.1, hzz.2.2⟩
/-- The cells of the first k. -/
def rcTx (t : Tx) (A : Option Addr) (c : Nat) : List Value := [.int .i64 t.id, .int .i64 t.am, .int .i64 t.st, .int .i64 t.dn, .slice A t.n c]
def rbTx (T : Nat → Tx) (A : Nat → Option Addr) (c : Nat → Nat) : Nat → List Value
  | 0 => []
  | k + 1 => rbTx T A c k ++ rcTx (T k) (A k) (c k)
theorem rbTx_len (T : Nat → Tx) (A : Nat → Option Addr) (c : Nat → Nat) : ∀ k, (rbTx T A c k).length = k * 5
  | 0 => rfl
  | k + 1 => by simp only [rbTx, List.length_append, rbTx_len T A c k, rcTx, List.length_cons, List.length_nil]; omega
theorem rbTx_get (T : Nat → Tx) (A : Nat → Option Addr) (c : Nat → Nat) : ∀ k i j, i < k → j < 5 → (rbTx T A c k)[i * 5 + j]? = (rcTx (T i) (A i) (c i))[j]?
  | 0, i, j, h, _ => by omega
  | k + 1, i, j, h, hj => by
    simp only [rbTx]
    by_cases e : i = k
    · subst e
      rw [List.getElem?_append_right (by rw [rbTx_len]; omega), rbTx_len]
      congr 1; omega
    · rw [List.getElem?_append_left (by rw [rbTx_len]; omega)]
      exact rbTx_get T A c k i j (by omega) hj
theorem rbTx_congr {T T' : Nat → Tx} {A A' : Nat → Option Addr} {c c' : Nat → Nat} : ∀ k, (∀ i, i < k → T i = T' i ∧ A i = A' i ∧ c i = c' i) → rbTx T A c k = rbTx T' A' c' k
  | 0, _ => rfl
  | k + 1, h => by
    obtain ⟨e1, e2, e3⟩ := h k (by omega)
    simp only [rbTx, e1, e2, e3, rbTx_congr k (fun i hi => h i (by omega))]
theorem rcTx_one (t : Tx) (A : Option Addr) (c : Nat) : ∀ u ∈ rcTx t A c, u.oneCell' = true := by
  intro u hu
  simp [rcTx] at hu
  rcases hu with rfl | rfl | rfl | rfl | rfl <;> rfl
/-- A list of k that grows: it and what its elements hold lie in blocks of their own from base on, below top. -/
def GrTx (base top : Nat) (w : World) (v : Value) (k : Nat) (T : Nat → Tx) : Prop :=
  top ≤ w.heap.size ∧ ∃ (A : Nat → Option Addr) (c l h : Nat → Nat), w.ownsRow base 54 5 v k (rbTx T A c k) ∧ (∀ q, v.ownBlock = some q → q < top) ∧ (∀ i j, i < k → j < k → i ≠ j → h i ≤ l j ∨ h j ≤ l i) ∧
    ∀ i, i < k → (∀ q, v.ownBlock = some q → q < l i ∨ h i ≤ q) ∧ (h i = 0 ∨ base ≤ l i ∧ h i ≤ top) ∧ (T i).n ≤ c i ∧ OwnU w (l i) (h i) (A i) (T i).n (T i).U
theorem GrTx.nil (base : Nat) (w : World) (T : Nat → Tx) : GrTx base w.heap.size w (.slice none 0 0) 0 T :=
  ⟨Nat.le_refl _, fun _ => none, fun _ => 0, fun _ => 0, fun _ => 0, World.ownsRow_nil _ _ _ _, fun q hq => by simp [Value.ownBlock] at hq, fun i j hi => by omega, fun i hi => by omega⟩
theorem GrTx.writes {base top lo hi : Nat} {w w' : World} {v : Value} {k : Nat} {T : Nat → Tx} (h : GrTx base top w v k T) (hw : Writes lo hi w w') (hd : hi ≤ base ∨ top ≤ lo) : GrTx base top w' v k T := by
  obtain ⟨h0, A, c, l, h, ho, hv, hj, hc⟩ := h
  refine ⟨Nat.le_trans h0 hw.size, A, c, l, h, ownsRow_of ho fun q hq => hw.block q (by have := hv q hq; omega) (by have h1 := hv q hq; have h2 := (ho.lt q hq).1; omega), hv, hj, fun i hi => ?_⟩
  obtain ⟨k1, k2, k3, k4⟩ := hc i hi
  exact ⟨k1, k2, k3, k4.writes hw (by omega)⟩
theorem GrTx.below {base top : Nat} {w w' : World} {v : Value} {k : Nat} {T : Nat → Tx} (h : GrTx base top w v k T) (hb : Below w.heap.size w w') : GrTx base top w' v k T :=
  h.writes (Writes.of_below (lo := w.heap.size) (hi := w.heap.size) hb) (.inr h.1)
theorem GrTx.congr {base top : Nat} {w : World} {v : Value} {k : Nat} {T T' : Nat → Tx} (h : GrTx base top w v k T) (e : ∀ i, i < k → T i = T' i) : GrTx base top w v k T' := by
  obtain ⟨h0, A, c, l, h, ho, hv, hj, hc⟩ := h
  exact ⟨h0, A, c, l, h, by rw [← rbTx_congr k fun i hi => ⟨e i hi, rfl, rfl⟩]; exact ho, hv, hj, fun i hi => by rw [← e i hi]; exact hc i hi⟩
theorem GrTx.own {base top : Nat} {w : World} {v : Value} {k : Nat} {T : Nat → Tx} (h : GrTx base top w v k T) : ∃ a cap, v = .slice a k cap ∧ k ≤ cap ∧ OwnTx w base top a k T := by
  obtain ⟨h0, A, c, l, h, ho, hv, hj, hc⟩ := h
  have hown := ho
  obtain ⟨h1, ⟨rfl, rfl⟩ | ⟨g, cap, cur, rfl, k1, k2, k3, k4⟩⟩ := ho
  · exact ⟨none, 0, rfl, Nat.le_refl _, h0, .inl rfl⟩
  · have hg := hv g rfl
    refine ⟨_, cap, rfl, k3, h0, .inr ⟨g, 0, rfl, k1, hg, fun i => hown.frozenAt _, l, h, hj, fun i hi => ?_⟩⟩
    obtain ⟨m1, m2, m3, m4⟩ := hc i hi
    refine ⟨m1 g rfl, m2, A i, c i, ?_, m3, m4⟩
    have cc : ∀ j v, j < 5 → (rcTx (T i) (A i) (c i))[j]? = some v → w.cell? ⟨g, 0 + i * 5 + j, none⟩ = some v := fun j v hj hv => by
      rw [hown.cellAt (0 + i * 5 + j) (by omega), show 0 + i * 5 + j = i * 5 + j by omega, rbTx_get T A c k i j hi hj, hv]
    exact ⟨cc 0 _ (by omega) rfl, cc 1 _ (by omega) rfl, cc 2 _ (by omega) rfl, cc 3 _ (by omega) rfl, cc 4 _ (by omega) rfl⟩
theorem GrTx.step {base top l' h' g cap : Nat} {w w' : World} {v : Value} {k : Nat} {T : Nat → Tx} {t : Tx} {ai : Option Addr} {ci : Nat} (hk : (h' = 0 ∨ top ≤ l' ∧ h' ≤ w.heap.size)) (hb : base ≤ top) (hn : t.n ≤ ci) (hu : OwnU w l' h' ai t.n t.U)
    (A : Nat → Option Addr) (c l h : Nat → Nat) (h0 : top ≤ w.heap.size) (hv : ∀ q, v.ownBlock = some q → q < top) (hj : ∀ i j, i < k → j < k → i ≠ j → h i ≤ l j ∨ h j ≤ l i)
    (hc : ∀ i, i < k → (∀ q, v.ownBlock = some q → q < l i ∨ h i ≤ q) ∧ (h i = 0 ∨ base ≤ l i ∧ h i ≤ top) ∧ (T i).n ≤ c i ∧ OwnU w (l i) (h i) (A i) (T i).n (T i).U)
    (ho : w'.ownsRow base 54 5 (.slice (some ⟨g, 0, none⟩) (k + 1) cap) (k + 1) (rbTx T A c k ++ rcTx t ai ci)) (hg : w.grownBy w' v.ownBlock) (hl : v.ownBlock = some g ∨ g = w.heap.size) (hlt : g < w'.heap.size) :
    GrTx base w'.heap.size w' (.slice (some ⟨g, 0, none⟩) (k + 1) cap) (k + 1) (upf T k t) := by
  have hsz := hg.size
  have far : ∀ L H, (∀ q, v.ownBlock = some q → q < L ∨ H ≤ q) → ∀ a n U, OwnU w L H a n U → OwnU w' L H a n U := by
    intro L H hq a n U hO
    obtain ⟨o0, o1 | ⟨b, off, rfl, p1, p2, p3⟩⟩ := hO
    · exact ⟨by omega, .inl o1⟩
    · have hne : some b ≠ v.ownBlock := fun e => by have := hq b e.symm; omega
      have e := hg.block b (by omega) hne
      refine ⟨by omega, .inr ⟨b, off, rfl, p1, p2, ?_⟩⟩
      exact rowU_block p3 e
  refine ⟨Nat.le_refl _, fun i => if i = k then ai else A i, fun i => if i = k then ci else c i, fun i => if i = k then l' else l i, fun i => if i = k then h' else h i, ?_, fun q hq => by simp [Value.ownBlock] at hq; subst hq; exact hlt, fun i j hi hj' hne => ?_, fun i hi => ?_⟩
  · have e : rbTx (upf T k t) (fun i => if i = k then ai else A i) (fun i => if i = k then ci else c i) (k + 1) = rbTx T A c k ++ rcTx t ai ci := by
      simp only [rbTx, upf_eq, if_true]
      congr 1
      exact rbTx_congr k fun i hi => ⟨upf_ne _ _ (by omega), if_neg (by omega), if_neg (by omega)⟩
    rw [e]; exact ho
  · by_cases c1 : i = k <;> by_cases c2 : j = k <;> simp only [c1, c2, if_true, if_false]
    · omega
    · have := (hc j (by omega)).2.1; omega
    · have := (hc i (by omega)).2.1; omega
    · exact hj i j (by omega) (by omega) hne
  · by_cases e : i = k
    · subst e
      simp only [if_true, upf_eq]
      refine ⟨fun q hq => ?_, by omega, hn, far l' h' (fun q hq => by have := hv q hq; omega) _ _ _ hu⟩
      simp only [Value.ownBlock, Option.some.injEq] at hq
      subst hq
      rcases hl with hl | hl
      · have := hv g hl; omega
      · omega
    · simp only [if_neg e]
      rw [upf_ne _ _ e]
      obtain ⟨m1, m2, m3, m4⟩ := hc i (by omega)
      refine ⟨fun q hq => ?_, by omega, m3, far _ _ m1 _ _ _ m4⟩
      simp only [Value.ownBlock, Option.some.injEq] at hq
      subst hq
      rcases hl with hl | hl
      · exact m1 g hl
      · omega
theorem wp_grTx {o : Oper} {a : Act} {Kc : Act → World → Prop} {Q : Exit → Act → World → Prop} (w : World) (s x : Operand)
    (ho : o.op = .call { callee := .builtin .append, args := #[s, x], argTypes := #[27, 27] })
    (base top : Nat) (v : Value) (k : Nat) (T : Nat → Tx) (hs : a.eval s = v) (hgr : GrTx base top w v k T) (X O cx : Nat) (t : Tx) (ai : Option Addr) (ci l' h' : Nat) (hx : a.eval x = .slice (some ⟨X, O, none⟩) 1 cx) (hC : CTx w X O t ai ci)
    (hk : (h' = 0 ∨ top ≤ l' ∧ h' ≤ w.heap.size)) (hb : base ≤ top) (hn : t.n ≤ ci) (hu : OwnU w l' h' ai t.n t.U) (hlen : k ≤ 100000)
    (hK : ∀ g cap w', GrTx base w'.heap.size w' (.slice (some ⟨g, 0, none⟩) (k + 1) cap) (k + 1) (upf T k t) → w.grownBy w' v.ownBlock → Kc (a.put o.dst (.slice (some ⟨g, 0, none⟩) (k + 1) cap)) w') : o.wp Tryz.prog a w Kc Q := by
  obtain ⟨i0, hi, hz0, hz1, hz2⟩ := info_parts2 infoTx
  obtain ⟨h0, A, c, l, h, hown, hv, hj, hc⟩ := hgr
  refine wp_append_lies w s x 27 ho base 54 i0 _ 5 56 Tryz.underlying27 hi hz0 hz1 hz2 rfl (by decide) v k (rbTx T A c k) hs hown ⟨X, O, none⟩ 1 cx (rcTx t ai ci) hx rfl (fun j u hju => ?_) (rcTx_one _ _ _) (by decide) (by unfold maxLen; omega) (by omega) (by omega) _ rfl ?_
  · obtain ⟨h0, h1, h2, h3, h4⟩ := hC
    rw [WideShapes.add_plain]
    have hd : j < 5 := by have := (List.getElem?_eq_some_iff.1 hju).1; simpa [rcTx] using this
    have hd2 : j = 0 ∨ j = 1 ∨ j = 2 ∨ j = 3 ∨ j = 4 := by omega
    rcases hd2 with rfl | rfl | rfl | rfl | rfl
    · rw [← hju]; rw [Nat.add_zero]; exact h0
    · rw [← hju]; exact h1
    · rw [← hju]; exact h2
    · rw [← hju]; exact h3
    · rw [← hju]; exact h4
  · intro g cap w' ho2 hg2 hl2 hlt2
    exact hK g cap w' (GrTx.step hk hb hn hu A c l h h0 hv hj hc ho2 hg2 hl2 hlt2) hg2
theorem wpList_grTx {ops : Array Oper} {rest : List Oper} {o : Oper} {a : Act} {Q : Exit → Act → World → Prop} (w : World) (hgd : o.guard = none) (s x : Operand)
    (ho : o.op = .call { callee := .builtin .append, args := #[s, x], argTypes := #[27, 27] })
    (base top : Nat) (v : Value) (k : Nat) (T : Nat → Tx) (hs : a.eval s = v) (hgr : GrTx base top w v k T) (X O cx : Nat) (t : Tx) (ai : Option Addr) (ci l' h' : Nat) (hx : a.eval x = .slice (some ⟨X, O, none⟩) 1 cx) (hC : CTx w X O t ai ci)
    (hk : (h' = 0 ∨ top ≤ l' ∧ h' ≤ w.heap.size)) (hb : base ≤ top) (hn : t.n ≤ ci) (hu : OwnU w l' h' ai t.n t.U) (hlen : k ≤ 100000)
    (hK : ∀ g cap w', GrTx base w'.heap.size w' (.slice (some ⟨g, 0, none⟩) (k + 1) cap) (k + 1) (upf T k t) → w.grownBy w' v.ownBlock → wpList Tryz.prog ops Q rest (a.put o.dst (.slice (some ⟨g, 0, none⟩) (k + 1) cap)) w') : wpList Tryz.prog ops Q (o :: rest) a w :=
  wpList_plain hgd fun _ hKK => wp_grTx w s x ho base top v k T hs hgr X O cx t ai ci l' h' hx hC hk hb hn hu hlen fun g cap w' h2 h3 => hKK _ _ (hK g cap w' h2 h3)
/-- The cells of the first k. -/
def rcRw (t : Rw) (A : Option Addr) (c : Nat) : List Value := [.int .i64 t.key, .slice A t.n c]
def rbRw (T : Nat → Rw) (A : Nat → Option Addr) (c : Nat → Nat) : Nat → List Value
  | 0 => []
  | k + 1 => rbRw T A c k ++ rcRw (T k) (A k) (c k)
theorem rbRw_len (T : Nat → Rw) (A : Nat → Option Addr) (c : Nat → Nat) : ∀ k, (rbRw T A c k).length = k * 2
  | 0 => rfl
  | k + 1 => by simp only [rbRw, List.length_append, rbRw_len T A c k, rcRw, List.length_cons, List.length_nil]; omega
theorem rbRw_get (T : Nat → Rw) (A : Nat → Option Addr) (c : Nat → Nat) : ∀ k i j, i < k → j < 2 → (rbRw T A c k)[i * 2 + j]? = (rcRw (T i) (A i) (c i))[j]?
  | 0, i, j, h, _ => by omega
  | k + 1, i, j, h, hj => by
    simp only [rbRw]
    by_cases e : i = k
    · subst e
      rw [List.getElem?_append_right (by rw [rbRw_len]; omega), rbRw_len]
      congr 1; omega
    · rw [List.getElem?_append_left (by rw [rbRw_len]; omega)]
      exact rbRw_get T A c k i j (by omega) hj
theorem rbRw_congr {T T' : Nat → Rw} {A A' : Nat → Option Addr} {c c' : Nat → Nat} : ∀ k, (∀ i, i < k → T i = T' i ∧ A i = A' i ∧ c i = c' i) → rbRw T A c k = rbRw T' A' c' k
  | 0, _ => rfl
  | k + 1, h => by
    obtain ⟨e1, e2, e3⟩ := h k (by omega)
    simp only [rbRw, e1, e2, e3, rbRw_congr k (fun i hi => h i (by omega))]
theorem rcRw_one (t : Rw) (A : Option Addr) (c : Nat) : ∀ u ∈ rcRw t A c, u.oneCell' = true := by
  intro u hu
  simp [rcRw] at hu
  rcases hu with rfl | rfl <;> rfl
/-- A list of k that grows: it and what its elements hold lie in blocks of their own from base on, below top. -/
def GrRw (base top : Nat) (w : World) (v : Value) (k : Nat) (T : Nat → Rw) : Prop :=
  top ≤ w.heap.size ∧ ∃ (A : Nat → Option Addr) (c l h : Nat → Nat), w.ownsRow base 87 2 v k (rbRw T A c k) ∧ (∀ q, v.ownBlock = some q → q < top) ∧ (∀ i j, i < k → j < k → i ≠ j → h i ≤ l j ∨ h j ≤ l i) ∧
    ∀ i, i < k → (∀ q, v.ownBlock = some q → q < l i ∨ h i ≤ q) ∧ (h i = 0 ∨ base ≤ l i ∧ h i ≤ top) ∧ (T i).n ≤ c i ∧ Own4 w (l i) (h i) (A i) (T i).n (T i).U
theorem GrRw.nil (base : Nat) (w : World) (T : Nat → Rw) : GrRw base w.heap.size w (.slice none 0 0) 0 T :=
  ⟨Nat.le_refl _, fun _ => none, fun _ => 0, fun _ => 0, fun _ => 0, World.ownsRow_nil _ _ _ _, fun q hq => by simp [Value.ownBlock] at hq, fun i j hi => by omega, fun i hi => by omega⟩
theorem GrRw.writes {base top lo hi : Nat} {w w' : World} {v : Value} {k : Nat} {T : Nat → Rw} (h : GrRw base top w v k T) (hw : Writes lo hi w w') (hd : hi ≤ base ∨ top ≤ lo) : GrRw base top w' v k T := by
  obtain ⟨h0, A, c, l, h, ho, hv, hj, hc⟩ := h
  refine ⟨Nat.le_trans h0 hw.size, A, c, l, h, ownsRow_of ho fun q hq => hw.block q (by have := hv q hq; omega) (by have h1 := hv q hq; have h2 := (ho.lt q hq).1; omega), hv, hj, fun i hi => ?_⟩
  obtain ⟨k1, k2, k3, k4⟩ := hc i hi
  exact ⟨k1, k2, k3, k4.writes hw (by omega)⟩
theorem GrRw.below {base top : Nat} {w w' : World} {v : Value} {k : Nat} {T : Nat → Rw} (h : GrRw base top w v k T) (hb : Below w.heap.size w w') : GrRw base top w' v k T :=
  h.writes (Writes.of_below (lo := w.heap.size) (hi := w.heap.size) hb) (.inr h.1)
theorem GrRw.congr {base top : Nat} {w : World} {v : Value} {k : Nat} {T T' : Nat → Rw} (h : GrRw base top w v k T) (e : ∀ i, i < k → T i = T' i) : GrRw base top w v k T' := by
  obtain ⟨h0, A, c, l, h, ho, hv, hj, hc⟩ := h
  exact ⟨h0, A, c, l, h, by rw [← rbRw_congr k fun i hi => ⟨e i hi, rfl, rfl⟩]; exact ho, hv, hj, fun i hi => by rw [← e i hi]; exact hc i hi⟩
theorem GrRw.own {base top : Nat} {w : World} {v : Value} {k : Nat} {T : Nat → Rw} (h : GrRw base top w v k T) : ∃ a cap, v = .slice a k cap ∧ k ≤ cap ∧ OwnRw w base top a k T := by
  obtain ⟨h0, A, c, l, h, ho, hv, hj, hc⟩ := h
  have hown := ho
  obtain ⟨h1, ⟨rfl, rfl⟩ | ⟨g, cap, cur, rfl, k1, k2, k3, k4⟩⟩ := ho
  · exact ⟨none, 0, rfl, Nat.le_refl _, h0, .inl rfl⟩
  · have hg := hv g rfl
    refine ⟨_, cap, rfl, k3, h0, .inr ⟨g, 0, rfl, k1, hg, fun i => hown.frozenAt _, l, h, hj, fun i hi => ?_⟩⟩
    obtain ⟨m1, m2, m3, m4⟩ := hc i hi
    refine ⟨m1 g rfl, m2, A i, c i, ?_, m3, m4⟩
    have cc : ∀ j v, j < 2 → (rcRw (T i) (A i) (c i))[j]? = some v → w.cell? ⟨g, 0 + i * 2 + j, none⟩ = some v := fun j v hj hv => by
      rw [hown.cellAt (0 + i * 2 + j) (by omega), show 0 + i * 2 + j = i * 2 + j by omega, rbRw_get T A c k i j hi hj, hv]
    exact ⟨cc 0 _ (by omega) rfl, cc 1 _ (by omega) rfl⟩
theorem GrRw.step {base top l' h' g cap : Nat} {w w' : World} {v : Value} {k : Nat} {T : Nat → Rw} {t : Rw} {ai : Option Addr} {ci : Nat} (hk : (h' = 0 ∨ top ≤ l' ∧ h' ≤ w.heap.size)) (hb : base ≤ top) (hn : t.n ≤ ci) (hu : Own4 w l' h' ai t.n t.U)
    (A : Nat → Option Addr) (c l h : Nat → Nat) (h0 : top ≤ w.heap.size) (hv : ∀ q, v.ownBlock = some q → q < top) (hj : ∀ i j, i < k → j < k → i ≠ j → h i ≤ l j ∨ h j ≤ l i)
    (hc : ∀ i, i < k → (∀ q, v.ownBlock = some q → q < l i ∨ h i ≤ q) ∧ (h i = 0 ∨ base ≤ l i ∧ h i ≤ top) ∧ (T i).n ≤ c i ∧ Own4 w (l i) (h i) (A i) (T i).n (T i).U)
    (ho : w'.ownsRow base 87 2 (.slice (some ⟨g, 0, none⟩) (k + 1) cap) (k + 1) (rbRw T A c k ++ rcRw t ai ci)) (hg : w.grownBy w' v.ownBlock) (hl : v.ownBlock = some g ∨ g = w.heap.size) (hlt : g < w'.heap.size) :
    GrRw base w'.heap.size w' (.slice (some ⟨g, 0, none⟩) (k + 1) cap) (k + 1) (upf T k t) := by
  have hsz := hg.size
  have far : ∀ L H, (∀ q, v.ownBlock = some q → q < L ∨ H ≤ q) → ∀ a n U, Own4 w L H a n U → Own4 w' L H a n U := by
    intro L H hq a n U hO
    obtain ⟨o0, o1 | ⟨b, off, rfl, p1, p2, p3⟩⟩ := hO
    · exact ⟨by omega, .inl o1⟩
    · have hne : some b ≠ v.ownBlock := fun e => by have := hq b e.symm; omega
      have e := hg.block b (by omega) hne
      refine ⟨by omega, .inr ⟨b, off, rfl, p1, p2, ?_⟩⟩
      exact row4_block p3 e
  refine ⟨Nat.le_refl _, fun i => if i = k then ai else A i, fun i => if i = k then ci else c i, fun i => if i = k then l' else l i, fun i => if i = k then h' else h i, ?_, fun q hq => by simp [Value.ownBlock] at hq; subst hq; exact hlt, fun i j hi hj' hne => ?_, fun i hi => ?_⟩
  · have e : rbRw (upf T k t) (fun i => if i = k then ai else A i) (fun i => if i = k then ci else c i) (k + 1) = rbRw T A c k ++ rcRw t ai ci := by
      simp only [rbRw, upf_eq, if_true]
      congr 1
      exact rbRw_congr k fun i hi => ⟨upf_ne _ _ (by omega), if_neg (by omega), if_neg (by omega)⟩
    rw [e]; exact ho
  · by_cases c1 : i = k <;> by_cases c2 : j = k <;> simp only [c1, c2, if_true, if_false]
    · omega
    · have := (hc j (by omega)).2.1; omega
    · have := (hc i (by omega)).2.1; omega
    · exact hj i j (by omega) (by omega) hne
  · by_cases e : i = k
    · subst e
      simp only [if_true, upf_eq]
      refine ⟨fun q hq => ?_, by omega, hn, far l' h' (fun q hq => by have := hv q hq; omega) _ _ _ hu⟩
      simp only [Value.ownBlock, Option.some.injEq] at hq
      subst hq
      rcases hl with hl | hl
      · have := hv g hl; omega
      · omega
    · simp only [if_neg e]
      rw [upf_ne _ _ e]
      obtain ⟨m1, m2, m3, m4⟩ := hc i (by omega)
      refine ⟨fun q hq => ?_, by omega, m3, far _ _ m1 _ _ _ m4⟩
      simp only [Value.ownBlock, Option.some.injEq] at hq
      subst hq
      rcases hl with hl | hl
      · exact m1 g hl
      · omega
theorem wp_grRw {o : Oper} {a : Act} {Kc : Act → World → Prop} {Q : Exit → Act → World → Prop} (w : World) (s x : Operand)
    (ho : o.op = .call { callee := .builtin .append, args := #[s, x], argTypes := #[28, 28] })
    (base top : Nat) (v : Value) (k : Nat) (T : Nat → Rw) (hs : a.eval s = v) (hgr : GrRw base top w v k T) (X O cx : Nat) (t : Rw) (ai : Option Addr) (ci l' h' : Nat) (hx : a.eval x = .slice (some ⟨X, O, none⟩) 1 cx) (hC : CRw w X O t ai ci)
    (hk : (h' = 0 ∨ top ≤ l' ∧ h' ≤ w.heap.size)) (hb : base ≤ top) (hn : t.n ≤ ci) (hu : Own4 w l' h' ai t.n t.U) (hlen : k ≤ 100000)
    (hK : ∀ g cap w', GrRw base w'.heap.size w' (.slice (some ⟨g, 0, none⟩) (k + 1) cap) (k + 1) (upf T k t) → w.grownBy w' v.ownBlock → Kc (a.put o.dst (.slice (some ⟨g, 0, none⟩) (k + 1) cap)) w') : o.wp Tryz.prog a w Kc Q := by
  obtain ⟨i0, hi, hz0, hz1, hz2⟩ := info_parts2 infoRw
  obtain ⟨h0, A, c, l, h, hown, hv, hj, hc⟩ := hgr
  refine wp_append_lies w s x 28 ho base 87 i0 _ 2 32 Tryz.underlying28 hi hz0 hz1 hz2 rfl (by decide) v k (rbRw T A c k) hs hown ⟨X, O, none⟩ 1 cx (rcRw t ai ci) hx rfl (fun j u hju => ?_) (rcRw_one _ _ _) (by decide) (by unfold maxLen; omega) (by omega) (by omega) _ rfl ?_
  · obtain ⟨h0, h1⟩ := hC
    rw [WideShapes.add_plain]
    have hd : j < 2 := by have := (List.getElem?_eq_some_iff.1 hju).1; simpa [rcRw] using this
    have hd2 : j = 0 ∨ j = 1 := by omega
    rcases hd2 with rfl | rfl
    · rw [← hju]; rw [Nat.add_zero]; exact h0
    · rw [← hju]; exact h1
  · intro g cap w' ho2 hg2 hl2 hlt2
    exact hK g cap w' (GrRw.step hk hb hn hu A c l h h0 hv hj hc ho2 hg2 hl2 hlt2) hg2
theorem wpList_grRw {ops : Array Oper} {rest : List Oper} {o : Oper} {a : Act} {Q : Exit → Act → World → Prop} (w : World) (hgd : o.guard = none) (s x : Operand)
    (ho : o.op = .call { callee := .builtin .append, args := #[s, x], argTypes := #[28, 28] })
    (base top : Nat) (v : Value) (k : Nat) (T : Nat → Rw) (hs : a.eval s = v) (hgr : GrRw base top w v k T) (X O cx : Nat) (t : Rw) (ai : Option Addr) (ci l' h' : Nat) (hx : a.eval x = .slice (some ⟨X, O, none⟩) 1 cx) (hC : CRw w X O t ai ci)
    (hk : (h' = 0 ∨ top ≤ l' ∧ h' ≤ w.heap.size)) (hb : base ≤ top) (hn : t.n ≤ ci) (hu : Own4 w l' h' ai t.n t.U) (hlen : k ≤ 100000)
    (hK : ∀ g cap w', GrRw base w'.heap.size w' (.slice (some ⟨g, 0, none⟩) (k + 1) cap) (k + 1) (upf T k t) → w.grownBy w' v.ownBlock → wpList Tryz.prog ops Q rest (a.put o.dst (.slice (some ⟨g, 0, none⟩) (k + 1) cap)) w') : wpList Tryz.prog ops Q (o :: rest) a w :=
  wpList_plain hgd fun _ hKK => wp_grRw w s x ho base top v k T hs hgr X O cx t ai ci l' h' hx hC hk hb hn hu hlen fun g cap w' h2 h3 => hKK _ _ (hK g cap w' h2 h3)
theorem step_grRw {ops : Array Oper} {o : Oper} {a : Act} {Kc : Act → World → Prop} {Q : Exit → Act → World → Prop} {Ee : Prop} (w : World) (hgd : o.guard = none) (s x : Operand)
    (ho : o.op = .call { callee := .builtin .append, args := #[s, x], argTypes := #[28, 28] })
    (base top : Nat) (v : Value) (k : Nat) (T : Nat → Rw) (hs : a.eval s = v) (hgr : GrRw base top w v k T) (X O cx : Nat) (t : Rw) (ai : Option Addr) (ci l' h' : Nat) (hx : a.eval x = .slice (some ⟨X, O, none⟩) 1 cx) (hC : CRw w X O t ai ci)
    (hk : (h' = 0 ∨ top ≤ l' ∧ h' ≤ w.heap.size)) (hb : base ≤ top) (hn : t.n ≤ ci) (hu : Own4 w l' h' ai t.n t.U) (hlen : k ≤ 100000)
    (hK : ∀ g cap w', GrRw base w'.heap.size w' (.slice (some ⟨g, 0, none⟩) (k + 1) cap) (k + 1) (upf T k t) → w.grownBy w' v.ownBlock → Kc (a.put o.dst (.slice (some ⟨g, 0, none⟩) (k + 1) cap)) w') :
    if Region.wanted o (yielded ops a.tmps) = true then Oper.wp Tryz.prog o a w Kc Q else Ee := by
  have hw : Region.wanted o (yielded ops a.tmps) = true := by simp [Region.wanted, hgd]
  rw [if_pos hw]
  exact wp_grRw w s x ho base top v k T hs hgr X O cx t ai ci l' h' hx hC hk hb hn hu hlen hK
theorem take_next {α : Type} {xs : List α} {k : Nat} {x : α} (h : xs[k]? = some x) : xs.take (k + 1) = xs.take k ++ [x] := by rw [List.take_add_one, h]; rfl
theorem row_base {w : World} {base base' n s : Nat} {e : TypeId} {v : Value} {xs : List Value} (h : w.ownsRow base e s v n xs) (hb : base' ≤ base) : w.ownsRow base' e s v n xs := by
  refine ⟨h.1, ?_⟩
  rcases h.2 with h | ⟨g, c, cu, e1, e2, e3⟩
  · exact .inl h
  · exact .inr ⟨g, c, cu, e1, Nat.le_trans hb e2, e3⟩
/-- A impl.Row as it lies in a row: its datum, where what it holds lies and how much room it has; the blocks of its own. -/
structure HRw where
  t : Rw
  A : Option Addr
  c : Nat
  l : Nat
  h : Nat
def keyRw (x : HRw) : Int := x.t.key
def hbRw : List HRw → List Value
  | [] => []
  | x :: xs => rcRw x.t x.A x.c ++ hbRw xs
theorem hbRw_app : ∀ xs ys, hbRw (xs ++ ys) = hbRw xs ++ hbRw ys
  | [], ys => rfl
  | x :: xs, ys => by simp [hbRw, hbRw_app xs ys]
theorem hbRw_len : ∀ xs, (hbRw xs).length = xs.length * 2
  | [] => rfl
  | x :: xs => by
    have := hbRw_len xs
    simp only [hbRw, List.length_append, this, rcRw, List.length_cons, List.length_nil]
    omega
theorem hbRw_get : ∀ (xs : List HRw) (i j : Nat) (x : HRw), xs[i]? = some x → j < 2 → (hbRw xs)[i * 2 + j]? = (rcRw x.t x.A x.c)[j]?
  | [], i, j, x, h, hj => by simp at h
  | y :: ys, 0, j, x, h, hj => by
    simp only [List.getElem?_cons_zero, Option.some.injEq] at h
    subst h
    rw [hbRw, List.getElem?_append_left (by simp [rcRw]; omega), Nat.zero_mul, Nat.zero_add]
  | y :: ys, i + 1, j, x, h, hj => by
    rw [List.getElem?_cons_succ] at h
    rw [hbRw, List.getElem?_append_right (by simp [rcRw]; omega)]
    have := hbRw_get ys i j x h hj
    rw [← this]
    congr 1
    simp [rcRw]
    omega
/-- A slice whose elements lie so. -/
def HAtRw (w : World) (a : Option Addr) (xs : List HRw) : Prop := xs = [] ∨ ∃ b off, a = some ⟨b, off, none⟩ ∧ b < w.heap.size ∧ ∀ i x, xs[i]? = some x → CRw w b (off + i * 2) x.t x.A x.c
theorem HAtRw.below {w w' : World} {a : Option Addr} {xs : List HRw} (h : HAtRw w a xs) (hb : Below w.heap.size w w') : HAtRw w' a xs := by
  rcases h with h | ⟨b, off, ha, hl, hc⟩
  · exact .inl h
  · exact .inr ⟨b, off, ha, Nat.lt_of_lt_of_le hl hb.size, fun i x hi => (hc i x hi).block (hb.block _ hl)⟩
theorem HAtRw.of_row {w : World} {base n : Nat} {v : Value} {xs : List HRw} (hn : xs.length = n) (h : w.ownsRow base 87 2 v n (hbRw xs)) : ∃ a cap, v = .slice a n cap ∧ n ≤ cap ∧ HAtRw w a xs := by
  rcases h.2 with ⟨rfl, h0⟩ | ⟨g, cap, cur, rfl, hbg, hg, hc, _⟩
  · exact ⟨none, 0, by rw [h0], by omega, .inl (List.eq_nil_of_length_eq_zero (by omega))⟩
  · have hlt : g < w.heap.size := (Array.getElem?_eq_some_iff.1 hg).1
    refine ⟨some ⟨g, 0, none⟩, cap, rfl, hc, .inr ⟨g, 0, rfl, hlt, fun i x hi => ?_⟩⟩
    have hil : i < n := by rw [← hn]; exact (List.getElem?_eq_some_iff.1 hi).1
    have hcc : ∀ j u, j < 2 → (rcRw x.t x.A x.c)[j]? = some u → w.cell? ⟨g, 0 + i * 2 + j, none⟩ = some u := fun j u hj hu => by
      rw [Nat.zero_add, h.cellAt (i * 2 + j) (by omega), hbRw_get xs i j x hi hj, hu]
    exact ⟨hcc 0 _ (by omega) rfl, hcc 1 _ (by omega) rfl⟩
theorem wp_appHRw {o : Oper} {a : Act} {Kc : Act → World → Prop} {Q : Exit → Act → World → Prop} (w : World) (s x : Operand)
    (ho : o.op = .call { callee := .builtin .append, args := #[s, x], argTypes := #[28, 28] })
    (base : Nat) (v : Value) (m : Nat) (xs : List HRw) (hm : xs.length = m) (hs : a.eval s = v) (hown : w.ownsRow base 87 2 v m (hbRw xs)) (Y cx : Nat) (y : HRw) (hx : a.eval x = .slice (some ⟨Y, 0, none⟩) 1 cx) (hC : CRw w Y 0 y.t y.A y.c) (hb : base ≤ w.heap.size) (hl : m ≤ 100000)
    (hK : ∀ v' w', w'.ownsRow base 87 2 v' (m + 1) (hbRw (xs ++ [y])) → w.grownBy w' v.ownBlock → Kc (a.put o.dst v') w') : o.wp Tryz.prog a w Kc Q := by
  obtain ⟨i0, hi, hz0, hz1, hz2⟩ := info_parts2 infoRw
  refine wp_append_own w s x 28 ho base 87 i0 _ 2 32 Tryz.underlying28 hi hz0 hz1 hz2 rfl (by decide) v m (hbRw xs) hs hown ⟨Y, 0, none⟩ 1 cx (rcRw y.t y.A y.c) hx rfl (fun j u hju => ?_) (rcRw_one _ _ _) (by unfold maxLen; omega) (by omega) hb fun v' w' h2 h3 _ => hK v' w' ?_ h3
  · obtain ⟨h0, h1⟩ := hC
    rw [WideShapes.add_plain]
    have hd : j < 2 := by have := (List.getElem?_eq_some_iff.1 hju).1; simpa [rcRw] using this
    have hd2 : j = 0 ∨ j = 1 := by omega
    rcases hd2 with rfl | rfl
    · rw [← hju]; exact h0
    · rw [← hju]; exact h1
  · rw [hbRw_app]
    simpa [hbRw] using h2
theorem wpList_appHRw {ops : Array Oper} {rest : List Oper} {o : Oper} {a : Act} {Q : Exit → Act → World → Prop} (w : World) (hgd : o.guard = none) (s x : Operand)
    (ho : o.op = .call { callee := .builtin .append, args := #[s, x], argTypes := #[28, 28] })
    (base : Nat) (v : Value) (m : Nat) (xs : List HRw) (hm : xs.length = m) (hs : a.eval s = v) (hown : w.ownsRow base 87 2 v m (hbRw xs)) (Y cx : Nat) (y : HRw) (hx : a.eval x = .slice (some ⟨Y, 0, none⟩) 1 cx) (hC : CRw w Y 0 y.t y.A y.c) (hb : base ≤ w.heap.size) (hl : m ≤ 100000)
    (hK : ∀ v' w', w'.ownsRow base 87 2 v' (m + 1) (hbRw (xs ++ [y])) → w.grownBy w' v.ownBlock → wpList Tryz.prog ops Q rest (a.put o.dst v') w') : wpList Tryz.prog ops Q (o :: rest) a w :=
  wpList_plain hgd fun _ hKK => wp_appHRw w s x ho base v m xs hm hs hown Y cx y hx hC hb hl fun v' w' h2 h3 => hKK _ _ (hK v' w' h2 h3)
/-- Rising by number. -/
def RiRw (xs : List HRw) : Prop := xs.Pairwise (fun x y => keyRw x < keyRw y)
theorem isTxn_any (v : Int) (w : World) : Calls Tryz.prog 85 #[.int .i64 v] w fun e w' => e = .returned (.bool (inB v 1 999)) ∧ w' = w := by
  go_enter Tryz.func85, Tryz.ntmps85
  go_wp2_with (go_at_call 38; refine (within_any _ _ _ _).mono ?_; rintro e w' ⟨rfl, rfl⟩)
  go_ret
  exact ⟨rfl, rfl⟩
theorem isAt_any (v : Int) (w : World) : Calls Tryz.prog 86 #[.int .i64 v] w fun e w' => e = .returned (.bool (inB v 0 1000000)) ∧ w' = w := by
  go_enter Tryz.func86, Tryz.ntmps86
  go_wp2_with (go_at_call 38; refine (within_any _ _ _ _).mono ?_; rintro e w' ⟨rfl, rfl⟩)
  go_ret
  exact ⟨rfl, rfl⟩
theorem l5Txn_any (v : Int) (w : World) : Calls Tryz.prog 79 #[.int .i64 v] w fun e w' => e = .returned (.bool (inB v 1 999)) ∧ w' = w := by
  go_enter Tryz.func79, Tryz.ntmps79
  go_wp2_with (go_at_call 37; refine (l1In_any _ _ _ _).mono ?_; rintro e w' ⟨rfl, rfl⟩)
  go_ret
  exact ⟨rfl, rfl⟩
theorem l5At_any (v : Int) (w : World) : Calls Tryz.prog 129 #[.int .i64 v] w fun e w' => e = .returned (.bool (inB v 1 1000000)) ∧ w' = w := by
  go_enter Tryz.func129, Tryz.ntmps129
  go_wp2_with (go_at_call 37; refine (l1In_any _ _ _ _).mono ?_; rintro e w' ⟨rfl, rfl⟩)
  go_ret
  exact ⟨rfl, rfl⟩
theorem isCommitted_any (t a : Int) (g : Bool) (v : Int) (w : World) : Calls Tryz.prog 138 #[.agg #[.int .i64 t, .int .i64 a, .bool g, .int .i64 v]] w fun e w' => e = .returned (.bool (a != 0)) ∧ Below w.heap.size w w' := by
  go_enter Tryz.func138, Tryz.ntmps138
  go_wp2
  go_ret
  exact ⟨rfl, below_new _ _⟩
theorem goneWithValue_any (t a : Int) (g : Bool) (v : Int) (w : World) : Calls Tryz.prog 125 #[.agg #[.int .i64 t, .int .i64 a, .bool g, .int .i64 v]] w fun e w' => e = .returned (.bool (g && v != 0)) ∧ Below w.heap.size w w' := by
  cases g
  · go_enter Tryz.func125, Tryz.ntmps125
    go_wp2
    go_ret
    exact ⟨rfl, below_new _ _⟩
  · go_enter Tryz.func125, Tryz.ntmps125
    go_wp2
    all_goals
      go_ret
      exact ⟨ret_bool (by simp [*]), below_new _ _⟩
theorem openBy_any (t a : Int) (g : Bool) (v x : Int) (w : World) : Calls Tryz.prog 134 #[.agg #[.int .i64 t, .int .i64 a, .bool g, .int .i64 v], .int .i64 x] w fun e w' => e = .returned (.bool (t == x && a == 0)) ∧ Below w.heap.size w w' := by
  go_enter Tryz.func134, Tryz.ntmps134
  go_wp2
  all_goals
    go_ret
    exact ⟨ret_bool (by simp [*]), below_new _ _⟩
/-- May r stand right behind p? -/
def older (r p : Vr) : Bool := r.a != 0 && (p.a == 0 || decide (r.a < p.a))
theorem isOlder_any (r p : Vr) (w : World) : Calls Tryz.prog 131 #[.agg #[.int .i64 r.t, .int .i64 r.a, .bool r.g, .int .i64 r.v], .agg #[.int .i64 p.t, .int .i64 p.a, .bool p.g, .int .i64 p.v]] w fun e w' => e = .returned (.bool (older r p)) ∧ Below w.heap.size w w' := by
  obtain ⟨t, a, g, v⟩ := r
  obtain ⟨t', a', g', v'⟩ := p
  have hb0 : ∀ o1 o2, Below w.heap.size w ((w.alloc o1).alloc o2) := fun o1 o2 => ((Below.refl _ _).alloc (Nat.le_refl _) _).alloc (by simp) _
  unfold older
  by_cases h1 : a = 0
  · subst h1
    have e1 : ((0 : Int) != 0) = false := rfl
    go_enter Tryz.func131, Tryz.ntmps131
    go_wp2_with fail
    refine (isCommitted_any _ _ _ _ _).mono ?_
    rintro e w1 ⟨rfl, hb1⟩
    rw [e1]
    go_wp2_with fail
    go_ret
    exact ⟨rfl, below_then (hb0 _ _) hb1⟩
  · have e1 : (a != 0) = true := by simp [h1]
    by_cases h2 : a' = 0
    · subst h2
      have e2 : ((0 : Int) != 0) = false := rfl
      go_enter Tryz.func131, Tryz.ntmps131
      go_wp2_with fail
      refine (isCommitted_any _ _ _ _ _).mono ?_
      rintro e w1 ⟨rfl, hb1⟩
      rw [e1]
      obtain ⟨hc, hf⟩ := bcell hb1
      go_wp2_with fail
      refine (isCommitted_any _ _ _ _ _).mono ?_
      rintro e w2 ⟨rfl, hb2⟩
      rw [e2]
      go_wp2_with fail
      go_ret
      exact ⟨ret_bool (by simp [h1]), below_then (below_then (hb0 _ _) hb1) hb2⟩
    · have e2 : (a' != 0) = true := by simp [h2]
      have HV : Hid ((a != 0 && (a' == 0 || decide (a < a'))) = decide (a < a')) := by
        have e3 : (a' == 0) = false := by simp [h2]
        show (a != 0 && (a' == 0 || decide (a < a'))) = decide (a < a')
        rw [e1, e3]
        rfl
      go_enter Tryz.func131, Tryz.ntmps131
      go_wp2_with fail
      refine (isCommitted_any _ _ _ _ _).mono ?_
      rintro e w1 ⟨rfl, hb1⟩
      rw [e1]
      obtain ⟨hc, hf⟩ := bcell hb1
      go_wp2_with fail
      refine (isCommitted_any _ _ _ _ _).mono ?_
      rintro e w2 ⟨rfl, hb2⟩
      rw [e2]
      have hb3 := below_then hb1 hb2
      obtain ⟨hc2, hf2⟩ := bcell hb3
      go_wp2_with fail
      go_ret
      exact ⟨ret_bool HV.out.symm, below_then (hb0 _ _) hb3⟩
end Go.Proofs.YtabkgncnanlapaaGreat
