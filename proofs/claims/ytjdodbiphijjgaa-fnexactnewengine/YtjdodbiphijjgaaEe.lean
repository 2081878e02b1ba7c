/- Engines: sizes, copies, equal, marked, held, opened; answers that are engines. -/
import Derived.Test.YtjdodbiphijjgaaErb
import Derived.Test.YtjdodbiphijjgaaEtb
namespace Go.Proofs.Ytjdodbiphijjgaa
open Go.ChangeShapes Go.WideShapes Go.ChangeAt Go.RowKit Go.Deep Go.Joins
set_option linter.unusedVariables false
set_option maxRecDepth 20000

/-- What an engine holds. -/
structure En where
  nx : Int
  ck : Int
  p : Nat
  T : Nat → Tx
  q : Nat
  R : Nat → Rw
def EngAt (w : World) (a a' : Option Addr) (E : En) : Prop := TxsAt w a E.p E.T ∧ RwsAt w a' E.q E.R
theorem EngAt.below {w w' : World} {a a' : Option Addr} {E : En} (h : EngAt w a a' E) (hb : Below w.heap.size w w') : EngAt w' a a' E := ⟨h.1.below hb, h.2.below hb⟩
/-- An engine in blocks of its own. -/
def OwnE (w : World) (lo hi : Nat) (a a' : Option Addr) (E : En) : Prop :=
  hi ≤ w.heap.size ∧ ∃ l1 h1 l2 h2, lo ≤ l1 ∧ h1 ≤ hi ∧ lo ≤ l2 ∧ h2 ≤ hi ∧ (h1 ≤ l2 ∨ h2 ≤ l1) ∧ OwnTx w l1 h1 a E.p E.T ∧ OwnRw w l2 h2 a' E.q E.R
theorem OwnE.at {w : World} {lo hi : Nat} {a a' : Option Addr} {E : En} (h : OwnE w lo hi a a' E) : EngAt w a a' E := by
  obtain ⟨_, l1, h1, l2, h2, _, _, _, _, _, hp, hl⟩ := h
  exact ⟨hp.at, hl.at⟩
theorem OwnE.writes {w w' : World} {lo hi lo' hi' : Nat} {a a' : Option Addr} {E : En} (h : OwnE w lo hi a a' E) (hw : Writes lo' hi' w w') (hd : hi ≤ lo' ∨ hi' ≤ lo) : OwnE w' lo hi a a' E := by
  obtain ⟨h0, l1, h1, l2, h2, k1, k2, k3, k4, k5, hp, hl⟩ := h
  exact ⟨Nat.le_trans h0 hw.size, l1, h1, l2, h2, k1, k2, k3, k4, k5, hp.writes hw (by omega), hl.writes hw (by omega)⟩
theorem OwnE.below {w w' : World} {lo hi : Nat} {a a' : Option Addr} {E : En} (h : OwnE w lo hi a a' E) (hb : Below w.heap.size w w') : OwnE w' lo hi a a' E :=
  h.writes (Writes.of_below (lo := hi) (hi := hi) hb) (.inl (Nat.le_refl _))
theorem OwnE.wide {w : World} {lo hi lo' hi' : Nat} {a a' : Option Addr} {E : En} (h : OwnE w lo hi a a' E) (e1 : lo' ≤ lo) (e2 : hi ≤ hi') (e3 : hi' ≤ w.heap.size) : OwnE w lo' hi' a a' E := by
  obtain ⟨h0, l1, h1, l2, h2, k1, k2, k3, k4, k5, hp, hl⟩ := h
  exact ⟨e3, l1, h1, l2, h2, by omega, by omega, by omega, by omega, k5, hp, hl⟩
theorem OwnE.mk' {w : World} {lo hi l1 h1 l2 h2 : Nat} {a a' : Option Addr} {E : En} (e0 : hi ≤ w.heap.size) (e1 : lo ≤ l1) (e2 : h1 ≤ hi) (e3 : lo ≤ l2) (e4 : h2 ≤ hi) (e5 : h1 ≤ l2 ∨ h2 ≤ l1) (hp : OwnTx w l1 h1 a E.p E.T) (hl : OwnRw w l2 h2 a' E.q E.R) : OwnE w lo hi a a' E :=
  ⟨e0, l1, h1, l2, h2, e1, e2, e3, e4, e5, hp, hl⟩
/-- An engine that is not greater than the laws' bound. -/
structure SmallE (E : En) : Prop where
  p : E.p ≤ 1048576
  q : E.q ≤ 1048576
  t : ∀ i, i < E.p → (E.T i).n ≤ 1048576
  r : ∀ i, i < E.q → (E.R i).n ≤ 1048576
  st : smTx E.T E.p ≤ 1048576
  sr : smRw E.R E.q ≤ 1048576
theorem smallE_of {E : En} (h : 0 ≤ (1048576 : Int) - E.p - smTx E.T E.p - E.q - smRw E.R E.q) : SmallE E :=
  ⟨by omega, by omega, fun i hi => by have := smf_ge (fun i => (E.T i).n) E.p i hi; unfold smTx at h; omega, fun i hi => by have := smf_ge (fun i => (E.R i).n) E.q i hi; unfold smRw at h; omega, by omega, by omega⟩
theorem Writes.wide2 {lo hi lo' hi' : Nat} {w w' : World} (h : Writes lo hi w w') (e1 : lo' ≤ lo) (e2 : hi ≤ hi') : Writes lo' hi' w w' :=
  ⟨h.os, h.tape, h.output, h.size, fun k hk hd => h.block k hk (by omega)⟩
set_option maxHeartbeats 2000000 in
theorem eqEngine_same (E : En) (a a' d d' : Option Addr) (cap cap' dap dap' : Nat) (w : World) (hs : SmallE E) (h : EngAt w a a' E) (h' : EngAt w d d' E) :
    Calls Try.prog 18 #[.agg #[.int .i64 E.nx, .int .i64 E.ck, .slice a E.p cap, .slice a' E.q cap'], .agg #[.int .i64 E.nx, .int .i64 E.ck, .slice d E.p dap, .slice d' E.q dap']] w fun e w' => e = .returned (.bool true) ∧ Below w.heap.size w w' := by
  have HS : Hid (SmallE E) := hs
  have H1 : Hid (EngAt w a a' E) := h
  have H3 : Hid (EngAt w d d' E) := h'
  clear h h' hs
  have hb0 : ∀ o1 o2, Below w.heap.size w ((w.alloc o1).alloc o2) := fun o1 o2 => (((Below.refl _ _).alloc (Nat.le_refl _) _).alloc (by simp) _)
  go_enter Try.func18, Try.ntmps18
  go_wp2_with fail
  refine (eqTxnS_any E.p E.T a d cap dap _ HS.out.p HS.out.t (H1.out.1.below (hb0 _ _)) (H3.out.1.below (hb0 _ _))).mono ?_
  rintro e w1 ⟨rfl, hb1⟩
  obtain ⟨hc, hf⟩ := bcell2 hb1
  have q0 : w1.cell? ⟨w.heap.size, 3, none⟩ = some (.slice a' E.q cap') := by rw [hc _ _ (by simp <;> omega)]; simp [go_sem]
  have q1 : w1.cell? ⟨w.heap.size + 1, 3, none⟩ = some (.slice d' E.q dap') := by rw [hc _ _ (by simp <;> omega)]; simp [go_sem]
  have HB : Hid (Below w.heap.size w w1) := below_then (hb0 _ _) hb1
  clear hc hf hb1 hb0
  go_wp2_with fail
  refine (eqRowS_any E.q E.R a' d' cap' dap' _ HS.out.q HS.out.r (H1.out.2.below HB.out) (H3.out.2.below HB.out)).mono ?_
  rintro e w2 ⟨rfl, hb2⟩
  go_wp2_with fail
  go_ret
  exact ⟨rfl, below_then HB.out hb2⟩
/-- An engine with marks from m on. -/
def mE (m : Int) (E : En) : En := ⟨E.nx, E.ck, E.p, mTx m E.T, E.q, mRw (m + sTx E.T E.p) E.R⟩
/-- How many marks an engine takes. -/
def totE (E : En) : Nat := sTx E.T E.p + sRw E.R E.q
theorem totE_le {E : En} (h : SmallE E) : totE E ≤ 13631488 := by
  have := sTx_eq E.T E.p
  have := sRw_eq E.R E.q
  have h1 := h.st
  have h2 := h.sr
  have h3 := h.p
  have h4 := h.q
  unfold totE; omega
theorem sTx_le {E : En} (h : SmallE E) : sTx E.T E.p ≤ 8388608 := by
  have := sTx_eq E.T E.p
  have h1 := h.st
  have h3 := h.p
  omega
set_option maxHeartbeats 1000000 in
theorem markEngine_any (E : En) (a a' : Option Addr) (cap cap' lo hi : Nat) (m : Int) (w : World) (hs : SmallE E) (hm1 : 0 ≤ m) (hm2 : m ≤ 1048576) (h : OwnE w lo hi a a' E) :
    Calls Try.prog 20 #[.agg #[.int .i64 E.nx, .int .i64 E.ck, .slice a E.p cap, .slice a' E.q cap'], .int .i64 m] w fun e w' => e = .returned (.int .i64 (m + totE E)) ∧ Writes lo hi w w' ∧ OwnE w' lo hi a a' (mE m E) := by
  have HS : Hid (SmallE E) := hs
  have hst := sTx_le hs
  have HT : Hid ((totE E : Int) = sTx E.T E.p + sRw E.R E.q) := by simp [totE, Hid]
  obtain ⟨h0, l1, h1, l2, h2, e1, e2, e3, e4, e5, hp, hl⟩ := h
  have HP : Hid (OwnTx w l1 h1 a E.p E.T) := hp
  have HL : Hid (OwnRw w l2 h2 a' E.q E.R) := hl
  clear hs hp hl
  go_enter Try.func20, Try.ntmps20
  go_wp2_with fail
  refine (markTxnS_any E.p E.T a cap l1 h1 m _ HS.out.p HS.out.st hm1 (by omega) (HP.out.below (below_new _ _))).mono ?_
  rintro e w1 ⟨rfl, hw1, ho1⟩
  have HW : Hid (Writes l1 h1 w w1) := (Writes.of_below (below_new _ _)).trans hw1
  have hlt : h1 ≤ w.heap.size := HP.out.1
  have q1 : w1.cell? ⟨w.heap.size, 3, none⟩ = some (.slice a' E.q cap') := by
    rw [hw1.cell (by simp) (by omega) _]; simp [go_sem]
  have HO1 : Hid (OwnTx w1 l1 h1 a E.p (mTx m E.T)) := ho1
  have hz1 : w.heap.size ≤ w1.heap.size := HW.out.size
  clear hw1 ho1
  go_wp2_with fail
  refine (markRowS_any E.q E.R a' cap' l2 h2 (m + sTx E.T E.p) _ HS.out.q HS.out.sr (by omega) (by omega) (HL.out.writes HW.out (by omega))).mono ?_
  rintro e w2 ⟨rfl, hw2, ho2⟩
  have hz2 : w1.heap.size ≤ w2.heap.size := hw2.size
  go_wp2_with fail
  go_ret
  refine ⟨ret_int (by rw [HT.out]; omega), (HW.out.wide2 e1 e2).trans (hw2.wide2 e3 e4), ?_⟩
  exact OwnE.mk' (by omega) e1 e2 e3 e4 e5 (HO1.out.writes hw2 (by omega)) ho2
set_option maxHeartbeats 1000000 in
theorem heldEngine_any (E : En) (a a' : Option Addr) (cap cap' : Nat) (m : Int) (x y : Int) (w : World) (hs : SmallE E) (hm1 : 0 ≤ m) (hm2 : m ≤ 1048576) (h : EngAt w a a' (mE m E)) :
    Calls Try.prog 21 #[.agg #[.int .i64 x, .int .i64 y, .slice a E.p cap, .slice a' E.q cap'], .int .i64 m] w fun e w' => e = .returned (.int .i64 (m + totE E)) ∧ Below w.heap.size w w' := by
  have HS : Hid (SmallE E) := hs
  have hst := sTx_le hs
  have HT : Hid ((totE E : Int) = sTx E.T E.p + sRw E.R E.q) := by simp [totE, Hid]
  obtain ⟨hp, hl⟩ := h
  have HP : Hid (TxsAt w a E.p (mTx m E.T)) := hp
  have HL : Hid (RwsAt w a' E.q (mRw (m + sTx E.T E.p) E.R)) := hl
  clear hs hp hl
  have hneg : ¬ (m + (sTx E.T E.p : Int) < 0) := by omega
  have hneg2 : ¬ (m + (sTx E.T E.p : Int) + (sRw E.R E.q : Int) < 0) := by omega
  go_enter Try.func21, Try.ntmps21
  go_wp2_with fail
  refine (heldTxnS_any E.p E.T a cap m _ HS.out.p HS.out.st hm1 (by omega) (HP.out.below (below_new _ _))).mono ?_
  rintro e w1 ⟨rfl, rfl⟩
  go_wp2_with fail
  refine (heldRowS_any E.q E.R a' cap' (m + sTx E.T E.p) _ HS.out.q HS.out.sr (by omega) (by omega) (HL.out.below (below_new _ _))).mono ?_
  rintro e w2 ⟨rfl, rfl⟩
  go_wp2_with fail
  go_ret
  exact ⟨ret_int (by rw [HT.out]; omega), below_new _ _⟩
/-! ### answers that are engines -/
theorem eqEngineResult_same (c v : Int) (E : En) (a a' d d' : Option Addr) (cap cap' dap dap' : Nat) (w : World) (hs : SmallE E) (h : EngAt w a a' E) (h' : EngAt w d d' E) :
    Calls Try.prog 8 #[.agg #[.int .i64 c, .int .i64 v, .int .i64 E.nx, .int .i64 E.ck, .slice a E.p cap, .slice a' E.q cap'], .agg #[.int .i64 c, .int .i64 v, .int .i64 E.nx, .int .i64 E.ck, .slice d E.p dap, .slice d' E.q dap']] w fun e w' => e = .returned (.bool true) ∧ Below w.heap.size w w' := by
  have HS : Hid (SmallE E) := hs
  have H1 : Hid (EngAt w a a' E) := h
  have H2 : Hid (EngAt w d d' E) := h'
  clear hs h h'
  have hb0 : ∀ o1 o2, Below w.heap.size w ((w.alloc o1).alloc o2) := fun o1 o2 => (((Below.refl _ _).alloc (Nat.le_refl _) _).alloc (by simp) _)
  go_enter Try.func8, Try.ntmps8
  go_wp2_with fail
  refine (eqEngine_same E a a' d d' cap cap' dap dap' _ HS.out (H1.out.below (hb0 _ _)) (H2.out.below (hb0 _ _))).mono ?_
  rintro e w1 ⟨rfl, hb1⟩
  go_wp2_with fail
  go_ret
  exact ⟨rfl, below_then (hb0 _ _) hb1⟩
theorem markEngineResult_any (c v : Int) (E : En) (a a' : Option Addr) (cap cap' lo hi : Nat) (w : World) (hs : SmallE E) (h : OwnE w lo hi a a' E) :
    Calls Try.prog 11 #[.agg #[.int .i64 c, .int .i64 v, .int .i64 E.nx, .int .i64 E.ck, .slice a E.p cap, .slice a' E.q cap'], .int .i64 1] w fun e w' => e = .returned (.int .i64 (1 + totE E)) ∧ Writes lo hi w w' ∧ OwnE w' lo hi a a' (mE 1 E) := by
  have HS : Hid (SmallE E) := hs
  have HO : Hid (OwnE w lo hi a a' E) := h
  clear hs h
  go_enter Try.func11, Try.ntmps11
  go_wp2_with fail
  refine (markEngine_any E a a' cap cap' lo hi 1 _ HS.out (by omega) (by omega) (HO.out.below (below_new _ _))).mono ?_
  rintro e w1 ⟨rfl, hw, ho⟩
  go_wp2_with fail
  go_ret
  exact ⟨rfl, (Writes.of_below (below_new _ _)).trans hw, ho⟩
theorem heldEngineResult_any (c v : Int) (E : En) (a a' : Option Addr) (cap cap' : Nat) (x y : Int) (w : World) (hs : SmallE E) (h : EngAt w a a' (mE 1 E)) :
    Calls Try.prog 12 #[.agg #[.int .i64 c, .int .i64 v, .int .i64 x, .int .i64 y, .slice a E.p cap, .slice a' E.q cap'], .int .i64 1] w fun e w' => e = .returned (.int .i64 (1 + totE E)) ∧ Below w.heap.size w w' := by
  have HS : Hid (SmallE E) := hs
  have HO : Hid (EngAt w a a' (mE 1 E)) := h
  have hneg : ¬ ((1 : Int) + (totE E : Int) < 0) := by omega
  clear hs h
  go_enter Try.func12, Try.ntmps12
  go_wp2_with fail
  refine (heldEngine_any E a a' cap cap' 1 x y _ HS.out (by omega) (by omega) (HO.out.below (below_new _ _))).mono ?_
  rintro e w1 ⟨rfl, hb⟩
  go_wp2_with fail
  go_ret
  exact ⟨rfl, below_then (below_new _ _) hb⟩
/-! ### opened -/
end Go.Proofs.Ytjdodbiphijjgaa
