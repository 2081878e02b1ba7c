/- Engines in two sets of blocks of their own: marked. -/
import Derived.Test.YtabkgncnanlapaaGreatQVe
namespace Go.Proofs.YtabkgncnanlapaaGreat
open Go.ChangeShapes Go.WideShapes Go.ChangeAt Go.RowKit Go.Deep Go.Joins
set_option linter.unusedVariables false
set_option maxRecDepth 20000

/-- An engine whose two lists lie in two sets of blocks of their own, all from lo on below hi. -/
def OwnE2 (w : World) (lo hi : Nat) (a a' : Option Addr) (E : En) : Prop :=
  hi ≤ w.heap.size ∧ ∃ P Q : Nat → Prop, (∀ x, P x → lo ≤ x ∧ x < hi) ∧ (∀ x, Q x → lo ≤ x ∧ x < hi) ∧ (∀ x, P x → ¬ Q x) ∧ OwnTxP w P a E.p E.T ∧ OwnRwP w Q a' E.q E.R
theorem OwnE2.at {w : World} {lo hi : Nat} {a a' : Option Addr} {E : En} (h : OwnE2 w lo hi a a' E) : EngAt w a a' E := by
  obtain ⟨_, P, Q, _, _, _, hp, hl⟩ := h
  exact ⟨hp.at, hl.at⟩
theorem OwnE2.writes {w w' : World} {lo hi lo' hi' : Nat} {a a' : Option Addr} {E : En} (h : OwnE2 w lo hi a a' E) (hw : Writes lo' hi' w w') (hd : hi ≤ lo' ∨ hi' ≤ lo) : OwnE2 w' lo hi a a' E := by
  obtain ⟨h0, P, Q, k1, k2, k3, hp, hl⟩ := h
  exact ⟨Nat.le_trans h0 hw.size, P, Q, k1, k2, k3, hp.keep hw.size fun x hx h1 => hw.block x h1 (by have := k1 x hx; omega), hl.keep hw.size fun x hx h1 => hw.block x h1 (by have := k2 x hx; omega)⟩
theorem OwnE2.below {w w' : World} {lo hi : Nat} {a a' : Option Addr} {E : En} (h : OwnE2 w lo hi a a' E) (hb : Below w.heap.size w w') : OwnE2 w' lo hi a a' E :=
  h.writes (Writes.of_below (lo := hi) (hi := hi) hb) (.inl (Nat.le_refl _))
theorem OwnE2.wide {w : World} {lo hi lo' hi' : Nat} {a a' : Option Addr} {E : En} (h : OwnE2 w lo hi a a' E) (e1 : lo' ≤ lo) (e2 : hi ≤ hi') (e3 : hi' ≤ w.heap.size) : OwnE2 w lo' hi' a a' E := by
  obtain ⟨h0, P, Q, k1, k2, k3, hp, hl⟩ := h
  exact ⟨e3, P, Q, fun x hx => by have := k1 x hx; omega, fun x hx => by have := k2 x hx; omega, k3, hp, hl⟩
theorem OwnE.to2 {w : World} {lo hi : Nat} {a a' : Option Addr} {E : En} (h : OwnE w lo hi a a' E) : OwnE2 w lo hi a a' E := by
  obtain ⟨h0, l1, h1, l2, h2, k1, k2, k3, k4, k5, hp, hl⟩ := h
  exact ⟨h0, _, _, fun x hx => by omega, fun x hx => by omega, fun x hx hy => by omega, hp.toP, hl.toP⟩
set_option maxHeartbeats 2000000 in
theorem markEngine_2 (E : En) (a a' : Option Addr) (cap cap' lo hi : Nat) (m : Int) (w : World) (hs : SmallE E) (hm1 : 0 ≤ m) (hm2 : m ≤ 1048576) (h : OwnE2 w lo hi a a' E) :
    Calls Tryz.prog 13 #[.agg #[.int .i64 E.nx, .int .i64 E.ck, .slice a E.p cap, .slice a' E.q cap'], .int .i64 m] w fun e w' => e = .returned (.int .i64 (m + totE E)) ∧ Writes lo hi w w' ∧ OwnE2 w' lo hi a a' (mE m E) := by
  have HS : Hid (SmallE E) := hs
  have hst := sTx_le hs
  have HT : Hid ((totE E : Int) = sTx E.T E.p + sRw E.R E.q) := by simp [totE, Hid]
  obtain ⟨h0, P, Q, k1, k2, k3, hp, hl⟩ := h
  have HP : Hid (OwnTxP w P a E.p E.T) := hp
  have HL : Hid (OwnRwP w Q a' E.q E.R) := hl
  have K1 : Hid (∀ x, P x → lo ≤ x ∧ x < hi) := k1
  have K2 : Hid (∀ x, Q x → lo ≤ x ∧ x < hi) := k2
  have K3 : Hid (∀ x, P x → ¬ Q x) := k3
  clear hs hp hl k1 k2 k3
  go_enter Tryz.func13, Tryz.ntmps13
  go_wp2_with fail
  refine (markTxnS_P E.p E.T a cap P m _ HS.out.p HS.out.st hm1 (by omega) (HP.out.keep (below_new _ _).size fun x hx h1 => (below_new _ _).block x h1)).mono ?_
  rintro e w1 ⟨rfl, hw1, ho1⟩
  have HW : Hid (WritesP P w w1) := (WritesP.below (below_new _ _)).trans hw1
  have q1 : w1.cell? ⟨w.heap.size, 3, none⟩ = some (.slice a' E.q cap') := by
    rw [World.cell?_of_block (w := w.alloc _) (a := ⟨w.heap.size, 3, none⟩) (hw1.block w.heap.size (by simp) fun c => by have := K1.out _ c; omega)]; simp [go_sem]
  have HO1 : Hid (OwnTxP w1 P a E.p (mTx m E.T)) := ho1
  have hz1 : w.heap.size ≤ w1.heap.size := HW.out.size
  clear hw1 ho1
  go_wp2_with fail
  refine (markRowS_P E.q E.R a' cap' Q (m + sTx E.T E.p) _ HS.out.q HS.out.sr (by omega) (by omega) (HL.out.keep HW.out.size fun x hx h1 => HW.out.block x h1 fun c => K3.out x c hx)).mono ?_
  rintro e w2 ⟨rfl, hw2, ho2⟩
  have hz2 : w1.heap.size ≤ w2.heap.size := hw2.size
  have HO2 : OwnTxP w2 P a E.p (mTx m E.T) := HO1.out.keep hw2.size fun x hx h1 => hw2.block x h1 (K3.out x hx)
  go_wp2_with fail
  go_ret
  refine ⟨ret_int (by rw [HT.out]; omega), (HW.out.to K1.out).trans (hw2.to K2.out), ?_⟩
  exact ⟨by omega, P, Q, K1.out, K2.out, K3.out, HO2, ho2⟩
theorem markEngineResult_2 (c v : Int) (E : En) (a a' : Option Addr) (cap cap' lo hi : Nat) (w : World) (hs : SmallE E) (h : OwnE2 w lo hi a a' E) :
    Calls Tryz.prog 14 #[.agg #[.int .i64 c, .int .i64 v, .int .i64 E.nx, .int .i64 E.ck, .slice a E.p cap, .slice a' E.q cap'], .int .i64 1] w fun e w' => e = .returned (.int .i64 (1 + totE E)) ∧ Writes lo hi w w' ∧ OwnE2 w' lo hi a a' (mE 1 E) := by
  have HS : Hid (SmallE E) := hs
  have HO : Hid (OwnE2 w lo hi a a' E) := h
  clear hs h
  go_enter Tryz.func14, Tryz.ntmps14
  go_wp2_with fail
  refine (markEngine_2 E a a' cap cap' lo hi 1 _ HS.out (by omega) (by omega) (HO.out.below (below_new _ _))).mono ?_
  rintro e w1 ⟨rfl, hw, ho⟩
  go_wp2_with fail
  go_ret
  exact ⟨rfl, (Writes.of_below (below_new _ _)).trans hw, ho⟩
/-- An answer that is an engine in two sets of blocks of its own. -/
def ERes2 (c v : Int) (G : En) (w : World) (e : Ending) (w' : World) : Prop := ∃ a cap a' cap', e = .returned (.agg #[.int .i64 c, .int .i64 v, .int .i64 G.nx, .int .i64 G.ck, .slice a G.p cap, .slice a' G.q cap']) ∧ Below w.heap.size w w' ∧ OwnE2 w' w.heap.size w'.heap.size a a' G
end Go.Proofs.YtabkgncnanlapaaGreat
