/- Engines copied: what is kept; the program's copy. -/
import Derived.Test.YtjdodbiphijjgaaGreatQRsa
import Derived.Test.YtjdodbiphijjgaaGreatQVw
namespace Go.Proofs.YtjdodbiphijjgaaGreat
open Go.RowKit Go.Deep
set_option linter.unusedVariables false
set_option maxRecDepth 20000

theorem grown_writes {w w' : World} {r : Option Nat} {M : Nat} (hg : w.grownBy w' r) (h : ∀ q, r = some q → M ≤ q) : Writes M w.heap.size w w' :=
  ⟨hg.os, hg.tape, hg.output, hg.size, fun k hk hd => hg.block k hk fun e => by have := h k e.symm; omega⟩
/-- A copy under way: the argument's box, the answer's, the copy's (the three blocks from w.heap.size on). -/
structure CpE (w wr : World) (a : Option Addr) (cap : Nat) (a' : Option Addr) (cap' : Nat) (E : En) (v v' : Value) : Prop where
  below : Below w.heap.size w wr
  hsz : w.heap.size + 3 ≤ wr.heap.size
  e : Box4 wr w.heap.size (.int .i64 E.nx) (.int .i64 E.ck) (.slice a E.p cap) (.slice a' E.q cap')
  r : Box4 wr (w.heap.size + 1) (.int .i64 0) (.int .i64 0) (.slice none 0 0) (.slice none 0 0)
  rf : ∀ o, wr.frozen? ⟨w.heap.size + 1, o, none⟩ = false
  b : Box4 wr (w.heap.size + 2) (.int .i64 E.nx) (.int .i64 E.ck) v v'
  bf : ∀ o, wr.frozen? ⟨w.heap.size + 2, o, none⟩ = false
theorem CpE.far {w wr w2 : World} {a : Option Addr} {cap : Nat} {a' : Option Addr} {cap' : Nat} {E : En} {v v' : Value} {lo hi : Nat} (h : CpE w wr a cap a' cap' E v v') (hw : Writes lo hi wr w2) (hlo : w.heap.size + 3 ≤ lo) : CpE w w2 a cap a' cap' E v v' := by
  have hs := h.hsz
  have f : ∀ b o, b < w.heap.size + 3 → w2.frozen? ⟨b, o, none⟩ = wr.frozen? ⟨b, o, none⟩ := fun b o hb => World.frozen?_of_block (w := wr) (a := ⟨b, o, none⟩) (hw.block b (by omega) (by omega))
  exact ⟨Writes.below h.below hw (by omega), Nat.le_trans hs hw.size, h.e.writes hw (by omega), h.r.writes hw (by omega), fun o => (f _ _ (by omega)).trans (h.rf o), h.b.writes hw (by omega), fun o => (f _ _ (by omega)).trans (h.bf o)⟩
theorem CpE.mono {w wr w2 : World} {a : Option Addr} {cap : Nat} {a' : Option Addr} {cap' : Nat} {E : En} {v v' : Value} (h : CpE w wr a cap a' cap' E v v') (hb : Below wr.heap.size wr w2) : CpE w w2 a cap a' cap' E v v' :=
  h.far (Writes.of_below (lo := wr.heap.size) (hi := wr.heap.size) hb) h.hsz
theorem CpE.setT {w wr : World} {a : Option Addr} {cap : Nat} {a' : Option Addr} {cap' : Nat} {E : En} {v v' : Value} (h : CpE w wr a cap a' cap' E v v') (v2 : Value) : CpE w (wr.setCell ⟨w.heap.size + 2, 2, none⟩ v2) a cap a' cap' E v2 v' := by
  have hs := h.hsz
  have hw : Writes (w.heap.size + 2) (w.heap.size + 3) wr (wr.setCell ⟨w.heap.size + 2, 2, none⟩ v2) := Writes.setCell (Writes.refl _ _ _) (p := ⟨w.heap.size + 2, 2, none⟩) (Nat.le_refl _) (Nat.lt_succ_self _) _
  obtain ⟨c0, c1, c2, c3⟩ := h.b
  exact ⟨Writes.below h.below hw (by omega), Nat.le_trans hs hw.size, h.e.writes hw (by omega), h.r.writes hw (by omega), fun o => by rw [World.frozen?_setCell]; exact h.rf o, ⟨(setO (by omega)).trans c0, (setO (by omega)).trans c1, setS c2, (setO (by omega)).trans c3⟩, fun o => by rw [World.frozen?_setCell]; exact h.bf o⟩
theorem CpE.setR {w wr : World} {a : Option Addr} {cap : Nat} {a' : Option Addr} {cap' : Nat} {E : En} {v v' : Value} (h : CpE w wr a cap a' cap' E v v') (v2 : Value) : CpE w (wr.setCell ⟨w.heap.size + 2, 3, none⟩ v2) a cap a' cap' E v v2 := by
  have hs := h.hsz
  have hw : Writes (w.heap.size + 2) (w.heap.size + 3) wr (wr.setCell ⟨w.heap.size + 2, 3, none⟩ v2) := Writes.setCell (Writes.refl _ _ _) (p := ⟨w.heap.size + 2, 3, none⟩) (Nat.le_refl _) (Nat.lt_succ_self _) _
  obtain ⟨c0, c1, c2, c3⟩ := h.b
  exact ⟨Writes.below h.below hw (by omega), Nat.le_trans hs hw.size, h.e.writes hw (by omega), h.r.writes hw (by omega), fun o => by rw [World.frozen?_setCell]; exact h.rf o, ⟨(setO (by omega)).trans c0, (setO (by omega)).trans c1, (setO (by omega)).trans c2, setS c3⟩, fun o => by rw [World.frozen?_setCell]; exact h.bf o⟩
/-- An answer that is a copy: both lists can still grow. -/
def CAns (E : En) (w : World) (e : Ending) (w' : World) : Prop := ∃ v v' b0 M, e = .returned (.agg #[.int .i64 E.nx, .int .i64 E.ck, v, v']) ∧ Below w.heap.size w w' ∧ w.heap.size ≤ b0 ∧ b0 ≤ M ∧ GrTx b0 M w' v E.p E.T ∧ GrRw M w'.heap.size w' v' E.q E.R
/-- A transaction whose slice is new, written out. -/
theorem lit_tx {w0 : World} {X : Nat} {ai : Option Addr} {ci : Nat} (t : Tx) (hX : w0.heap.size = X) :
    CTx (w0.alloc (.cells #[.int .i64 t.id, .int .i64 t.am, .int .i64 t.st, .int .i64 t.dn, .slice ai t.n ci] 127)) X 0 t ai ci := by
  subst hX
  exact ⟨by simp [go_sem], by simp [go_sem], by simp [go_sem], by simp [go_sem], by simp [go_sem]⟩
theorem lit_rw {w0 : World} {X : Nat} {ai : Option Addr} {ci : Nat} (t : Rw) (hX : w0.heap.size = X) :
    CRw (w0.alloc (.cells #[.int .i64 t.key, .slice ai t.n ci] 173)) X 0 t ai ci := by
  subst hX
  exact ⟨by simp [go_sem], by simp [go_sem]⟩
set_option maxHeartbeats 8000000 in
theorem copyEngine_any (E : En) (a : Option Addr) (cap : Nat) (a' : Option Addr) (cap' : Nat) (w : World) (hp : E.p ≤ 20) (hq : E.q ≤ 32) (ht : ∀ i, i < E.p → (E.T i).n ≤ 60) (hr : ∀ i, i < E.q → (E.R i).n ≤ 12) (h : EngAt w a a' E) :
    Calls Tryz.prog 81 #[.agg #[.int .i64 E.nx, .int .i64 E.ck, .slice a E.p cap, .slice a' E.q cap']] w (CAns E w) := by
  have HX : Hid (EngAt w a a' E) := h
  have HT : Hid (∀ i, i < E.p → (E.T i).n ≤ 60) := ht
  have HR : Hid (∀ i, i < E.q → (E.R i).n ≤ 12) := hr
  clear h ht hr
  have HI : Hid (∀ o1 o2 o3 : Obj, o1 = .cells #[.int .i64 E.nx, .int .i64 E.ck, .slice a E.p cap, .slice a' E.q cap'] 30 → o2 = .cells #[.int .i64 0, .int .i64 0, .slice none 0 0, .slice none 0 0] 30 → o3 = .cells #[.int .i64 E.nx, .int .i64 E.ck, .slice none 0 0, .slice none 0 0] 30 → CpE w (((w.alloc o1).alloc o2).alloc o3) a cap a' cap' E (.slice none 0 0) (.slice none 0 0)) := by
    rintro o1 o2 o3 rfl rfl rfl
    refine ⟨(((Below.refl _ _).alloc (Nat.le_refl _) _).alloc (by simp) _).alloc (by simp; omega) _, by simp, ((Box4.new w _ _ _ _ _).alloc _).alloc _, ?_, fun o => by simp [go_sem], by simp [Box4, go_sem], fun o => by simp [go_sem]⟩
    have h := (Box4.new (w.alloc (.cells #[.int .i64 E.nx, .int .i64 E.ck, .slice a E.p cap, .slice a' E.q cap'] 30)) (.int .i64 0) (.int .i64 0) (.slice none 0 0) (.slice none 0 0) 30).alloc (.cells #[.int .i64 E.nx, .int .i64 E.ck, .slice none 0 0, .slice none 0 0] 30)
    rw [World.size_alloc] at h
    exact h
  go_enter Tryz.func81, Tryz.ntmps81
  go_wp2_with fail
  go_loopw [5, 16] (fun _ i wr => ∃ k : Nat, ∃ v, k ≤ E.p ∧ i = .int .i64 k ∧ Hid (CpE w wr a cap a' cap' E v (.slice none 0 0)) ∧ Hid (GrTx (w.heap.size + 3) wr.heap.size wr v k E.T)) (fun _ i _ => E.p - (intOf i).toNat)
  case atStart => exact ⟨0, .slice none 0 0, Nat.zero_le _, rfl, HI.out _ _ _ rfl rfl rfl, GrTx.nil _ _ _⟩
  case round =>
    obtain ⟨k, v, hk, rfl, HC, HG⟩ := hrel
    have hsz := HC.out.hsz
    by_cases hlt : k < E.p
    · have hlt' : (k : Int) < (E.p : Int) := by omega
      have hk0 : (0 : Int) ≤ (k : Int) := by omega
      rcases HX.out.1.below HC.out.below with h | ⟨bb, off, rfl, hl, hcc⟩
      · omega
      obtain ⟨ai, ci, ⟨x0, x1, x2, x3, x4⟩, hun, -⟩ := hcc k hlt
      have HUN : Hid (UndsAt wr ai (E.T k).n (E.T k).U) := hun
      have HN : Hid ((E.T k).n ≤ 60) := HT.out k hlt
      clear hcc hun HI
      go_wp2_with fail
      have HSW : Hid (∀ o1 o2 : Obj, ((wr.alloc o1).alloc o2).heap.size = wr.heap.size + 1 + 1) := fun _ _ => by simp
      refine (joined1U_any (E.T k).n (E.T k).U ai ci (wr.heap.size + 1) _ (by have := HN.out; omega) (by simp [go_sem]) ((HUN.out.below (below_new _ _)).below (below_new _ _))).mono ?_
      rintro e w2 ⟨a2, c2, rfl, hb2, ho2, hc2⟩
      rw [HSW.out] at ho2
      obtain ⟨hcz, hfz⟩ := bcell2 hb2
      have t0 : w2.cell? ⟨wr.heap.size, 0, none⟩ = some (.int .i64 (E.T k).id) := by rw [hcz _ _ (by simp <;> omega)]; simp [go_sem]
      have t1 : w2.cell? ⟨wr.heap.size, 1, none⟩ = some (.int .i64 (E.T k).am) := by rw [hcz _ _ (by simp <;> omega)]; simp [go_sem]
      have t2 : w2.cell? ⟨wr.heap.size, 2, none⟩ = some (.int .i64 (E.T k).st) := by rw [hcz _ _ (by simp <;> omega)]; simp [go_sem]
      have t3 : w2.cell? ⟨wr.heap.size, 3, none⟩ = some (.int .i64 (E.T k).dn) := by rw [hcz _ _ (by simp <;> omega)]; simp [go_sem]
      have t4 : w2.cell? ⟨wr.heap.size, 4, none⟩ = some (.slice ai (E.T k).n ci) := by rw [hcz _ _ (by simp <;> omega)]; simp [go_sem]
      have tf : ∀ i, w2.frozen? ⟨wr.heap.size, i, none⟩ = false := fun i => by rw [hfz _ _ (by simp <;> omega)]; simp [go_sem]
      have HB2 : Hid (Below wr.heap.size wr w2) := below_then (((Below.refl _ _).alloc (Nat.le_refl _) _)) (below_then (below_new _ _) hb2)
      have HO2 : Hid (OwnUC w2 (wr.heap.size + 1 + 1) w2.heap.size a2 c2 (E.T k).n (E.T k).U) := ho2
      have HC2c : Hid ((E.T k).n ≤ c2) := hc2
      have hs2 : wr.heap.size + 2 ≤ w2.heap.size := by have := hb2.size; rw [HSW.out] at this; omega
      -- the world behind the store into the copy's slice
      have hwS : Writes wr.heap.size (wr.heap.size + 1) w2 (w2.setCell ⟨wr.heap.size, 4, none⟩ (.slice a2 (E.T k).n c2)) := Writes.setCell (Writes.refl _ _ _) (p := ⟨wr.heap.size, 4, none⟩) (Nat.le_refl _) (Nat.lt_succ_self _) _
      have hzS : (w2.setCell ⟨wr.heap.size, 4, none⟩ (.slice a2 (E.T k).n c2)).heap.size = w2.heap.size := by simp [World.setCell]
      have HCS : Hid (∀ o : Obj, CpE w ((w2.setCell ⟨wr.heap.size, 4, none⟩ (.slice a2 (E.T k).n c2)).alloc o) (some ⟨bb, off, none⟩) cap a' cap' E v (.slice none 0 0)) := fun o => ((HC.out.mono HB2.out).far hwS hsz).mono (below_new _ _)
      have HGS : Hid (∀ o : Obj, GrTx (w.heap.size + 3) wr.heap.size ((w2.setCell ⟨wr.heap.size, 4, none⟩ (.slice a2 (E.T k).n c2)).alloc o) v k E.T) := fun o => ((HG.out.below HB2.out).writes hwS (.inr (Nat.le_refl _))).below (below_new _ _)
      have HOS : Hid (∀ o : Obj, OwnUC ((w2.setCell ⟨wr.heap.size, 4, none⟩ (.slice a2 (E.T k).n c2)).alloc o) (wr.heap.size + 1 + 1) w2.heap.size a2 c2 (E.T k).n (E.T k).U) := fun o => (HO2.out.writes hwS (.inr (by omega))).below (below_new _ _)
      have HZS : Hid ((w2.setCell ⟨wr.heap.size, 4, none⟩ (.slice a2 (E.T k).n c2)).heap.size = w2.heap.size) := hzS
      have bb2 : (w2.setCell ⟨wr.heap.size, 4, none⟩ (.slice a2 (E.T k).n c2)).cell? ⟨w.heap.size + 2, 2, none⟩ = some v := ((HC.out.mono HB2.out).far hwS hsz).b.2.2.1
      have hvg : Hid (∀ q, v.ownBlock = some q → w.heap.size + 3 ≤ q) := fun q hq => by
        obtain ⟨_, _, _, _, _, ho, _⟩ := HG.out
        exact (ho.lt q hq).1
      clear hcz hfz hb2 ho2 hc2 hwS hzS HSW x0 x1 x2 x3 x4 HUN HC HG HB2 HO2
      go_wp2_with (at_builtin; refine wpList_grTx _ rfl (.tmp 26) (.tmp 28) rfl (w.heap.size + 3) wr.heap.size v k E.T rfl (HGS.out _) w2.heap.size 0 1 (E.T k) a2 c2 (wr.heap.size + 1 + 1) w2.heap.size rfl (lit_tx (E.T k) HZS.out) (.inr ⟨by omega, by rw [World.size_alloc, HZS.out]; omega⟩) (by omega) HC2c.out (HOS.out _) (by omega) ?_)
      intro g cap2 w3 hgr hg
      have hcp := (HCS.out _).far (grown_writes hg hvg.out) (Nat.le_refl _)
      obtain ⟨-, -, c22, -⟩ := hcp.b
      have cf2 := hcp.bf
      have HC3 : Hid (CpE w (w3.setCell ⟨w.heap.size + 2, 2, none⟩ (.slice (some ⟨g, 0, none⟩) (k + 1) cap2)) (some ⟨bb, off, none⟩) cap a' cap' E (.slice (some ⟨g, 0, none⟩) (k + 1) cap2) (.slice none 0 0)) := hcp.setT _
      have HG3 : Hid (GrTx (w.heap.size + 3) (w3.setCell ⟨w.heap.size + 2, 2, none⟩ (.slice (some ⟨g, 0, none⟩) (k + 1) cap2)).heap.size (w3.setCell ⟨w.heap.size + 2, 2, none⟩ (.slice (some ⟨g, 0, none⟩) (k + 1) cap2)) (.slice (some ⟨g, 0, none⟩) (k + 1) cap2) (k + 1) E.T) := by
        have hz : (w3.setCell ⟨w.heap.size + 2, 2, none⟩ (.slice (some ⟨g, 0, none⟩) (k + 1) cap2)).heap.size = w3.heap.size := by simp [World.setCell]
        show GrTx _ _ _ _ _ _
        rw [hz]
        refine GrTx.congr (hgr.writes (Writes.setCell (Writes.refl (w.heap.size + 2) (w.heap.size + 3) _) (p := ⟨w.heap.size + 2, 2, none⟩) (Nat.le_refl _) (Nat.lt_succ_self _) _) (.inl (Nat.le_refl _))) fun i hi => ?_
        by_cases e : i = k
        · subst e; exact upf_eq _ _ _
        · exact upf_ne _ _ e
      clear hcp hgr hg HCS HGS HOS HZS t0 t1 t2 t3 t4 tf bb2 hvg
      go_wp2_with fail
      go_roundw
      case rel => exact ⟨k + 1, _, hlt, by go_num, HC3, HG3⟩
      case measure => simp [intOf]; omega
    · have hkn : k = E.p := by omega
      have hnl : ¬ ((k : Int) < (E.p : Int)) := by omega
      have HG1 : Hid (GrTx (w.heap.size + 3) wr.heap.size wr v E.p E.T) := by rw [hkn] at HG; exact HG
      obtain ⟨b0, b1, b2, b3⟩ := HC.out.e
      clear HG HI
      go_wp2_with fail
      clear b0 b1 b2 b3
      obtain ⟨w1, rfl⟩ : ∃ x, x = wr := ⟨wr, rfl⟩
      go_loopw [7, 35] (fun _ i wy => ∃ k : Nat, ∃ v', k ≤ E.q ∧ i = .int .i64 k ∧ Hid (CpE w wy a cap a' cap' E v v') ∧ Hid (GrTx (w.heap.size + 3) w1.heap.size wy v E.p E.T) ∧ Hid (GrRw w1.heap.size wy.heap.size wy v' k E.R)) (fun _ i _ => E.q - (intOf i).toNat)
      case atStart => exact ⟨0, .slice none 0 0, Nat.zero_le _, rfl, HC, HG1, GrRw.nil _ _ _⟩
      case round =>
        clear hk hkn hnl hlt HC HG1
        obtain ⟨d, v', hk, rfl, HC, HG1, HG⟩ := hrel
        have hM : w.heap.size + 3 ≤ w1.heap.size := hsz
        have hsz2 := HC.out.hsz
        have hMw : w1.heap.size ≤ wr.heap.size := HG1.out.1
        by_cases hlt : d < E.q
        · have hlt' : (d : Int) < (E.q : Int) := by omega
          have hk0 : (0 : Int) ≤ (d : Int) := by omega
          rcases HX.out.2.below HC.out.below with h | ⟨bb, off, rfl, hl, hcc⟩
          · omega
          obtain ⟨ai, ci, ⟨x0, x1⟩, hun, -⟩ := hcc d hlt
          have HUN : Hid (VersAt wr ai (E.R d).n (E.R d).U) := hun
          have HN : Hid ((E.R d).n ≤ 12) := HR.out d hlt
          clear hcc hun
          go_wp2_with fail
          have HSW : Hid (∀ o1 o2 : Obj, ((wr.alloc o1).alloc o2).heap.size = wr.heap.size + 1 + 1) := fun _ _ => by simp
          refine (joined1_anyw (E.R d).n (E.R d).U ai ci (wr.heap.size + 1) _ (by have := HN.out; omega) (by simp [go_sem]) ((HUN.out.below (below_new _ _)).below (below_new _ _))).mono ?_
          rintro e w2 ⟨a2, c2, rfl, hb2, ho2, hc2⟩
          rw [HSW.out] at ho2
          obtain ⟨hcz, hfz⟩ := bcell2 hb2
          have t0 : w2.cell? ⟨wr.heap.size, 0, none⟩ = some (.int .i64 (E.R d).key) := by rw [hcz _ _ (by simp <;> omega)]; simp [go_sem]
          have t1 : w2.cell? ⟨wr.heap.size, 1, none⟩ = some (.slice ai (E.R d).n ci) := by rw [hcz _ _ (by simp <;> omega)]; simp [go_sem]
          have tf : ∀ i, w2.frozen? ⟨wr.heap.size, i, none⟩ = false := fun i => by rw [hfz _ _ (by simp <;> omega)]; simp [go_sem]
          have HB2 : Hid (Below wr.heap.size wr w2) := below_then (((Below.refl _ _).alloc (Nat.le_refl _) _)) (below_then (below_new _ _) hb2)
          have HO2 : Hid (Own4 w2 (wr.heap.size + 1 + 1) w2.heap.size a2 (E.R d).n (E.R d).U) := ho2
          have HC2c : Hid ((E.R d).n ≤ c2) := hc2
          have hs2 : wr.heap.size + 2 ≤ w2.heap.size := by have := hb2.size; rw [HSW.out] at this; omega
          have hwS : Writes wr.heap.size (wr.heap.size + 1) w2 (w2.setCell ⟨wr.heap.size, 1, none⟩ (.slice a2 (E.R d).n c2)) := Writes.setCell (Writes.refl _ _ _) (p := ⟨wr.heap.size, 1, none⟩) (Nat.le_refl _) (Nat.lt_succ_self _) _
          have hzS : (w2.setCell ⟨wr.heap.size, 1, none⟩ (.slice a2 (E.R d).n c2)).heap.size = w2.heap.size := by simp [World.setCell]
          have HCS : Hid (∀ o : Obj, CpE w ((w2.setCell ⟨wr.heap.size, 1, none⟩ (.slice a2 (E.R d).n c2)).alloc o) a cap (some ⟨bb, off, none⟩) cap' E v v') := fun o => ((HC.out.mono HB2.out).far hwS hsz2).mono (below_new _ _)
          have HGT : Hid (∀ o : Obj, GrTx (w.heap.size + 3) w1.heap.size ((w2.setCell ⟨wr.heap.size, 1, none⟩ (.slice a2 (E.R d).n c2)).alloc o) v E.p E.T) := fun o => ((HG1.out.below HB2.out).writes hwS (.inr hMw)).below (below_new _ _)
          have HGS : Hid (∀ o : Obj, GrRw w1.heap.size wr.heap.size ((w2.setCell ⟨wr.heap.size, 1, none⟩ (.slice a2 (E.R d).n c2)).alloc o) v' d E.R) := fun o => ((HG.out.below HB2.out).writes hwS (.inr (Nat.le_refl _))).below (below_new _ _)
          have HOS : Hid (∀ o : Obj, Own4 ((w2.setCell ⟨wr.heap.size, 1, none⟩ (.slice a2 (E.R d).n c2)).alloc o) (wr.heap.size + 1 + 1) w2.heap.size a2 (E.R d).n (E.R d).U) := fun o => (HO2.out.writes hwS (.inr (by omega))).below (below_new _ _)
          have HZS : Hid ((w2.setCell ⟨wr.heap.size, 1, none⟩ (.slice a2 (E.R d).n c2)).heap.size = w2.heap.size) := hzS
          have bb2 : (w2.setCell ⟨wr.heap.size, 1, none⟩ (.slice a2 (E.R d).n c2)).cell? ⟨w.heap.size + 2, 3, none⟩ = some v' := ((HC.out.mono HB2.out).far hwS hsz2).b.2.2.2
          have hvg : Hid (∀ q, v'.ownBlock = some q → w1.heap.size ≤ q) := fun q hq => by
            obtain ⟨_, _, _, _, _, ho, _⟩ := HG.out
            exact (ho.lt q hq).1
          clear hcz hfz hb2 ho2 hc2 hwS hzS HSW x0 x1 HUN HC HG HG1 HB2 HO2
          go_wp2_with (at_builtin; refine wpList_grRw _ rfl (.tmp 45) (.tmp 47) rfl w1.heap.size wr.heap.size v' d E.R rfl (HGS.out _) w2.heap.size 0 1 (E.R d) a2 c2 (wr.heap.size + 1 + 1) w2.heap.size rfl (lit_rw (E.R d) HZS.out) (.inr ⟨by omega, by rw [World.size_alloc, HZS.out]; omega⟩) (by omega) HC2c.out (HOS.out _) (by omega) ?_)
          intro g cap2 w3 hgr hg
          have hwg := grown_writes hg hvg.out
          have hcp := (HCS.out _).far hwg hM
          obtain ⟨-, -, -, c22⟩ := hcp.b
          have cf2 := hcp.bf
          have hwF : Writes (w.heap.size + 2) (w.heap.size + 3) w3 (w3.setCell ⟨w.heap.size + 2, 3, none⟩ (.slice (some ⟨g, 0, none⟩) (d + 1) cap2)) := Writes.setCell (Writes.refl (w.heap.size + 2) (w.heap.size + 3) _) (p := ⟨w.heap.size + 2, 3, none⟩) (Nat.le_refl _) (Nat.lt_succ_self _) _
          have HC3 : Hid (CpE w (w3.setCell ⟨w.heap.size + 2, 3, none⟩ (.slice (some ⟨g, 0, none⟩) (d + 1) cap2)) a cap (some ⟨bb, off, none⟩) cap' E v (.slice (some ⟨g, 0, none⟩) (d + 1) cap2)) := hcp.setR _
          have HGT3 : Hid (GrTx (w.heap.size + 3) w1.heap.size (w3.setCell ⟨w.heap.size + 2, 3, none⟩ (.slice (some ⟨g, 0, none⟩) (d + 1) cap2)) v E.p E.T) := ((HGT.out _).writes hwg (.inr (Nat.le_refl _))).writes hwF (.inl (Nat.le_refl _))
          have HG3 : Hid (GrRw w1.heap.size (w3.setCell ⟨w.heap.size + 2, 3, none⟩ (.slice (some ⟨g, 0, none⟩) (d + 1) cap2)).heap.size (w3.setCell ⟨w.heap.size + 2, 3, none⟩ (.slice (some ⟨g, 0, none⟩) (d + 1) cap2)) (.slice (some ⟨g, 0, none⟩) (d + 1) cap2) (d + 1) E.R) := by
            have hz : (w3.setCell ⟨w.heap.size + 2, 3, none⟩ (.slice (some ⟨g, 0, none⟩) (d + 1) cap2)).heap.size = w3.heap.size := by simp [World.setCell]
            show GrRw _ _ _ _ _ _
            rw [hz]
            refine GrRw.congr (hgr.writes hwF (.inl hM)) fun i hi => ?_
            by_cases e : i = d
            · subst e; exact upf_eq _ _ _
            · exact upf_ne _ _ e
          clear hcp hgr hg HCS HGS HOS HZS HGT t0 t1 tf bb2 hvg hwg hwF
          go_wp2_with fail
          go_roundw
          case rel => exact ⟨d + 1, _, hlt, by go_num, HC3, HGT3, HG3⟩
          case measure => simp [intOf]; omega
        · have hkn : d = E.q := by omega
          subst hkn
          have hnl : ¬ ((E.q : Int) < (E.q : Int)) := by omega
          obtain ⟨va, vc, rfl, -, -⟩ := HG1.out.own
          obtain ⟨va', vc', rfl, -, -⟩ := HG.out.own
          obtain ⟨b0, b1, b2, b3⟩ := HC.out.b
          obtain ⟨r0, r1, r2, r3⟩ := HC.out.r
          have rf := HC.out.rf
          have HBF := HC.out.below
          have HF : Hid (∀ w7, Writes (w.heap.size + 1) (w.heap.size + 2) wr w7 → w7.heap.size = wr.heap.size → CAns E w (.returned (.agg #[.int .i64 E.nx, .int .i64 E.ck, .slice va E.p vc, .slice va' E.q vc'])) w7) := fun w7 hw hs => by
            refine ⟨_, _, w.heap.size + 3, w1.heap.size, rfl, Writes.below HBF hw (by omega), by omega, hM, HG1.out.writes hw (.inl (by omega)), ?_⟩
            rw [hs]
            exact HG.out.writes hw (.inl (by omega))
          clear HC HG HG1 HBF
          go_wp2_with fail
          refine bodyPost_ret (v := .agg #[.int .i64 E.nx, .int .i64 E.ck, .slice va E.p vc, .slice va' E.q vc']) (by simp [results, Tryz.results81, go_sem, *]) rfl ?_
          refine HF.out _ ?_ (by simp [World.setCell])
          repeat (first | with_reducible exact Writes.refl _ _ _ | with_reducible refine Writes.setCell ?_ (by first | omega | (simp <;> omega)) (by first | omega | (simp <;> omega)) _)
end Go.Proofs.YtjdodbiphijjgaaGreat
