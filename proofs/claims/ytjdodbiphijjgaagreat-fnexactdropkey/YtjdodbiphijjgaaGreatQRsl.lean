/- spec.l6Write: the walk, the key being there. -/
import Derived.Test.YtjdodbiphijjgaaGreatQRsi
namespace Go.Proofs.YtjdodbiphijjgaaGreat
open Go.RowKit Go.Deep Go.Shelf
set_option linter.unusedVariables false
set_option linter.unusedSimpArgs false
set_option maxRecDepth 20000

theorem l6SetR_any (B : Nat) (xs : List HRw) (x0 y : HRw) (p q : Nat) (ra : Option Addr) (rc : Nat) (w : World) (hq : xs.length = q) (hle : q ≤ 32) (c3 : w.cell? ⟨B, 3, none⟩ = some (.slice ra q rc)) (f3 : w.frozen? ⟨B, 3, none⟩ = false) (hat : HAtRw w ra xs) (hri : RiRw xs) (hp : xs[p]? = some x0) (hk : x0.t.key = y.t.key) (hn0 : y.t.n ≠ 0) :
    Calls Tryz.prog 115 #[.pointer (some ⟨B, 0, none⟩), .int .i64 y.t.key, .slice y.A y.t.n y.c] w (SeN true B xs p y w) := by
  refine (l6Set_any B xs x0 y p q ra rc w hq hle c3 f3 hat hri hp hk).mono ?_
  rintro e w' ⟨rfl, v, u, h1, h2, h3⟩
  have e9 : setH xs p y = skH true p y xs := by unfold setH skH; rw [if_neg hn0]; simp
  rw [e9] at h3
  exact ⟨rfl, v, u, h1, h2, h3⟩
theorem write_endP {E : En} {j : Nat} {key : Int} {m : Nat} {S : Nat → Vr} {W8 u w9 : World} {N0 B b0' M N2 lo hi ug N5 tb pp : Nat} {xs : List HRw} {y : HRw} {f : Bool} {ra : Option Addr} {rc q2 : Nat} {T' : Nat → Tx} (hpp : plN E.R key E.q = pp)
    (hxs : xs.map HRw.t = rwL E) (hf : f = plF E.q E.R key pp) (hyt : y.t = ⟨key, m, S⟩) (hyl : y.l = lo) (hyh : y.h = hi) (hyc : m ≤ y.c) (hax : ApRw xs) (hct : ∀ x ∈ xs, CtRw W8 M N2 x) (hyo : Own4 W8 lo hi y.A m S)
    (hb : N0 ≤ b0') (hbM : b0' ≤ M) (hMN : M ≤ N2) (hB : B = N2) (hN5 : N2 < lo) (hhi : hi ≤ N5) (hN25 : N2 < N5) (hug : ug < M ∨ ug = N5) (hug8 : ug < W8.heap.size) (hug0 : b0' ≤ ug)
    (hT : OwnTxP W8 (fun x => (b0' ≤ x ∧ x < M) ∨ (M ≤ ug ∧ ug ≤ x ∧ x < ug + 1)) (some ⟨tb, 0, none⟩) E.p T')
    (hbu : Below W8.heap.size W8 u) (hw9 : w9 = u.setCell ⟨B, 3, none⟩ (.slice ra q2 rc)) (hl : (skH f pp y xs).length = q2) (ho : u.ownsRow W8.heap.size 173 2 (.slice ra q2 rc) q2 (hbRw (skH f pp y xs))) (hBc : B < W8.heap.size) :
    q2 = (wrL E key m S).length ∧ ∃ P Q : Nat → Prop, (∀ x, P x → N0 ≤ x ∧ x < w9.heap.size) ∧ (∀ x, Q x → N0 ≤ x ∧ x < w9.heap.size) ∧ (∀ x, P x → ¬ Q x) ∧ OwnTxP w9 P (some ⟨tb, 0, none⟩) E.p T' ∧ OwnRwP w9 Q ra q2 (fun x => (wrL E key m S).getD x zRw) := by
  subst hpp
  exact write_end (E := E) (j := j) (key := key) hxs hf hyt hyl hyh hyc hax hct hyo hb hbM hMN hB hN5 hhi hN25 hug hug8 hug0 hT hbu hw9 hl ho hBc
set_option maxHeartbeats 32000000 in
theorem l6Write_old (E : En) (a : Option Addr) (cap : Nat) (a' : Option Addr) (cap' : Nat) (j : Nat) (key v : Int) (g : Bool) (w : World) (h0 : eF E = 0) (hj : j < E.p) (hid : (E.T j).id ≠ 0) (hF : plF E.q E.R key (plN E.R key E.q) = true) (h : EngAt w a a' E) :
    Calls Tryz.prog 63 #[.agg #[.int .i64 E.nx, .int .i64 E.ck, .slice a E.p cap, .slice a' E.q cap'], .int .i64 j, .int .i64 key, .bool g, .int .i64 v] w (ERes2 (wwC E j key) 0 (wwE E j key g v) w) := by
  have HID : Hid ((E.T j).id ≠ 0) := hid
  have HX : Hid (EngAt w a a' E) := h
  have HSO : Hid (∀ j, j < E.q → ∀ i, i < j → (E.R i).key < (E.R j).key) := keys_rise (eF_good h0).2.2.2
  have HR12 : Hid (∀ i, i < E.q → (E.R i).n ≤ 12) := rows12 h0
  have HU60 : Hid (∀ i, i < E.p → (E.T i).n ≤ 60) := undos60 h0
  have hq32 := (eF_pq h0).2
  have hp20 := (eF_pq h0).1
  have hmo : Tryz.prog.follows .mixedOrders = true := by kernel_rfl
  have hn60 := HU60.out j hj
  have HPL : Hid (Pl E.q E.R key (plN E.R key E.q)) := pl_N HSO.out
  have HBX : Hid (∀ o1 o2 : Obj, o1 = .cells #[.int .i64 E.nx, .int .i64 E.ck, .slice a E.p cap, .slice a' E.q cap'] 30 → o2 = .cells #[.int .i64 0, .int .i64 0, .int .i64 0, .int .i64 0, .slice none 0 0, .slice none 0 0] 32 →
      Box4 ((w.alloc o1).alloc o2) w.heap.size (.int .i64 E.nx) (.int .i64 E.ck) (.slice a E.p cap) (.slice a' E.q cap') ∧ Box6 ((w.alloc o1).alloc o2) (w.heap.size + 1) (.int .i64 0) (.int .i64 0) (.int .i64 0) (.int .i64 0) (.slice none 0 0) (.slice none 0 0) ∧ (∀ i, ((w.alloc o1).alloc o2).frozen? ⟨w.heap.size + 1, i, none⟩ = false) ∧ Below w.heap.size w ((w.alloc o1).alloc o2) ∧ ((w.alloc o1).alloc o2).heap.size = w.heap.size + 2) := by
    rintro o1 o2 rfl rfl
    exact ⟨(Box4.new w _ _ _ _ _).alloc _, by simp [Box6, go_sem], fun i => by simp [go_sem], ((Below.refl _ _).alloc (Nat.le_refl _) _).alloc (by simp) _, by simp⟩
  clear h
  go_enter Tryz.func63, Tryz.ntmps63
  go_upto_region 1 with fail
  obtain ⟨hb4, hb2, hbf, hbw, hbs⟩ := HBX.out _ _ rfl rfl
  generalize ((w.alloc (.cells #[.int .i64 E.nx, .int .i64 E.ck, .slice a E.p cap, .slice a' E.q cap'] 30)).alloc (.cells #[.int .i64 0, .int .i64 0, .int .i64 0, .int .i64 0, .slice none 0 0, .slice none 0 0] 32)) = w0 at *
  have HB0 : Hid (Below w.heap.size w w0) := hbw
  have HA0 : Hid (Box6 w0 (w.heap.size + 1) (.int .i64 0) (.int .i64 0) (.int .i64 0) (.int .i64 0) (.slice none 0 0) (.slice none 0 0) ∧ ∀ i, w0.frozen? ⟨w.heap.size + 1, i, none⟩ = false) := ⟨hb2, hbf⟩
  have HZ0 : Hid (w0.heap.size = w.heap.size + 2) := hbs
  obtain ⟨b0, b1, b2, b3⟩ := hb4
  clear hb2 hbf hbw hbs HBX
  go_wp2_with fail
  refine (l6Copy_any E a cap a' cap' w0 hp20 hq32 HU60.out HR12.out (HX.out.below HB0.out)).mono ?_
  rintro e w2 ⟨vt, vr, b0', M, rfl, hb2, hb0, hM, hgt, hgr⟩
  obtain ⟨tb, vc, rfl, ht1, ht2, htf, ui, uc, ul, uh, hCT, huc, hul, hut, hOU, hput⟩ := hgt.putU j hj
  obtain ⟨vb, vd, rfl, hvd, -⟩ := hgr.own
  have hs2 := hb2.size
  have hMz : M ≤ w2.heap.size := hgt.1
  have HA2 : Hid (Box6 w2 (w.heap.size + 1) (.int .i64 0) (.int .i64 0) (.int .i64 0) (.int .i64 0) (.slice none 0 0) (.slice none 0 0) ∧ ∀ i, w2.frozen? ⟨w.heap.size + 1, i, none⟩ = false) := ⟨HA0.out.1.below hb2, fun i => ((bcell2 hb2).2 _ _ HA0.out.1.lt).trans (HA0.out.2 i)⟩
  have HB2 : Hid (Below w.heap.size w w2) := below_then HB0.out hb2
  obtain ⟨xs, lxs, dxs, oxs, vxs, axs, cxs⟩ := hgr.list
  have HXS : Hid (xs.map HRw.t = rwL E) := dxs
  have HAX : Hid (ApRw xs) := axs
  have HCX : Hid (∀ x ∈ xs, CtRw w2 M w2.heap.size x) := fun x hx => (cxs x hx).2
  have HOX : Hid (w2.ownsRow M 173 2 (.slice vb E.q vd) E.q (hbRw xs)) := oxs
  have HLX : Hid (xs.length = E.q) := lxs
  have HVX : Hid (∀ q, (Value.slice vb E.q vd).ownBlock = some q → q < w2.heap.size) := vxs
  have HOU : Hid (OwnUC w2 ul uh ui uc (E.T j).n (E.T j).U ∧ (uh = 0 ∨ b0' ≤ ul ∧ uh ≤ M) ∧ (tb < ul ∨ uh ≤ tb)) := ⟨hOU, hul, hut⟩
  have HBM : Hid (w.heap.size + 2 ≤ b0' ∧ b0' ≤ M ∧ M ≤ w2.heap.size ∧ b0' ≤ tb ∧ tb < M) := by
    have := HZ0.out
    exact ⟨by omega, hM, hMz, ht1, ht2⟩
  have HCT : Hid (CTx w2 tb (j * 5) (E.T j) ui uc ∧ (∀ i, w2.frozen? ⟨tb, i, none⟩ = false) ∧ (E.T j).n ≤ uc) := ⟨hCT, htf, huc⟩
  have HPT : Hid (∀ (w1 : World) (t : Tx) (a2 : Option Addr) (c2 lo hi : Nat), w2.heap.size ≤ w1.heap.size → (∀ x, b0' ≤ x → x < M → x ≠ tb → (x < ul ∨ uh ≤ x) → w1.heap[x]? = w2.heap[x]?) → (∀ o, (o < j * 5 ∨ j * 5 + 4 < o) → w1.cell? ⟨tb, o, none⟩ = w2.cell? ⟨tb, o, none⟩) →
        (∀ i, w1.frozen? ⟨tb, i, none⟩ = w2.frozen? ⟨tb, i, none⟩) → CTx w1 tb (j * 5) t a2 c2 → t.n ≤ c2 → OwnU w1 lo hi a2 t.n t.U → ((ul ≤ lo ∧ hi ≤ uh) ∨ M ≤ lo) → OwnTxP w1 (fun x => (b0' ≤ x ∧ x < M) ∨ (M ≤ lo ∧ lo ≤ x ∧ x < hi)) (some ⟨tb, 0, none⟩) E.p (upf E.T j t)) := hput
  clear hb2 hgt hgr hOU b0 b1 b2 b3 HA0 HB0 HZ0 hb0 hM hMz hput hul hut hCT ht1 ht2 htf huc dxs axs cxs oxs vxs lxs
  go_upto_region 2 with fail
  obtain ⟨W3, hW3⟩ : ∃ x, x = w2.alloc (.cells #[.int .i64 E.nx, .int .i64 E.ck, .slice (some ⟨tb, 0, none⟩) E.p vc, .slice vb E.q vd] 30) := ⟨_, rfl⟩
  have hb3 : Below w2.heap.size w2 W3 := by rw [hW3]; exact below_new _ _
  have hz3 : W3.heap.size = w2.heap.size + 1 := by rw [hW3]; exact World.size_alloc _ _
  have hbo : Box4 W3 w2.heap.size (.int .i64 E.nx) (.int .i64 E.ck) (.slice (some ⟨tb, 0, none⟩) E.p vc) (.slice vb E.q vd) := by rw [hW3]; exact Box4.new _ _ _ _ _ _
  have hfo : ∀ i, W3.frozen? ⟨w2.heap.size, i, none⟩ = false := by rw [hW3]; exact fun i => by simp [go_sem]
  rw [← hW3]
  clear hW3
  have HB3 : Hid (Below w2.heap.size w2 W3) := hb3
  have HW3 : Hid (W3.heap.size = w2.heap.size + 1) := hz3
  have HBO : Hid (Box4 W3 w2.heap.size (.int .i64 E.nx) (.int .i64 E.ck) (.slice (some ⟨tb, 0, none⟩) E.p vc) (.slice vb E.q vd) ∧ ∀ i, W3.frozen? ⟨w2.heap.size, i, none⟩ = false) := ⟨hbo, hfo⟩
  have HR3 : Hid (Box6 W3 (w.heap.size + 1) (.int .i64 0) (.int .i64 0) (.int .i64 0) (.int .i64 0) (.slice none 0 0) (.slice none 0 0) ∧ ∀ i, W3.frozen? ⟨w.heap.size + 1, i, none⟩ = false) := ⟨HA2.out.1.below hb3, fun i => ((bcell2 hb3).2 _ _ HA2.out.1.lt).trans (HA2.out.2 i)⟩
  have HB03 : Hid (Below w.heap.size w W3) := below_then HB2.out HB3.out
  have HC3 : Hid (CTx W3 tb (j * 5) (E.T j) ui uc) := HCT.out.1.block (hb3.block _ (by have := HBM.out; omega))
  have HHA : Hid (HAtRw W3 vb xs) := by
    obtain ⟨a9, c9, e9, -, h9⟩ := HAtRw.of_row HLX.out HOX.out
    injection e9 with e9
    subst e9
    exact h9.below hb3
  have HRA : Hid (RwsAt W3 vb E.q E.R) := by
    rcases HHA.out with h1 | ⟨b, off, e, hl, hc⟩
    · left; rw [← HLX.out, h1]; rfl
    · refine .inr ⟨b, off, e, hl, fun i hi => ?_⟩
      obtain ⟨x, gi⟩ : ∃ x, xs[i]? = some x := ⟨_, List.getElem?_eq_getElem (by rw [HLX.out]; exact hi)⟩
      have e2 : E.R i = x.t := (xs_at HXS.out gi).symm
      rw [e2]
      have hx := HCX.out x (List.mem_of_getElem? gi)
      exact ⟨_, _, hc i x gi, hx.2.2.at.below hb3, hx.2.1⟩
  obtain ⟨b0, b1, b2, b3⟩ := hbo
  have hj1 : (j : Int) < (E.p : Int) := by omega
  have hj0 : (0 : Int) ≤ (j : Int) := by omega
  clear hb3 hfo hz3
  go_wp2_with fail
  refine (l6Row_any E.q E.R w2.heap.size vb vd key _ (by omega) b3 HRA.out).mono ?_
  rintro e w4 ⟨rfl, hw4⟩
  obtain rfl := hw4.symm
  have HFF : Hid (plF E.q E.R key (plN E.R key E.q) = true) := hF
  obtain ⟨hpq, hfr⟩ : plN E.R key E.q < E.q ∧ fR E.q E.R key = (plN E.R key E.q : Int) := by
    rcases pl_fR HSO.out HPL.out with ⟨h9, -⟩ | ⟨-, h8, h7⟩
    · rw [hF] at h9; cases h9
    · exact ⟨h8, h7⟩
  obtain ⟨x0, hx0⟩ : ∃ x, xs[plN E.R key E.q]? = some x := ⟨_, List.getElem?_eq_getElem (by rw [HLX.out]; exact hpq)⟩
  have hxr : x0.t = E.R (plN E.R key E.q) := xs_at HXS.out hx0
  have hxk : (E.R (plN E.R key E.q)).key = key := by
    have := hF
    unfold plF at this
    simp only [Bool.and_eq_true, decide_eq_true_eq, beq_iff_eq] at this
    exact this.2
  have HPX : Hid (xs[plN E.R key E.q]? = some x0 ∧ x0.t.key = key) := ⟨hx0, by rw [hxr]; exact hxk⟩
  have HCK : Hid (ckN E key = x0.t.n ∧ ckU E key = x0.t.U) := by
    have h9 : 0 ≤ fR E.q E.R key := by rw [hfr]; omega
    constructor
    · unfold ckN; rw [if_pos h9, hfr, Int.toNat_natCast, hxr]
    · unfold ckU; rw [if_pos h9, hfr, Int.toNat_natCast, hxr]
  have hn12 : ckN E key ≤ 12 := by rw [HCK.out.1, hxr]; exact HR12.out _ hpq
  rcases HHA.out with h9 | ⟨ob, oo, rfl, hol, hoc⟩
  · rw [h9] at hx0; simp at hx0
  obtain ⟨-, y1⟩ := hoc _ x0 hx0
  rw [← HCK.out.1] at y1
  have HKV : Hid (VersAt W3 x0.A (ckN E key) (ckU E key)) := by
    rw [Hid, HCK.out.1, HCK.out.2]
    exact (HCX.out x0 (List.mem_of_getElem? hx0)).2.2.at.below HB3.out
  obtain ⟨ka, hka⟩ : ∃ x, x = x0.A := ⟨_, rfl⟩
  obtain ⟨kc, hkc⟩ : ∃ x, x = x0.c := ⟨_, rfl⟩
  rw [← hka] at HKV y1
  rw [← hkc] at y1
  rw [hfr]
  generalize hpp : plN E.R key E.q = pp at *
  have HPP : Hid (plN E.R key E.q = pp) := hpp
  have hp0 : (0 : Int) ≤ (pp : Int) := by omega
  have hp1 : (pp : Int) < (E.q : Int) := by omega
  have b3a := fun o : Obj => cell_alloc b3 o
  have y1a := fun o : Obj => cell_alloc y1 o
  clear hoc hka hkc hfr hF hxr hxk hx0 hpp
  go_upto_region 7 with fail
  obtain ⟨U5, hU5⟩ : ∃ x, x = W3.alloc (.cells #[] 179) := ⟨_, rfl⟩
  have HB5 : Hid (Below W3.heap.size W3 U5) := by rw [hU5]; exact below_new _ _
  rw [← hU5]
  clear hU5 b3a y1a y1
  clear b0 b1 b2 b3
  obtain ⟨c0, c1, c2, c3, c4⟩ := HC3.out.block (HB5.out.block _ (by have := HBM.out; have := HW3.out; omega))
  go_upto_region 7 with fail
  go_wp2_with fail
  refine (l6View_any (E.T j) tb (j * 5) ui uc _ (HC3.out.block (HB5.out.block _ (by have := HBM.out; have := HW3.out; omega)))).mono ?_
  rintro e w6 ⟨rfl, hb6⟩
  have HB6 : Hid (Below W3.heap.size W3 w6) := below_then HB5.out hb6
  clear hb6
  go_wp2_with fail
  refine (l5May_any (ckN E key) (ckU E key) ka kc (E.T j).am (E.T j).id _ (HKV.out.below HB6.out)).mono ?_
  rintro e w7 ⟨rfl, hb7⟩
  have HB7 : Hid (Below W3.heap.size W3 w7) := below_then HB6.out hb7
  clear hb7 HB5 HB6 c0 c1 c2 c3 c4
  rcases (bool_orW (mayB (ckN E key) (ckU E key) (E.T j).am (E.T j).id)).symm with hmy | hmy
  · rw [hmy]
    have HC9 : Hid (wwC E j key = 9) := by show _ = _; unfold wwC; rw [hmy, if_neg (by decide)]
    clear hmy
    have HU9 : Hid (Below w.heap.size w w7) := below_then HB03.out HB7.out
    go_wp2_with fail
    refine (l6Bad_any 9 _).mono ?_
    rintro e w9 ⟨rfl, hb9⟩
    have HB9 : Hid (Below w.heap.size w w9) := below_then HU9.out hb9
    obtain ⟨r0, r1, r2, r3, r4, r5⟩ := (HR3.out.1.below HB7.out).below hb9
    have rf : ∀ i, w9.frozen? ⟨w.heap.size + 1, i, none⟩ = false := fun i => ((bcell2 hb9).2 _ _ (HR3.out.1.below HB7.out).lt).trans (((bcell2 HB7.out).2 _ _ HR3.out.1.lt).trans (HR3.out.2 i))
    have HF : Hid (∀ w7, Below w.heap.size w w7 → ERes2 (wwC E j key) 0 (wwE E j key g v) w (.returned (.agg #[.int .i64 9, .int .i64 0, .int .i64 0, .int .i64 0, .slice none 0 0, .slice none 0 0])) w7) := fun w7 hb => by
      rw [show wwE E j key g v = zEn from if_neg (by rw [HC9.out]; decide), HC9.out]; exact eres_bad2 hb
    clear hb9
    go_wp2_with fail
    refine bodyPost_ret (v := .agg #[.int .i64 9, .int .i64 0, .int .i64 0, .int .i64 0, .slice none 0 0, .slice none 0 0]) (by simp [results, Tryz.results63, go_sem, *]) rfl ?_
    refine HF.out _ ?_
    repeat (first | with_reducible exact HB9.out | with_reducible refine Below.setCell ?_ (by first | omega | (simp <;> omega)) _)
  have HMY : Hid (mayB (ckN E key) (ckU E key) (E.T j).am (E.T j).id = true) := hmy
  rw [hmy]
  clear hmy
  obtain ⟨c0, c1, c2, c3, c4⟩ := HC3.out.block (HB7.out.block _ (by have := HBM.out; have := HW3.out; omega))
  by_cases h60 : (E.T j).n = 60
  · have h60' : (60 : Int) ≤ ((E.T j).n : Int) := by omega
    have HC9 : Hid (wwC E j key = 2) := by show _ = _; unfold wwC; rw [HMY.out, if_pos rfl, if_pos h60]
    have HU9 : Hid (Below w.heap.size w w7) := below_then HB03.out HB7.out
    go_wp2_with fail
    refine (l6Bad_any 2 _).mono ?_
    rintro e w9 ⟨rfl, hb9⟩
    have HB9 : Hid (Below w.heap.size w w9) := below_then HU9.out hb9
    obtain ⟨r0, r1, r2, r3, r4, r5⟩ := (HR3.out.1.below HB7.out).below hb9
    have rf : ∀ i, w9.frozen? ⟨w.heap.size + 1, i, none⟩ = false := fun i => ((bcell2 hb9).2 _ _ (HR3.out.1.below HB7.out).lt).trans (((bcell2 HB7.out).2 _ _ HR3.out.1.lt).trans (HR3.out.2 i))
    have HF : Hid (∀ w7, Below w.heap.size w w7 → ERes2 (wwC E j key) 0 (wwE E j key g v) w (.returned (.agg #[.int .i64 2, .int .i64 0, .int .i64 0, .int .i64 0, .slice none 0 0, .slice none 0 0])) w7) := fun w7 hb => by
      rw [show wwE E j key g v = zEn from if_neg (by rw [HC9.out]; decide), HC9.out]; exact eres_bad2 hb
    clear hb9
    go_wp2_with fail
    refine bodyPost_ret (v := .agg #[.int .i64 2, .int .i64 0, .int .i64 0, .int .i64 0, .slice none 0 0, .slice none 0 0]) (by simp [results, Tryz.results63, go_sem, *]) rfl ?_
    refine HF.out _ ?_
    repeat (first | with_reducible exact HB9.out | with_reducible refine Below.setCell ?_ (by first | omega | (simp <;> omega)) _)
  have h60' : ¬ (60 : Int) ≤ ((E.T j).n : Int) := by omega
  have HN60 : Hid ((E.T j).n ≠ 60) := h60
  clear h60
  go_upto_region 12 with fail
  clear h60'
  obtain ⟨W8, hW8⟩ : ∃ x, x = w7.alloc (.cells #[.int .i64 key, .bool false, .bool false, .int .i64 0] 176) := ⟨_, rfl⟩
  have HUB : Hid (Box4 W8 w7.heap.size (.int .i64 key) (.bool false) (.bool false) (.int .i64 0) ∧ ∀ i, W8.frozen? ⟨w7.heap.size, i, none⟩ = false) := by rw [hW8]; exact ⟨Box4.new _ _ _ _ _ _, fun i => by simp [go_sem]⟩
  have HB8 : Hid (Below W3.heap.size W3 W8) := by rw [hW8]; exact below_then HB7.out (below_new _ _)
  have HZ8 : Hid (W8.heap.size = w7.heap.size + 1 ∧ W3.heap.size ≤ w7.heap.size) := by rw [hW8]; exact ⟨World.size_alloc _ _, HB7.out.size⟩
  rw [← hW8]
  clear hW8 c0 c1 c2 c3 c4
  have HC8 : Hid (CTx W8 tb (j * 5) (E.T j) ui uc) := HC3.out.block (HB8.out.block _ (by have := HBM.out; have := HW3.out; omega))
  have HKV8 : Hid (VersAt W8 ka (ckN E key) (ckU E key)) := HKV.out.below HB8.out
  refine wp_region_E 999 (S := fun u => Below W8.heap.size W8 u) hmo ((Below.refl _ _).drew) (fun hS => ?_)
  obtain ⟨u0, hu0⟩ : ∃ y, y = W8.drew := ⟨_, rfl⟩
  rw [← hu0] at hS ⊢
  clear hu0
  refine wpAnyE_takeD (L := 999) (i := 0) (v := .slice ka (ckN E key) kc) (some 50) rfl rfl (by kernel_rfl) (by kernel_rfl) (by kernel_rfl) (by kernel_rfl) (fun _ _ _ h => h) (Or.inl ⟨by kernel_rfl, by intro u hSu; go_simp⟩) hS ?_
  try simp only [Act.put, List.setIfInBounds_toArray, List.set_cons_zero, List.set_cons_succ]
  refine wpAnyE_takeD (L := 999) (i := 2) (v := .pointer (some ⟨tb, j * 5, none⟩)) (some 52) rfl rfl (by kernel_rfl) (by kernel_rfl) (by kernel_rfl) (by kernel_rfl) (fun _ _ _ h => h) (Or.inl ⟨by kernel_rfl, by intro u hSu; go_simp⟩) hS ?_
  try simp only [Act.put, List.setIfInBounds_toArray, List.set_cons_zero, List.set_cons_succ]
  refine wpAnyE_takeD (L := 999) (i := 3) (v := .pointer (some ⟨tb, j * 5, none⟩)) (some 53) rfl rfl (by kernel_rfl) (by kernel_rfl) (by kernel_rfl) (by kernel_rfl) (fun _ _ _ h => h) (Or.inl ⟨by kernel_rfl, by intro u hSu; go_simp⟩) hS ?_
  try simp only [Act.put, List.setIfInBounds_toArray, List.set_cons_zero, List.set_cons_succ]
  refine wpAnyE_takeD (L := 999) (i := 4) (v := .pointer (some ⟨tb, j * 5, none⟩)) (some 54) rfl rfl (by kernel_rfl) (by kernel_rfl) (by kernel_rfl) (by kernel_rfl) (fun _ _ _ h => h) (Or.inl ⟨by kernel_rfl, by intro u hSu; go_simp⟩) hS ?_
  try simp only [Act.put, List.setIfInBounds_toArray, List.set_cons_zero, List.set_cons_succ]
  refine wpAnyE_takeD (L := 999) (i := 5) (v := .int .i64 (E.T j).id) (some 55) rfl rfl (by kernel_rfl) (by kernel_rfl) (by kernel_rfl) (by kernel_rfl) (fun _ _ _ h => h) (Or.inl ⟨by kernel_rfl, by intro u hSu; obtain ⟨c0, c1, c2, c3, c4⟩ := HC8.out; have c9 := cell_below c0 hSu; go_simp⟩) hS ?_
  try simp only [Act.put, List.setIfInBounds_toArray, List.set_cons_zero, List.set_cons_succ]
  refine wpAnyE_ready (rs := [1]) (by kernel_rfl) (by simp) ?_
  refine AllReadyE.cons rfl (fun K9 hK => ?_) AllReadyE.nil
  go_simp
  refine (l5Writer_U (ckN E key) (ckU E key) ka kc (E.T j).id _ (HKV8.out.below hS)).mono ?_
  rintro e u1 ⟨rfl, hu1⟩
  obtain rfl := hu1.symm
  refine hK.out _ _ hS (fun hS9 => ?_)
  try simp only [Act.put, List.setIfInBounds_toArray, List.set_cons_zero, List.set_cons_succ]
  clear hK K9 hS
  have hS := hS9
  clear hS9
  refine wpAnyE_ready (rs := [6]) (by kernel_rfl) (by simp) ?_
  refine AllReadyE.cons rfl (fun K9 hK => ?_) AllReadyE.nil
  go_simp
  refine hK.out _ _ hS (fun hS9 => ?_)
  try simp only [Act.put, List.setIfInBounds_toArray, List.set_cons_zero, List.set_cons_succ]
  clear hK K9 hS
  have HS9 : Hid (Below W8.heap.size W8 u0) := hS9
  clear hS9
  refine wpAnyE_done (by kernel_rfl) ?_ _
  go_simp
  have HB9 : Hid (Below W3.heap.size W3 u0) := below_then HB8.out HS9.out
  have HU9 : Hid (Box4 u0 w7.heap.size (.int .i64 key) (.bool false) (.bool false) (.int .i64 0) ∧ ∀ i, u0.frozen? ⟨w7.heap.size, i, none⟩ = false) := ⟨HUB.out.1.below HS9.out, fun i => ((bcell2 HS9.out).2 _ _ HUB.out.1.lt).trans (HUB.out.2 i)⟩
  have HZ9 : Hid (w7.heap.size + 1 ≤ u0.heap.size ∧ W3.heap.size ≤ w7.heap.size) := ⟨by have := HS9.out.size; have := HZ8.out; omega, HZ8.out.2⟩
  clear HS9 HC8 HKV8 HUB HB8 HZ8 HB7
  rcases (bool_orW (fob (ckN E key) (ckU E key) (E.T j).id)).symm with hfo | hfo
  · have hwt : wrt (ckN E key) (ckU E key) ≠ (E.T j).id := fun e => by rw [(wrt_fob HID.out).1 e] at hfo; cases hfo
    have hwe : (wrt (ckN E key) (ckU E key) == (E.T j).id) = false := by simpa using hwt
    have HFOB : Hid (fob (ckN E key) (ckU E key) (E.T j).id = false) := hfo
    have HWT : Hid (wrt (ckN E key) (ckU E key) ≠ (E.T j).id) := hwt
    rw [hwe]
    clear hwe hwt hfo
    obtain ⟨X, hX⟩ : ∃ x, x = u0 := ⟨_, rfl⟩
    subst hX
    obtain ⟨uo, huo⟩ : ∃ u, u = uoF (ckN E key) (ckU E key) (E.T j).id key := ⟨_, rfl⟩
    have HUO : Hid (uo = uoF (ckN E key) (ckU E key) (E.T j).id key) := huo
    have huo2 : uo = ⟨key, false, false, 0⟩ := by rw [huo]; unfold uoF; rw [HFOB.out]; rfl
    have HUX : Hid (Box4 X w7.heap.size (.int .i64 uo.k) (.bool uo.h) (.bool uo.g) (.int .i64 uo.v)) := by rw [huo2]; exact HU9.out.1
    have HBX : Hid (Below W3.heap.size W3 X) := HB9
    have HZ7 : Hid (W3.heap.size ≤ w7.heap.size ∧ w7.heap.size + 1 ≤ X.heap.size) := ⟨HZ9.out.2, HZ9.out.1⟩
    clear huo huo2 HB9 HU9 HZ9
    by_cases h12 : ckN E key = 12
    · have HWC2 : Hid (wwC E j key = 2) := by
        show _ = _
        unfold wwC
        rw [HMY.out, if_pos rfl, if_neg HN60.out, HFOB.out, if_neg (by decide), if_pos h12]
      have H12 : Hid (ckN E key = 12) := h12
      clear h12
      go_upto_region 14 with fail
      obtain ⟨c0, c1, c2, c3, c4⟩ := HC3.out.block (HBX.out.block _ (by have := HBM.out; have := HW3.out; omega))
      go_wp2_with fail
      refine (l5Push_many (ckN E key) (ckU E key) ka kc (E.T j).id g v _ H12.out HWT.out (HKV.out.below HBX.out)).mono ?_
      rintro e X5 ⟨rfl, hb5⟩
      have HX5 : Hid (Below W3.heap.size W3 X5) := below_then HBX.out hb5
      clear hb5 c0 c1 c2 c3 c4
      have HC9 : Hid (wwC E j key = 2) := HWC2
      have HU9 : Hid (Below w.heap.size w X5) := below_then HB03.out HX5.out
      go_wp2_with fail
      refine (l6Bad_any 2 _).mono ?_
      rintro e w9 ⟨rfl, hb9⟩
      have HB9 : Hid (Below w.heap.size w w9) := below_then HU9.out hb9
      obtain ⟨r0, r1, r2, r3, r4, r5⟩ := (HR3.out.1.below HX5.out).below hb9
      have rf : ∀ i, w9.frozen? ⟨w.heap.size + 1, i, none⟩ = false := fun i => ((bcell2 hb9).2 _ _ (HR3.out.1.below HX5.out).lt).trans (((bcell2 HX5.out).2 _ _ HR3.out.1.lt).trans (HR3.out.2 i))
      have HF : Hid (∀ w7, Below w.heap.size w w7 → ERes2 (wwC E j key) 0 (wwE E j key g v) w (.returned (.agg #[.int .i64 2, .int .i64 0, .int .i64 0, .int .i64 0, .slice none 0 0, .slice none 0 0])) w7) := fun w7 hb => by
        rw [show wwE E j key g v = zEn from if_neg (by rw [HC9.out]; decide), HC9.out]; exact eres_bad2 hb
      clear hb9
      go_wp2_with fail
      refine bodyPost_ret (v := .agg #[.int .i64 2, .int .i64 0, .int .i64 0, .int .i64 0, .slice none 0 0, .slice none 0 0]) (by simp [results, Tryz.results63, go_sem, *]) rfl ?_
      refine HF.out _ ?_
      repeat (first | with_reducible exact HB9.out | with_reducible refine Below.setCell ?_ (by first | omega | (simp <;> omega)) _)
    have hlt12 : ckN E key < 12 := by omega
    have HWC : Hid (wwC E j key = 0) := by
      show _ = _
      unfold wwC
      rw [HMY.out, if_pos rfl, if_neg HN60.out, HFOB.out, if_neg (by decide), if_neg h12]
    have HWN : Hid (wwN E j key = ckN E key + 1 ∧ wwS E j key g v = pxC (ckU E key) ⟨(E.T j).id, 0, g, v⟩) := by
      constructor
      · unfold wwN; rw [HFOB.out, if_neg (by decide)]
      · unfold wwS; rw [HFOB.out, if_neg (by decide)]
    clear h12
    obtain ⟨c0, c1, c2, c3, c4⟩ := HC3.out.block (HBX.out.block _ (by have := HBM.out; have := HW3.out; omega))
    go_upto_region 14 with fail
    go_wp2_with fail
    refine (l5Push_newc (ckN E key) (ckU E key) ka kc (E.T j).id g v _ hlt12 HWT.out (HKV.out.below HBX.out)).mono ?_
    rintro e X5 ⟨pa, pc, rfl, hpc, hb5, ho5⟩
    have HX5 : Hid (Below W3.heap.size W3 X5) := below_then HBX.out hb5
    have HPC : Hid ((ckN E key + 1) ≤ pc) := hpc
    have HO5 : Hid (Own4 X5 (X.heap.size + 1) X5.heap.size pa (ckN E key + 1) (pxC (ckU E key) ⟨(E.T j).id, 0, g, v⟩)) := ho5
    have HUX5 : Hid (Box4 X5 w7.heap.size (.int .i64 uo.k) (.bool uo.h) (.bool uo.g) (.int .i64 uo.v)) := HUX.out.below hb5
    have HZX : Hid (X.heap.size ≤ X5.heap.size ∧ W3.heap.size ≤ w7.heap.size ∧ w7.heap.size + 1 ≤ X.heap.size) := ⟨hb5.size, HZ7.out.1, HZ7.out.2⟩
    clear hb5 ho5 hpc c0 c1 c2 c3 c4
    go_upto_region 17 with fail
    have HSB : Hid (∀ u1, Below X5.heap.size X5 u1 → u1.cell? ⟨tb, j * 5 + 4, none⟩ = some (.slice ui (E.T j).n uc) ∧ Box4 u1 w7.heap.size (.int .i64 uo.k) (.bool uo.h) (.bool uo.g) (.int .i64 uo.v)) := fun u1 hb => by
      obtain ⟨c0, c1, c2, c3, c4⟩ := HC3.out.block (HX5.out.block _ (by have := HBM.out; have := HW3.out; omega))
      exact ⟨cell_below c4 hb, HUX5.out.below hb⟩
    refine wp_region_E 10 (S := fun u1 => u1.cell? ⟨tb, j * 5 + 4, none⟩ = some (.slice ui (E.T j).n uc) ∧ Box4 u1 w7.heap.size (.int .i64 uo.k) (.bool uo.h) (.bool uo.g) (.int .i64 uo.v)) hmo (HSB.out _ ((Below.refl _ _).drew)) (fun hS => ?_)
    obtain ⟨y0, hy0⟩ : ∃ y, y = X5.drew := ⟨_, rfl⟩
    have HY0 : Hid (Below X5.heap.size X5 y0) := by rw [hy0]; exact (Below.refl _ _).drew
    rw [← hy0] at hS ⊢
    clear hy0
    refine wpAnyE_takeD (L := 10) (i := 0) (v := .pointer (some ⟨tb, j * 5, none⟩)) (some 82) rfl rfl (by kernel_rfl) (by kernel_rfl) (by kernel_rfl) (by kernel_rfl) (fun _ _ _ h => h) (Or.inl ⟨by kernel_rfl, by intro u hSu; go_simp⟩) hS ?_
    try simp only [Act.put, List.setIfInBounds_toArray, List.set_cons_zero, List.set_cons_succ]
    refine wpAnyE_takeD (L := 10) (i := 1) (v := .pointer (some ⟨tb, j * 5, none⟩)) (some 83) rfl rfl (by kernel_rfl) (by kernel_rfl) (by kernel_rfl) (by kernel_rfl) (fun _ _ _ h => h) (Or.inl ⟨by kernel_rfl, by intro u hSu; go_simp⟩) hS ?_
    try simp only [Act.put, List.setIfInBounds_toArray, List.set_cons_zero, List.set_cons_succ]
    refine wpAnyE_takeD (L := 10) (i := 2) (v := .pointer (some ⟨tb, j * 5, none⟩)) (some 84) rfl rfl (by kernel_rfl) (by kernel_rfl) (by kernel_rfl) (by kernel_rfl) (fun _ _ _ h => h) (Or.inl ⟨by kernel_rfl, by intro u hSu; go_simp⟩) hS ?_
    try simp only [Act.put, List.setIfInBounds_toArray, List.set_cons_zero, List.set_cons_succ]
    refine wpAnyE_takeD (L := 10) (i := 3) (v := .pointer (some ⟨tb, j * 5 + 4, none⟩)) (some 85) rfl rfl (by kernel_rfl) (by kernel_rfl) (by kernel_rfl) (by kernel_rfl) (fun _ _ _ h => h) (Or.inl ⟨by kernel_rfl, by intro u hSu; go_simp⟩) hS ?_
    try simp only [Act.put, List.setIfInBounds_toArray, List.set_cons_zero, List.set_cons_succ]
    refine wpAnyE_takeD (L := 10) (i := 4) (v := .slice ui (E.T j).n uc) (some 86) rfl rfl (by kernel_rfl) (by kernel_rfl) (by kernel_rfl) (by kernel_rfl) (fun _ _ _ h => h) (Or.inl ⟨by kernel_rfl, by intro u hSu; obtain ⟨d0, d1, d2, d3, d4⟩ := hSu; go_simp⟩) hS ?_
    try simp only [Act.put, List.setIfInBounds_toArray, List.set_cons_zero, List.set_cons_succ]
    refine wpAnyE_takeD (L := 10) (i := 5) (v := .agg #[.int .i64 uo.k, .bool uo.h, .bool uo.g, .int .i64 uo.v]) (some 87) rfl rfl (by kernel_rfl) (by kernel_rfl) (by kernel_rfl) (by kernel_rfl) (fun _ _ _ h => h) (Or.inl ⟨by kernel_rfl, by intro u hSu; obtain ⟨d0, d1, d2, d3, d4⟩ := hSu; go_simp⟩) hS ?_
    try simp only [Act.put, List.setIfInBounds_toArray, List.set_cons_zero, List.set_cons_succ]
    have HB6 : Hid (Below W3.heap.size W3 (y0.alloc (.cells #[.int .i64 uo.k, .bool uo.h, .bool uo.g, .int .i64 uo.v] 176))) := below_then (below_then HX5.out HY0.out) (below_new _ _)
    refine wpAnyE_ready (rs := [6]) (by kernel_rfl) (by simp) ?_
    refine AllReadyE.cons rfl (fun K9 hK => ?_) AllReadyE.nil
    go_simp
    refine hK.out _ _ (HSB.out _ (below_then HY0.out (below_new _ _))) (fun hS9 => ?_)
    try simp only [Act.put, List.setIfInBounds_toArray, List.set_cons_zero, List.set_cons_succ]
    clear hK K9 hS
    have hS := hS9
    clear hS9
    refine wpAnyE_ready (rs := [7]) (by kernel_rfl) (by simp) ?_
    refine AllReadyE.cons rfl (fun K9 hK => ?_) AllReadyE.nil
    obtain ⟨i0, hi0, hz0, hz1, hz2⟩ := info_parts infoU
    have hn59 : (E.T j).n ≤ 60 := HU60.out j hj
    have HOW : (y0.alloc (.cells #[.int .i64 uo.k, .bool uo.h, .bool uo.g, .int .i64 uo.v] 176)).ownsRow 0 176 4 (.slice ui (E.T j).n uc) (E.T j).n (ub (uL (E.T j).U (E.T j).n)) := (((HOU.out.1.below (below_then HB3.out HB6.out)).wide (Nat.zero_le _) (Nat.le_refl _) (by have := HOU.out.1.1; have := (below_then HB3.out HB6.out).size; omega)).2.1)
    refine step_append_lies _ rfl (.tmp 86) (.tmp 88) 125 rfl 0 176 i0 _ 4 24 Tryz.underlying125 hi0 hz0 hz1 hz2 rfl (by decide) (.slice ui (E.T j).n uc) (E.T j).n (ub (uL (E.T j).U (E.T j).n)) rfl HOW ⟨y0.heap.size, 0, none⟩ 1 1 (u4 uo) rfl rfl (fun q u hq => ?_) ?_ (by decide) (by unfold maxLen; omega) (by omega) (Nat.zero_le _) (y0.heap.size + 1) (World.size_alloc _ _) ?_
    case refine_1 =>
      rw [WideShapes.add_plain, Nat.zero_add]
      have hd : q < 4 := by have := (List.getElem?_eq_some_iff.1 hq).1; simpa [u4] using this
      have hd2 : q = 0 ∨ q = 1 ∨ q = 2 ∨ q = 3 := by omega
      rcases hd2 with rfl | rfl | rfl | rfl <;> (rw [← hq]; simp [u4, go_sem])
    case refine_2 => exact fun u hu => ub_one [uo] u (by simpa [ub] using hu)
    intro ug uk X7 how hg7 hl7 hlt7
    have HQ : Hid (∀ q, (Value.slice ui (E.T j).n uc).ownBlock = some q → ul ≤ q ∧ q < uh ∧ b0' ≤ ul ∧ uh ≤ M) := fun q hq => by
      have q1 := HOU.out.1.2.2 q hq
      have q2 := (HOU.out.1.2.1.lt q hq).1
      have q3 := HOU.out.2.1
      exact ⟨q2, q1, by omega, by omega⟩
    have HZ6 : Hid (W3.heap.size ≤ y0.heap.size ∧ X5.heap.size ≤ y0.heap.size) := ⟨Nat.le_trans HX5.out.size HY0.out.size, HY0.out.size⟩
    have HS7 : Hid (y0.heap.size + 1 ≤ X7.heap.size) := by have := hg7.size; rw [World.size_alloc] at this; exact this
    have HK7 : Hid (∀ x, x < y0.heap.size → (x < b0' ∨ M ≤ x ∨ x = tb ∨ x < ul ∨ uh ≤ x) → X7.heap[x]? = y0.heap[x]?) := fun x hx hd => by
      refine (hg7.block x (by rw [World.size_alloc]; omega) fun e => ?_).trans ((below_new y0 _).block x hx)
      have := HQ.out x e.symm
      have := HOU.out.2.2
      omega
    have hhow : X7.ownsRow 0 176 4 (.slice (some ⟨ug, 0, none⟩) ((E.T j).n + 1) uk) ((E.T j).n + 1) (ub (uL (upf (E.T j).U (E.T j).n uo) ((E.T j).n + 1))) := by rw [uL_snoc, ub_app]; simpa [ub] using how
    have HHOW : Hid (X7.ownsRow 0 176 4 (.slice (some ⟨ug, 0, none⟩) ((E.T j).n + 1) uk) ((E.T j).n + 1) (ub (uL (upf (E.T j).U (E.T j).n uo) ((E.T j).n + 1)))) := hhow
    clear hhow
    have HW37 : Hid (Writes b0' M y0 X7) := by
      have hgs := below_new y0 (.cells #[.int .i64 uo.k, .bool uo.h, .bool uo.g, .int .i64 uo.v] 176)
      refine ⟨hg7.os.trans hgs.os, hg7.tape.trans hgs.tape, hg7.output.trans hgs.output, by have := hg7.size; have := hgs.size; omega, fun x hx hd => HK7.out x hx ?_⟩
      rcases hd with hd | hd
      · exact .inl hd
      · exact .inr (.inl hd)
    have HUG : Hid (((Value.slice ui (E.T j).n uc).ownBlock = some ug ∨ ug = y0.heap.size + 1) ∧ ug < X7.heap.size) := ⟨hl7, hlt7⟩
    have ET := HK7.out tb (by have := HBM.out; have := HW3.out; have := HZ6.out; omega) (.inr (.inr (.inl rfl)))
    have hSY := HSB.out _ HY0.out
    have c47 : X7.cell? ⟨tb, j * 5 + 4, none⟩ = some (.slice ui (E.T j).n uc) := (World.cell?_of_block (w := y0) (a := ⟨tb, _, none⟩) ET).trans hSY.1
    have f7 : X7.frozen? ⟨tb, j * 5 + 4, none⟩ = false := (World.frozen?_of_block (w := y0) (a := ⟨tb, j * 5 + 4, none⟩) ET).trans (((below_then HX5.out HY0.out).frozen (p := ⟨tb, j * 5 + 4, none⟩) (by have := HBM.out; have := HW3.out; show tb < W3.heap.size; omega)).trans ((HB3.out.frozen (p := ⟨tb, j * 5 + 4, none⟩) (by have := HBM.out; show tb < w2.heap.size; omega)).trans (HCT.out.2.1 _)))
    have HSW : Hid (X7.cell? ⟨tb, j * 5 + 4, none⟩ = some (.slice ui (E.T j).n uc) ∧ Box4 X7 w7.heap.size (.int .i64 uo.k) (.bool uo.h) (.bool uo.g) (.int .i64 uo.v)) := ⟨c47, hSY.2.writes HW37.out (by have := HBM.out; have := HZX.out; have := HW3.out; omega)⟩
    clear how hg7 hl7 hlt7 ET hSY HOW hi0 hz0 hz1 hz2
    refine hK.out _ _ (HSW.out) (fun hS9 => ?_)
    try simp only [Act.put, List.setIfInBounds_toArray, List.set_cons_zero, List.set_cons_succ]
    clear hK K9 hS
    have hS := hS9
    clear hS9
    refine wpAnyE_ready (rs := [8]) (by kernel_rfl) (by simp) ?_
    refine AllReadyE.cons rfl (fun K9 hK => ?_) AllReadyE.nil
    go_simp
    refine hK.out _ _ (hS) (fun hS9 => ?_)
    try simp only [Act.put, List.setIfInBounds_toArray, List.set_cons_zero, List.set_cons_succ]
    clear hK K9 hS
    have hS := hS9
    clear hS9
    refine wpAnyE_takeD (L := 10) (i := 9) (v := .pointer (some ⟨tb, j * 5 + 4, none⟩)) (some 91) rfl rfl (by kernel_rfl) (by kernel_rfl) (by kernel_rfl) (by kernel_rfl) (fun _ _ _ h => h) (Or.inl ⟨by kernel_rfl, by intro u hSu; go_simp⟩) hS ?_
    try simp only [Act.put, List.setIfInBounds_toArray, List.set_cons_zero, List.set_cons_succ]
    refine wpAnyE_ready (rs := [10]) (by kernel_rfl) (by simp) ?_
    refine AllReadyE.last rfl (fun K9 hK => ?_)
    go_simp
    refine hK.out _ _ ?_
    try simp only [Act.put, List.setIfInBounds_toArray, List.set_cons_zero, List.set_cons_succ]
    clear hK K9 hS
    refine wpAnyE_done (by kernel_rfl) ?_ _
    go_simp
    go_upto_region 18 with fail
    obtain ⟨X8, hX8⟩ : ∃ x, x = X7.setCell ⟨tb, j * 5 + 4, none⟩ (.slice (some ⟨ug, 0, none⟩) ((E.T j).n + 1) uk) := ⟨_, rfl⟩
    rw [← hX8]
    have hbm := HBM.out
    have hw3 := HW3.out
    have hz6 := HZ6.out
    have hs7 := HS7.out
    have hug := HUG.out
    have hzx := HZX.out
    have hz8 : X8.heap.size = X7.heap.size := by rw [hX8]; simp [World.setCell]
    have hw78 : Writes tb (tb + 1) X7 X8 := by rw [hX8]; exact Writes.setCell (Writes.refl _ _ _) (p := ⟨tb, _, none⟩) (Nat.le_refl _) (Nat.lt_succ_self _) _
    have HW38 : Hid (Writes b0' M y0 X8) := ⟨hw78.os.trans HW37.out.os, hw78.tape.trans HW37.out.tape, hw78.output.trans HW37.out.output, Nat.le_trans HW37.out.size hw78.size, fun x hx hd => (hw78.block x (by have := HW37.out.size; omega) (by omega)).trans (HW37.out.block x hx hd)⟩
    have HY3 : Hid (Below W3.heap.size W3 y0) := below_then HX5.out HY0.out
    have HTB : Hid (∀ o, X7.cell? ⟨tb, o, none⟩ = w2.cell? ⟨tb, o, none⟩) := fun o => (World.cell?_of_block (w := y0) (a := ⟨tb, o, none⟩) (HK7.out tb (by omega) (.inr (.inr (.inl rfl))))).trans ((World.cell?_of_block (w := W3) (a := ⟨tb, o, none⟩) (HY3.out.block tb (by omega))).trans (World.cell?_of_block (w := w2) (a := ⟨tb, o, none⟩) (HB3.out.block tb (by omega))))
    have HTF : Hid (∀ o, X7.frozen? ⟨tb, o, none⟩ = w2.frozen? ⟨tb, o, none⟩) := fun o => (World.frozen?_of_block (w := y0) (a := ⟨tb, o, none⟩) (HK7.out tb (by omega) (.inr (.inr (.inl rfl))))).trans ((World.frozen?_of_block (w := W3) (a := ⟨tb, o, none⟩) (HY3.out.block tb (by omega))).trans (World.frozen?_of_block (w := w2) (a := ⟨tb, o, none⟩) (HB3.out.block tb (by omega))))
    have HUGT : Hid (ug ≠ tb ∧ (M ≤ ug ∨ (ul ≤ ug ∧ ug < uh ∧ b0' ≤ ul ∧ uh ≤ M)) ∧ (ug < M ∨ ug = y0.heap.size + 1) ∧ b0' ≤ ug) := by
      rcases hug.1 with h | h
      · have q := HQ.out ug h
        have q2 := HOU.out.2.2
        exact ⟨by omega, .inr q, by omega, by omega⟩
      · exact ⟨by omega, .inl (by omega), .inr h, by omega⟩
    have HUO8 : Hid (OwnU X8 ug (ug + 1) (some ⟨ug, 0, none⟩) ((E.T j).n + 1) (upf (E.T j).U (E.T j).n uo)) := by
      have h1 := (ownU_of_row (uL_len _ _) HHOW.out).congr (fun i hi => uL_getD hi)
      obtain ⟨h2, h3 | ⟨b, off, e9, h4, h5, h6⟩⟩ := h1
      · exact absurd h3 (by omega)
      · injection e9 with e9
        injection e9 with e9 e10
        subst e9
        subst e10
        exact ⟨by rw [hz8]; omega, .inr ⟨_, _, rfl, Nat.le_refl _, Nat.lt_succ_self _, rowU_block h6 (hw78.block _ h5 (by have := HUGT.out.1; omega))⟩⟩
    have HT8 : Hid (OwnTxP X8 (fun x => (b0' ≤ x ∧ x < M) ∨ (M ≤ ug ∧ ug ≤ x ∧ x < ug + 1)) (some ⟨tb, 0, none⟩) E.p (upf E.T j ⟨(E.T j).id, (E.T j).am, (E.T j).st, (E.T j).dn, (E.T j).n + 1, upf (E.T j).U (E.T j).n uo⟩)) := by
      obtain ⟨d0, d1, d2, d3, d4⟩ := HCT.out.1
      have g : ∀ o, o ≠ j * 5 + 4 → X8.cell? ⟨tb, o, none⟩ = w2.cell? ⟨tb, o, none⟩ := fun o ho => by rw [hX8, setO (Ne.symm ho)]; exact HTB.out o
      refine HPT.out X8 ⟨(E.T j).id, (E.T j).am, (E.T j).st, (E.T j).dn, (E.T j).n + 1, upf (E.T j).U (E.T j).n uo⟩ (some ⟨ug, 0, none⟩) uk ug (ug + 1) (by omega) (fun x x1 x2 x3 x4 => ?_) (fun o ho => g o (by omega)) (fun i => by rw [hX8, World.frozen?_setCell]; exact HTF.out i) ⟨(g _ (by omega)).trans d0, (g _ (by omega)).trans d1, (g _ (by omega)).trans d2, (g _ (by omega)).trans d3, by rw [hX8]; exact World.cell?_setCell_same _ _ _ ((HTB.out _).trans d4)⟩ ?_ HUO8.out ?_
      · exact (hw78.block x (by omega) (by omega)).trans ((HK7.out x (by omega) (.inr (.inr (.inr x4)))).trans ((HY3.out.block x (by omega)).trans (HB3.out.block x (by omega))))
      · obtain ⟨a9, c9, e9, h9⟩ := row_sliceU HHOW.out
        injection e9 with _ _ e9
        subst e9
        exact h9
      · have := HUGT.out.2.1
        omega
    have HBO8 : Hid (Box4 X8 w2.heap.size (.int .i64 E.nx) (.int .i64 E.ck) (.slice (some ⟨tb, 0, none⟩) E.p vc) (.slice (some ⟨ob, oo, none⟩) E.q vd) ∧ ∀ i, X8.frozen? ⟨w2.heap.size, i, none⟩ = false) := ⟨(HBO.out.1.below HY3.out).writes HW38.out (by omega), fun i => (World.frozen?_of_block (w := y0) (a := ⟨w2.heap.size, i, none⟩) (HW38.out.block w2.heap.size (by omega) (.inr (by omega)))).trans (((bcell2 HY3.out).2 _ _ (by omega)).trans (HBO.out.2 i))⟩
    have HR8 : Hid (Box6 X8 (w.heap.size + 1) (.int .i64 0) (.int .i64 0) (.int .i64 0) (.int .i64 0) (.slice none 0 0) (.slice none 0 0) ∧ ∀ i, X8.frozen? ⟨w.heap.size + 1, i, none⟩ = false) := by
      have hs := HB03.out.size
      have hb2 := HB2.out.size
      have e := (HW38.out.block (w.heap.size + 1) (by omega) (.inl (by omega))).trans (HY3.out.block (w.heap.size + 1) (by omega))
      exact ⟨(HR3.out.1.below HY3.out).writes HW38.out (by omega), fun i => (World.frozen?_of_block (w := W3) (a := ⟨w.heap.size + 1, i, none⟩) e).trans (HR3.out.2 i)⟩
    have HBW8 : Hid (Below w.heap.size w X8) := Writes.below (below_then HB03.out HY3.out) HW38.out (by omega)
    have HCX8 : Hid (∀ x ∈ xs, CtRw X8 M w2.heap.size x) := fun x hx => (((HCX.out x hx).below HB3.out).below HY3.out).writes HW38.out (.inl (Nat.le_refl _))
    have HAT8 : Hid (HAtRw X8 (some ⟨ob, oo, none⟩) xs) := by
      obtain ⟨a9, c9, e9, -, h9⟩ := HAtRw.of_row HLX.out (show X8.ownsRow M 173 2 (.slice (some ⟨ob, oo, none⟩) E.q vd) E.q (hbRw xs) from own_keepS HOX.out fun q hq => by
        have h8 := HVX.out q hq
        have h9 := (HOX.out.lt q hq).1
        exact (HW38.out.block q (by omega) (.inr h9)).trans ((HY3.out.block q (by omega)).trans (HB3.out.block q h8)))
      injection e9 with e9
      subst e9
      exact h9
    have HO8 : Hid (Own4 X8 (X.heap.size + 1) X5.heap.size pa (ckN E key + 1) (pxC (ckU E key) ⟨(E.T j).id, 0, g, v⟩)) := (HO5.out.below HY0.out).writes HW38.out (.inr (by omega))
    have HZZ : Hid (w2.heap.size < X.heap.size + 1 ∧ X5.heap.size ≤ y0.heap.size + 1 ∧ ug < X8.heap.size ∧ w2.heap.size < X8.heap.size ∧ w2.heap.size < y0.heap.size + 1) := ⟨by omega, by omega, by omega, by omega, by omega⟩
    obtain ⟨b0, b1, b2, b3⟩ := HBO8.out.1
    clear hX8 hw78 HPT HTB HTF HUO8 HHOW HW37 HK7 HCT HOU HBO HA2 HX HX5 HY0 HB6 HO5 HSB HSW c47 f7 hz8 hs7 hz6 hug hw3 hbm hzx HQ HU60 HCX HOX HVX HUX5 HUX
    go_wp2_with fail
    refine (l6SetR_any w2.heap.size xs x0 (⟨⟨key, ckN E key + 1, (pxC (ckU E key) ⟨(E.T j).id, 0, g, v⟩)⟩, pa, pc, X.heap.size + 1, X5.heap.size⟩ : HRw) pp E.q (some ⟨ob, oo, none⟩) vd X8 HLX.out hq32 b3 (HBO8.out.2 _) HAT8.out (xs_rise HXS.out HSO.out) HPX.out.1 HPX.out.2 (by show ckN E key + 1 ≠ 0; omega)).mono ?_
    rintro e X9 ⟨rfl, va, u, hbu, hX9, hou⟩
    obtain ⟨q2, hq2⟩ : ∃ q, q = (skH true pp (⟨⟨key, ckN E key + 1, (pxC (ckU E key) ⟨(E.T j).id, 0, g, v⟩)⟩, pa, pc, X.heap.size + 1, X5.heap.size⟩ : HRw) xs).length := ⟨_, rfl⟩
    rw [← hq2] at hou
    obtain ⟨a8, c8, rfl, -, -⟩ := HAtRw.of_row hq2.symm hou
    obtain ⟨hql, P, Q, hP, hQ, hPQ, hT9, hR9⟩ := write_endP HPP.out (E := E) (j := j) (m := ckN E key + 1) (S := (pxC (ckU E key) ⟨(E.T j).id, 0, g, v⟩)) (N0 := w.heap.size + 2) (b0' := b0') (M := M) (N5 := y0.heap.size + 1) HXS.out HFF.out.symm rfl rfl rfl HPC.out HAX.out HCX8.out HO8.out HBM.out.1 HBM.out.2.1 HBM.out.2.2.1 rfl HZZ.out.1 HZZ.out.2.1 HZZ.out.2.2.2.2 HUGT.out.2.2.1 HZZ.out.2.2.1 HUGT.out.2.2.2 HT8.out hbu hX9 hq2.symm hou HZZ.out.2.2.2.1
    have hwB : Writes w2.heap.size (w2.heap.size + 1) u X9 := by rw [hX9]; exact Writes.setCell (Writes.refl _ _ _) (p := ⟨w2.heap.size, 3, none⟩) (Nat.le_refl _) (Nat.lt_succ_self _) _
    have hs02 := HB2.out.size
    have hbmm := HBM.out
    obtain ⟨g0, g1, g2, g3⟩ := HBO8.out.1.below hbu
    have k0 : X9.cell? ⟨w2.heap.size, 0, none⟩ = some (.int .i64 E.nx) := by rw [hX9, setO (by omega)]; exact g0
    have k1 : X9.cell? ⟨w2.heap.size, 1, none⟩ = some (.int .i64 E.ck) := by rw [hX9, setO (by omega)]; exact g1
    have k2 : X9.cell? ⟨w2.heap.size, 2, none⟩ = some (.slice (some ⟨tb, 0, none⟩) E.p vc) := by rw [hX9, setO (by omega)]; exact g2
    have k3 : X9.cell? ⟨w2.heap.size, 3, none⟩ = some (.slice a8 q2 c8) := by rw [hX9]; exact World.cell?_setCell_same _ _ _ g3
    obtain ⟨r0, r1, r2, r3, r4, r5⟩ := (HR8.out.1.below hbu).writes hwB (by omega)
    have rf : ∀ i, X9.frozen? ⟨w.heap.size + 1, i, none⟩ = false := fun i => by rw [hX9, World.frozen?_setCell]; exact ((bcell2 hbu).2 _ _ HR8.out.1.lt).trans (HR8.out.2 i)
    have HF : Hid (∀ w7, Writes (w.heap.size + 1) (w.heap.size + 2) X9 w7 → w7.heap.size = X9.heap.size → ERes2 (wwC E j key) 0 (wwE E j key g v) w (.returned (.agg #[.int .i64 0, .int .i64 0, .int .i64 E.nx, .int .i64 E.ck, .slice (some ⟨tb, 0, none⟩) E.p vc, .slice a8 q2 c8])) w7) := fun w7 hw hz => by
      have hE : wwE E j key g v = wrG E j key (ckN E key + 1) ((pxC (ckU E key) ⟨(E.T j).id, 0, g, v⟩)) := by unfold wwE; rw [if_pos HWC.out, HWN.out.1, HWN.out.2]
      rw [hE, HWC.out]
      subst hql
      refine ⟨_, vc, a8, c8, rfl, Writes.below (Writes.below (below_then HBW8.out hbu) hwB (by omega)) hw (by omega), Nat.le_refl _, P, Q, fun x hx => by have := hP x hx; omega, fun x hx => by have := hQ x hx; omega, hPQ, ?_, ?_⟩
      · have h9 := OwnTxP.keep hT9 hw.size fun x hx hl => hw.block x hl (by have := hP x hx; omega)
        rw [HUO.out] at h9
        exact h9
      · exact OwnRwP.keep hR9 hw.size fun x hx hl => hw.block x hl (by have := hQ x hx; omega)
    clear hT9 hR9 hP hQ hPQ hql hwB hou hX9 g0 g1 g2 g3 hq2 b0 b1 b2 b3 hbu hs02 hbmm
    go_wp2_with fail
    refine bodyPost_ret (v := .agg #[.int .i64 0, .int .i64 0, .int .i64 E.nx, .int .i64 E.ck, .slice (some ⟨tb, 0, none⟩) E.p vc, .slice a8 q2 c8]) (by simp [results, Tryz.results63, go_sem, *]) rfl ?_
    refine HF.out _ ?_ (by simp [World.setCell])
    repeat (first | with_reducible exact Writes.refl _ _ _ | with_reducible refine Writes.setCell ?_ (by first | omega | (simp <;> omega)) (by first | omega | (simp <;> omega)) _)
  · have hwt : wrt (ckN E key) (ckU E key) = (E.T j).id := (wrt_fob HID.out).2 hfo
    have hwe : (wrt (ckN E key) (ckU E key) == (E.T j).id) = true := by simpa using hwt
    have HWT : Hid (wrt (ckN E key) (ckU E key) = (E.T j).id) := hwt
    have HWC : Hid (wwC E j key = 0) := by
      show _ = _
      unfold wwC
      rw [HMY.out, if_pos rfl, if_neg HN60.out, hfo, if_pos rfl]
    have HWN : Hid (wwN E j key = ckN E key ∧ wwS E j key g v = pxA (ckU E key) ⟨(E.T j).id, 0, g, v⟩) := by
      constructor
      · unfold wwN; rw [hfo, if_pos rfl]
      · unfold wwS; rw [hfo, if_pos rfl]
    rw [hwe]
    clear hwe hwt
    have hp : 0 < ckN E key := by
      simp only [fob, Bool.and_eq_true, decide_eq_true_eq] at hfo
      exact hfo.1
    have hp1 : (0 : Int) < (ckN E key : Int) := by omega
    obtain ⟨kb, ko, rfl, hkl, hkc⟩ : ∃ b off, ka = some ⟨b, off, none⟩ ∧ b < W3.heap.size ∧ C4 W3 b off (ckU E key 0) := by
      rcases HKV.out with h9 | ⟨b, off, e9, h8, h7⟩
      · omega
      · have := h7 0 hp
        rw [Nat.zero_mul, Nat.add_zero] at this
        exact ⟨b, off, e9, h8, this⟩
    have HKC : Hid (C4 u0 kb ko (ckU E key 0)) := hkc.block (HB9.out.block _ hkl)
    clear hkc
    obtain ⟨g0, hg0⟩ : ∃ x, x = (ckU E key 0).g := ⟨_, rfl⟩
    obtain ⟨v0, hv0⟩ : ∃ x, x = (ckU E key 0).v := ⟨_, rfl⟩
    have HGV : Hid ((ckU E key 0).g = g0 ∧ (ckU E key 0).v = v0) := ⟨hg0.symm, hv0.symm⟩
    have HK2 : Hid (u0.cell? ⟨kb, ko + 2, none⟩ = some (.bool g0)) := by rw [hg0]; exact HKC.out.2.2.1
    have HK3 : Hid (u0.cell? ⟨kb, ko + 3, none⟩ = some (.int .i64 v0)) := by rw [hv0]; exact HKC.out.2.2.2
    clear hg0 hv0
    go_upto_region 13 with fail
    refine wp_region_E 10 (S := fun u => Below u0.heap.size u0 u) hmo ((Below.refl _ _).drew) (fun hS => ?_)
    obtain ⟨z0, hz0⟩ : ∃ y, y = u0.drew := ⟨_, rfl⟩
    rw [← hz0] at hS ⊢
    clear hz0
    refine wpAnyE_takeD (L := 10) (i := 0) (v := .int .i64 key) (some 57) rfl rfl (by kernel_rfl) (by kernel_rfl) (by kernel_rfl) (by kernel_rfl) (fun _ _ _ h => h) (Or.inl ⟨by kernel_rfl, by intro u hSu; go_simp⟩) hS ?_
    try simp only [Act.put, List.setIfInBounds_toArray, List.set_cons_zero, List.set_cons_succ]
    refine wpAnyE_takeD (L := 10) (i := 1) (v := .slice (some ⟨kb, ko, none⟩) (ckN E key) kc) (some 58) rfl rfl (by kernel_rfl) (by kernel_rfl) (by kernel_rfl) (by kernel_rfl) (fun _ _ _ h => h) (Or.inl ⟨by kernel_rfl, by intro u hSu; go_simp⟩) hS ?_
    try simp only [Act.put, List.setIfInBounds_toArray, List.set_cons_zero, List.set_cons_succ]
    refine wpAnyE_takeD (L := 10) (i := 2) (v := .pointer (some ⟨kb, ko, none⟩)) (some 59) rfl rfl (by kernel_rfl) (by kernel_rfl) (by kernel_rfl) (by kernel_rfl) (fun _ _ _ h => h) (Or.inl ⟨by kernel_rfl, by intro u hSu; go_simp⟩) hS ?_
    try simp only [Act.put, List.setIfInBounds_toArray, List.set_cons_zero, List.set_cons_succ]
    refine wpAnyE_takeD (L := 10) (i := 3) (v := .pointer (some ⟨kb, ko + 2, none⟩)) (some 60) rfl rfl (by kernel_rfl) (by kernel_rfl) (by kernel_rfl) (by kernel_rfl) (fun _ _ _ h => h) (Or.inl ⟨by kernel_rfl, by intro u hSu; go_simp⟩) hS ?_
    try simp only [Act.put, List.setIfInBounds_toArray, List.set_cons_zero, List.set_cons_succ]
    refine wpAnyE_takeD (L := 10) (i := 4) (v := .bool g0) (some 61) rfl rfl (by kernel_rfl) (by kernel_rfl) (by kernel_rfl) (by kernel_rfl) (fun _ _ _ h => h) (Or.inl ⟨by kernel_rfl, by intro u hSu; have q2 := cell_below HK2.out hSu; go_simp⟩) hS ?_
    try simp only [Act.put, List.setIfInBounds_toArray, List.set_cons_zero, List.set_cons_succ]
    refine wpAnyE_takeD (L := 10) (i := 5) (v := .slice (some ⟨kb, ko, none⟩) (ckN E key) kc) (some 62) rfl rfl (by kernel_rfl) (by kernel_rfl) (by kernel_rfl) (by kernel_rfl) (fun _ _ _ h => h) (Or.inl ⟨by kernel_rfl, by intro u hSu; go_simp⟩) hS ?_
    try simp only [Act.put, List.setIfInBounds_toArray, List.set_cons_zero, List.set_cons_succ]
    refine wpAnyE_takeD (L := 10) (i := 6) (v := .pointer (some ⟨kb, ko, none⟩)) (some 63) rfl rfl (by kernel_rfl) (by kernel_rfl) (by kernel_rfl) (by kernel_rfl) (fun _ _ _ h => h) (Or.inl ⟨by kernel_rfl, by intro u hSu; go_simp⟩) hS ?_
    try simp only [Act.put, List.setIfInBounds_toArray, List.set_cons_zero, List.set_cons_succ]
    refine wpAnyE_takeD (L := 10) (i := 7) (v := .pointer (some ⟨kb, ko + 3, none⟩)) (some 64) rfl rfl (by kernel_rfl) (by kernel_rfl) (by kernel_rfl) (by kernel_rfl) (fun _ _ _ h => h) (Or.inl ⟨by kernel_rfl, by intro u hSu; go_simp⟩) hS ?_
    try simp only [Act.put, List.setIfInBounds_toArray, List.set_cons_zero, List.set_cons_succ]
    refine wpAnyE_takeD (L := 10) (i := 8) (v := .int .i64 v0) (some 65) rfl rfl (by kernel_rfl) (by kernel_rfl) (by kernel_rfl) (by kernel_rfl) (fun _ _ _ h => h) (Or.inl ⟨by kernel_rfl, by intro u hSu; have q3 := cell_below HK3.out hSu; go_simp⟩) hS ?_
    try simp only [Act.put, List.setIfInBounds_toArray, List.set_cons_zero, List.set_cons_succ]
    refine wpAnyE_takeD (L := 10) (i := 9) (v := .agg #[.int .i64 key, .bool true, .bool g0, .int .i64 v0]) (some 66) rfl rfl (by kernel_rfl) (by kernel_rfl) (by kernel_rfl) (by kernel_rfl) (fun _ _ _ h => h) (Or.inl ⟨by kernel_rfl, by intro u hSu; go_simp⟩) hS ?_
    try simp only [Act.put, List.setIfInBounds_toArray, List.set_cons_zero, List.set_cons_succ]
    have HSZ : Hid (Below u0.heap.size u0 z0) := hS
    have HUZ : Hid (Box4 z0 w7.heap.size (.int .i64 key) (.bool false) (.bool false) (.int .i64 0) ∧ ∀ i, z0.frozen? ⟨w7.heap.size, i, none⟩ = false) := ⟨HU9.out.1.below hS, fun i => ((bcell2 hS).2 _ _ HU9.out.1.lt).trans (HU9.out.2 i)⟩
    obtain ⟨⟨x0, x1, x2, x3⟩, xf⟩ := HUZ.out
    refine wpAnyE_ready (rs := [10]) (by kernel_rfl) (by simp) ?_
    refine AllReadyE.last rfl (fun K9 hK => ?_)
    go_simp
    refine hK.out _ _ ?_
    try simp only [Act.put, List.setIfInBounds_toArray, List.set_cons_zero, List.set_cons_succ]
    clear hK K9 hS
    refine wpAnyE_done (by kernel_rfl) ?_ _
    go_simp
    go_upto_region 14 with fail
    obtain ⟨X, hX⟩ : ∃ x, x = (((z0.setCell ⟨w7.heap.size, 0, none⟩ (.int .i64 key)).setCell ⟨w7.heap.size, 1, none⟩ (.bool true)).setCell ⟨w7.heap.size, 2, none⟩ (.bool g0)).setCell ⟨w7.heap.size, 3, none⟩ (.int .i64 v0) := ⟨_, rfl⟩
    have hput := box4_put z0 w7.heap.size (.int .i64 key) (.bool true) (.bool g0) (.int .i64 v0) HUZ.out.1
    rw [← hX] at hput ⊢
    obtain ⟨hbx, hwx, hsx⟩ := hput
    obtain ⟨uo, huo⟩ : ∃ u, u = uoF (ckN E key) (ckU E key) (E.T j).id key := ⟨_, rfl⟩
    have HUO : Hid (uo = uoF (ckN E key) (ckU E key) (E.T j).id key) := huo
    have huo2 : uo = ⟨key, true, g0, v0⟩ := by rw [huo]; unfold uoF; rw [hfo, if_pos rfl, HGV.out.1, HGV.out.2]
    have HUX : Hid (Box4 X w7.heap.size (.int .i64 uo.k) (.bool uo.h) (.bool uo.g) (.int .i64 uo.v)) := by rw [huo2]; exact hbx
    have HBX : Hid (Below W3.heap.size W3 X) := Writes.below (below_then HB9.out HSZ.out) hwx HZ9.out.2
    have HZ7 : Hid (W3.heap.size ≤ w7.heap.size ∧ w7.heap.size + 1 ≤ X.heap.size) := ⟨HZ9.out.2, by have := HZ9.out.1; have := HSZ.out.size; omega⟩
    clear hX hbx hwx hsx huo huo2 HB9 HU9 HZ9 HSZ HUZ x0 x1 x2 x3 xf HK2 HK3 HKC HGV hkl hp1
    clear hfo
    obtain ⟨c0, c1, c2, c3, c4⟩ := HC3.out.block (HBX.out.block _ (by have := HBM.out; have := HW3.out; omega))
    go_upto_region 14 with fail
    go_wp2_with fail
    refine (l5Push_ownc (ckN E key) (ckU E key) (some ⟨kb, ko, none⟩) kc (E.T j).id g v _ hn12 hp HWT.out (HKV.out.below HBX.out)).mono ?_
    rintro e X5 ⟨pa, pc, rfl, hpc, hb5, ho5⟩
    have HX5 : Hid (Below W3.heap.size W3 X5) := below_then HBX.out hb5
    have HPC : Hid ((ckN E key) ≤ pc) := hpc
    have HO5 : Hid (Own4 X5 (X.heap.size + 1) X5.heap.size pa (ckN E key) (pxA (ckU E key) ⟨(E.T j).id, 0, g, v⟩)) := ho5
    have HUX5 : Hid (Box4 X5 w7.heap.size (.int .i64 uo.k) (.bool uo.h) (.bool uo.g) (.int .i64 uo.v)) := HUX.out.below hb5
    have HZX : Hid (X.heap.size ≤ X5.heap.size ∧ W3.heap.size ≤ w7.heap.size ∧ w7.heap.size + 1 ≤ X.heap.size) := ⟨hb5.size, HZ7.out.1, HZ7.out.2⟩
    clear hb5 ho5 hpc c0 c1 c2 c3 c4
    go_upto_region 17 with fail
    have HSB : Hid (∀ u1, Below X5.heap.size X5 u1 → u1.cell? ⟨tb, j * 5 + 4, none⟩ = some (.slice ui (E.T j).n uc) ∧ Box4 u1 w7.heap.size (.int .i64 uo.k) (.bool uo.h) (.bool uo.g) (.int .i64 uo.v)) := fun u1 hb => by
      obtain ⟨c0, c1, c2, c3, c4⟩ := HC3.out.block (HX5.out.block _ (by have := HBM.out; have := HW3.out; omega))
      exact ⟨cell_below c4 hb, HUX5.out.below hb⟩
    refine wp_region_E 10 (S := fun u1 => u1.cell? ⟨tb, j * 5 + 4, none⟩ = some (.slice ui (E.T j).n uc) ∧ Box4 u1 w7.heap.size (.int .i64 uo.k) (.bool uo.h) (.bool uo.g) (.int .i64 uo.v)) hmo (HSB.out _ ((Below.refl _ _).drew)) (fun hS => ?_)
    obtain ⟨y0, hy0⟩ : ∃ y, y = X5.drew := ⟨_, rfl⟩
    have HY0 : Hid (Below X5.heap.size X5 y0) := by rw [hy0]; exact (Below.refl _ _).drew
    rw [← hy0] at hS ⊢
    clear hy0
    refine wpAnyE_takeD (L := 10) (i := 0) (v := .pointer (some ⟨tb, j * 5, none⟩)) (some 82) rfl rfl (by kernel_rfl) (by kernel_rfl) (by kernel_rfl) (by kernel_rfl) (fun _ _ _ h => h) (Or.inl ⟨by kernel_rfl, by intro u hSu; go_simp⟩) hS ?_
    try simp only [Act.put, List.setIfInBounds_toArray, List.set_cons_zero, List.set_cons_succ]
    refine wpAnyE_takeD (L := 10) (i := 1) (v := .pointer (some ⟨tb, j * 5, none⟩)) (some 83) rfl rfl (by kernel_rfl) (by kernel_rfl) (by kernel_rfl) (by kernel_rfl) (fun _ _ _ h => h) (Or.inl ⟨by kernel_rfl, by intro u hSu; go_simp⟩) hS ?_
    try simp only [Act.put, List.setIfInBounds_toArray, List.set_cons_zero, List.set_cons_succ]
    refine wpAnyE_takeD (L := 10) (i := 2) (v := .pointer (some ⟨tb, j * 5, none⟩)) (some 84) rfl rfl (by kernel_rfl) (by kernel_rfl) (by kernel_rfl) (by kernel_rfl) (fun _ _ _ h => h) (Or.inl ⟨by kernel_rfl, by intro u hSu; go_simp⟩) hS ?_
    try simp only [Act.put, List.setIfInBounds_toArray, List.set_cons_zero, List.set_cons_succ]
    refine wpAnyE_takeD (L := 10) (i := 3) (v := .pointer (some ⟨tb, j * 5 + 4, none⟩)) (some 85) rfl rfl (by kernel_rfl) (by kernel_rfl) (by kernel_rfl) (by kernel_rfl) (fun _ _ _ h => h) (Or.inl ⟨by kernel_rfl, by intro u hSu; go_simp⟩) hS ?_
    try simp only [Act.put, List.setIfInBounds_toArray, List.set_cons_zero, List.set_cons_succ]
    refine wpAnyE_takeD (L := 10) (i := 4) (v := .slice ui (E.T j).n uc) (some 86) rfl rfl (by kernel_rfl) (by kernel_rfl) (by kernel_rfl) (by kernel_rfl) (fun _ _ _ h => h) (Or.inl ⟨by kernel_rfl, by intro u hSu; obtain ⟨d0, d1, d2, d3, d4⟩ := hSu; go_simp⟩) hS ?_
    try simp only [Act.put, List.setIfInBounds_toArray, List.set_cons_zero, List.set_cons_succ]
    refine wpAnyE_takeD (L := 10) (i := 5) (v := .agg #[.int .i64 uo.k, .bool uo.h, .bool uo.g, .int .i64 uo.v]) (some 87) rfl rfl (by kernel_rfl) (by kernel_rfl) (by kernel_rfl) (by kernel_rfl) (fun _ _ _ h => h) (Or.inl ⟨by kernel_rfl, by intro u hSu; obtain ⟨d0, d1, d2, d3, d4⟩ := hSu; go_simp⟩) hS ?_
    try simp only [Act.put, List.setIfInBounds_toArray, List.set_cons_zero, List.set_cons_succ]
    have HB6 : Hid (Below W3.heap.size W3 (y0.alloc (.cells #[.int .i64 uo.k, .bool uo.h, .bool uo.g, .int .i64 uo.v] 176))) := below_then (below_then HX5.out HY0.out) (below_new _ _)
    refine wpAnyE_ready (rs := [6]) (by kernel_rfl) (by simp) ?_
    refine AllReadyE.cons rfl (fun K9 hK => ?_) AllReadyE.nil
    go_simp
    refine hK.out _ _ (HSB.out _ (below_then HY0.out (below_new _ _))) (fun hS9 => ?_)
    try simp only [Act.put, List.setIfInBounds_toArray, List.set_cons_zero, List.set_cons_succ]
    clear hK K9 hS
    have hS := hS9
    clear hS9
    refine wpAnyE_ready (rs := [7]) (by kernel_rfl) (by simp) ?_
    refine AllReadyE.cons rfl (fun K9 hK => ?_) AllReadyE.nil
    obtain ⟨i0, hi0, hz0, hz1, hz2⟩ := info_parts infoU
    have hn59 : (E.T j).n ≤ 60 := HU60.out j hj
    have HOW : (y0.alloc (.cells #[.int .i64 uo.k, .bool uo.h, .bool uo.g, .int .i64 uo.v] 176)).ownsRow 0 176 4 (.slice ui (E.T j).n uc) (E.T j).n (ub (uL (E.T j).U (E.T j).n)) := (((HOU.out.1.below (below_then HB3.out HB6.out)).wide (Nat.zero_le _) (Nat.le_refl _) (by have := HOU.out.1.1; have := (below_then HB3.out HB6.out).size; omega)).2.1)
    refine step_append_lies _ rfl (.tmp 86) (.tmp 88) 125 rfl 0 176 i0 _ 4 24 Tryz.underlying125 hi0 hz0 hz1 hz2 rfl (by decide) (.slice ui (E.T j).n uc) (E.T j).n (ub (uL (E.T j).U (E.T j).n)) rfl HOW ⟨y0.heap.size, 0, none⟩ 1 1 (u4 uo) rfl rfl (fun q u hq => ?_) ?_ (by decide) (by unfold maxLen; omega) (by omega) (Nat.zero_le _) (y0.heap.size + 1) (World.size_alloc _ _) ?_
    case refine_1 =>
      rw [WideShapes.add_plain, Nat.zero_add]
      have hd : q < 4 := by have := (List.getElem?_eq_some_iff.1 hq).1; simpa [u4] using this
      have hd2 : q = 0 ∨ q = 1 ∨ q = 2 ∨ q = 3 := by omega
      rcases hd2 with rfl | rfl | rfl | rfl <;> (rw [← hq]; simp [u4, go_sem])
    case refine_2 => exact fun u hu => ub_one [uo] u (by simpa [ub] using hu)
    intro ug uk X7 how hg7 hl7 hlt7
    have HQ : Hid (∀ q, (Value.slice ui (E.T j).n uc).ownBlock = some q → ul ≤ q ∧ q < uh ∧ b0' ≤ ul ∧ uh ≤ M) := fun q hq => by
      have q1 := HOU.out.1.2.2 q hq
      have q2 := (HOU.out.1.2.1.lt q hq).1
      have q3 := HOU.out.2.1
      exact ⟨q2, q1, by omega, by omega⟩
    have HZ6 : Hid (W3.heap.size ≤ y0.heap.size ∧ X5.heap.size ≤ y0.heap.size) := ⟨Nat.le_trans HX5.out.size HY0.out.size, HY0.out.size⟩
    have HS7 : Hid (y0.heap.size + 1 ≤ X7.heap.size) := by have := hg7.size; rw [World.size_alloc] at this; exact this
    have HK7 : Hid (∀ x, x < y0.heap.size → (x < b0' ∨ M ≤ x ∨ x = tb ∨ x < ul ∨ uh ≤ x) → X7.heap[x]? = y0.heap[x]?) := fun x hx hd => by
      refine (hg7.block x (by rw [World.size_alloc]; omega) fun e => ?_).trans ((below_new y0 _).block x hx)
      have := HQ.out x e.symm
      have := HOU.out.2.2
      omega
    have hhow : X7.ownsRow 0 176 4 (.slice (some ⟨ug, 0, none⟩) ((E.T j).n + 1) uk) ((E.T j).n + 1) (ub (uL (upf (E.T j).U (E.T j).n uo) ((E.T j).n + 1))) := by rw [uL_snoc, ub_app]; simpa [ub] using how
    have HHOW : Hid (X7.ownsRow 0 176 4 (.slice (some ⟨ug, 0, none⟩) ((E.T j).n + 1) uk) ((E.T j).n + 1) (ub (uL (upf (E.T j).U (E.T j).n uo) ((E.T j).n + 1)))) := hhow
    clear hhow
    have HW37 : Hid (Writes b0' M y0 X7) := by
      have hgs := below_new y0 (.cells #[.int .i64 uo.k, .bool uo.h, .bool uo.g, .int .i64 uo.v] 176)
      refine ⟨hg7.os.trans hgs.os, hg7.tape.trans hgs.tape, hg7.output.trans hgs.output, by have := hg7.size; have := hgs.size; omega, fun x hx hd => HK7.out x hx ?_⟩
      rcases hd with hd | hd
      · exact .inl hd
      · exact .inr (.inl hd)
    have HUG : Hid (((Value.slice ui (E.T j).n uc).ownBlock = some ug ∨ ug = y0.heap.size + 1) ∧ ug < X7.heap.size) := ⟨hl7, hlt7⟩
    have ET := HK7.out tb (by have := HBM.out; have := HW3.out; have := HZ6.out; omega) (.inr (.inr (.inl rfl)))
    have hSY := HSB.out _ HY0.out
    have c47 : X7.cell? ⟨tb, j * 5 + 4, none⟩ = some (.slice ui (E.T j).n uc) := (World.cell?_of_block (w := y0) (a := ⟨tb, _, none⟩) ET).trans hSY.1
    have f7 : X7.frozen? ⟨tb, j * 5 + 4, none⟩ = false := (World.frozen?_of_block (w := y0) (a := ⟨tb, j * 5 + 4, none⟩) ET).trans (((below_then HX5.out HY0.out).frozen (p := ⟨tb, j * 5 + 4, none⟩) (by have := HBM.out; have := HW3.out; show tb < W3.heap.size; omega)).trans ((HB3.out.frozen (p := ⟨tb, j * 5 + 4, none⟩) (by have := HBM.out; show tb < w2.heap.size; omega)).trans (HCT.out.2.1 _)))
    have HSW : Hid (X7.cell? ⟨tb, j * 5 + 4, none⟩ = some (.slice ui (E.T j).n uc) ∧ Box4 X7 w7.heap.size (.int .i64 uo.k) (.bool uo.h) (.bool uo.g) (.int .i64 uo.v)) := ⟨c47, hSY.2.writes HW37.out (by have := HBM.out; have := HZX.out; have := HW3.out; omega)⟩
    clear how hg7 hl7 hlt7 ET hSY HOW hi0 hz0 hz1 hz2
    refine hK.out _ _ (HSW.out) (fun hS9 => ?_)
    try simp only [Act.put, List.setIfInBounds_toArray, List.set_cons_zero, List.set_cons_succ]
    clear hK K9 hS
    have hS := hS9
    clear hS9
    refine wpAnyE_ready (rs := [8]) (by kernel_rfl) (by simp) ?_
    refine AllReadyE.cons rfl (fun K9 hK => ?_) AllReadyE.nil
    go_simp
    refine hK.out _ _ (hS) (fun hS9 => ?_)
    try simp only [Act.put, List.setIfInBounds_toArray, List.set_cons_zero, List.set_cons_succ]
    clear hK K9 hS
    have hS := hS9
    clear hS9
    refine wpAnyE_takeD (L := 10) (i := 9) (v := .pointer (some ⟨tb, j * 5 + 4, none⟩)) (some 91) rfl rfl (by kernel_rfl) (by kernel_rfl) (by kernel_rfl) (by kernel_rfl) (fun _ _ _ h => h) (Or.inl ⟨by kernel_rfl, by intro u hSu; go_simp⟩) hS ?_
    try simp only [Act.put, List.setIfInBounds_toArray, List.set_cons_zero, List.set_cons_succ]
    refine wpAnyE_ready (rs := [10]) (by kernel_rfl) (by simp) ?_
    refine AllReadyE.last rfl (fun K9 hK => ?_)
    go_simp
    refine hK.out _ _ ?_
    try simp only [Act.put, List.setIfInBounds_toArray, List.set_cons_zero, List.set_cons_succ]
    clear hK K9 hS
    refine wpAnyE_done (by kernel_rfl) ?_ _
    go_simp
    go_upto_region 18 with fail
    obtain ⟨X8, hX8⟩ : ∃ x, x = X7.setCell ⟨tb, j * 5 + 4, none⟩ (.slice (some ⟨ug, 0, none⟩) ((E.T j).n + 1) uk) := ⟨_, rfl⟩
    rw [← hX8]
    have hbm := HBM.out
    have hw3 := HW3.out
    have hz6 := HZ6.out
    have hs7 := HS7.out
    have hug := HUG.out
    have hzx := HZX.out
    have hz8 : X8.heap.size = X7.heap.size := by rw [hX8]; simp [World.setCell]
    have hw78 : Writes tb (tb + 1) X7 X8 := by rw [hX8]; exact Writes.setCell (Writes.refl _ _ _) (p := ⟨tb, _, none⟩) (Nat.le_refl _) (Nat.lt_succ_self _) _
    have HW38 : Hid (Writes b0' M y0 X8) := ⟨hw78.os.trans HW37.out.os, hw78.tape.trans HW37.out.tape, hw78.output.trans HW37.out.output, Nat.le_trans HW37.out.size hw78.size, fun x hx hd => (hw78.block x (by have := HW37.out.size; omega) (by omega)).trans (HW37.out.block x hx hd)⟩
    have HY3 : Hid (Below W3.heap.size W3 y0) := below_then HX5.out HY0.out
    have HTB : Hid (∀ o, X7.cell? ⟨tb, o, none⟩ = w2.cell? ⟨tb, o, none⟩) := fun o => (World.cell?_of_block (w := y0) (a := ⟨tb, o, none⟩) (HK7.out tb (by omega) (.inr (.inr (.inl rfl))))).trans ((World.cell?_of_block (w := W3) (a := ⟨tb, o, none⟩) (HY3.out.block tb (by omega))).trans (World.cell?_of_block (w := w2) (a := ⟨tb, o, none⟩) (HB3.out.block tb (by omega))))
    have HTF : Hid (∀ o, X7.frozen? ⟨tb, o, none⟩ = w2.frozen? ⟨tb, o, none⟩) := fun o => (World.frozen?_of_block (w := y0) (a := ⟨tb, o, none⟩) (HK7.out tb (by omega) (.inr (.inr (.inl rfl))))).trans ((World.frozen?_of_block (w := W3) (a := ⟨tb, o, none⟩) (HY3.out.block tb (by omega))).trans (World.frozen?_of_block (w := w2) (a := ⟨tb, o, none⟩) (HB3.out.block tb (by omega))))
    have HUGT : Hid (ug ≠ tb ∧ (M ≤ ug ∨ (ul ≤ ug ∧ ug < uh ∧ b0' ≤ ul ∧ uh ≤ M)) ∧ (ug < M ∨ ug = y0.heap.size + 1) ∧ b0' ≤ ug) := by
      rcases hug.1 with h | h
      · have q := HQ.out ug h
        have q2 := HOU.out.2.2
        exact ⟨by omega, .inr q, by omega, by omega⟩
      · exact ⟨by omega, .inl (by omega), .inr h, by omega⟩
    have HUO8 : Hid (OwnU X8 ug (ug + 1) (some ⟨ug, 0, none⟩) ((E.T j).n + 1) (upf (E.T j).U (E.T j).n uo)) := by
      have h1 := (ownU_of_row (uL_len _ _) HHOW.out).congr (fun i hi => uL_getD hi)
      obtain ⟨h2, h3 | ⟨b, off, e9, h4, h5, h6⟩⟩ := h1
      · exact absurd h3 (by omega)
      · injection e9 with e9
        injection e9 with e9 e10
        subst e9
        subst e10
        exact ⟨by rw [hz8]; omega, .inr ⟨_, _, rfl, Nat.le_refl _, Nat.lt_succ_self _, rowU_block h6 (hw78.block _ h5 (by have := HUGT.out.1; omega))⟩⟩
    have HT8 : Hid (OwnTxP X8 (fun x => (b0' ≤ x ∧ x < M) ∨ (M ≤ ug ∧ ug ≤ x ∧ x < ug + 1)) (some ⟨tb, 0, none⟩) E.p (upf E.T j ⟨(E.T j).id, (E.T j).am, (E.T j).st, (E.T j).dn, (E.T j).n + 1, upf (E.T j).U (E.T j).n uo⟩)) := by
      obtain ⟨d0, d1, d2, d3, d4⟩ := HCT.out.1
      have g : ∀ o, o ≠ j * 5 + 4 → X8.cell? ⟨tb, o, none⟩ = w2.cell? ⟨tb, o, none⟩ := fun o ho => by rw [hX8, setO (Ne.symm ho)]; exact HTB.out o
      refine HPT.out X8 ⟨(E.T j).id, (E.T j).am, (E.T j).st, (E.T j).dn, (E.T j).n + 1, upf (E.T j).U (E.T j).n uo⟩ (some ⟨ug, 0, none⟩) uk ug (ug + 1) (by omega) (fun x x1 x2 x3 x4 => ?_) (fun o ho => g o (by omega)) (fun i => by rw [hX8, World.frozen?_setCell]; exact HTF.out i) ⟨(g _ (by omega)).trans d0, (g _ (by omega)).trans d1, (g _ (by omega)).trans d2, (g _ (by omega)).trans d3, by rw [hX8]; exact World.cell?_setCell_same _ _ _ ((HTB.out _).trans d4)⟩ ?_ HUO8.out ?_
      · exact (hw78.block x (by omega) (by omega)).trans ((HK7.out x (by omega) (.inr (.inr (.inr x4)))).trans ((HY3.out.block x (by omega)).trans (HB3.out.block x (by omega))))
      · obtain ⟨a9, c9, e9, h9⟩ := row_sliceU HHOW.out
        injection e9 with _ _ e9
        subst e9
        exact h9
      · have := HUGT.out.2.1
        omega
    have HBO8 : Hid (Box4 X8 w2.heap.size (.int .i64 E.nx) (.int .i64 E.ck) (.slice (some ⟨tb, 0, none⟩) E.p vc) (.slice (some ⟨ob, oo, none⟩) E.q vd) ∧ ∀ i, X8.frozen? ⟨w2.heap.size, i, none⟩ = false) := ⟨(HBO.out.1.below HY3.out).writes HW38.out (by omega), fun i => (World.frozen?_of_block (w := y0) (a := ⟨w2.heap.size, i, none⟩) (HW38.out.block w2.heap.size (by omega) (.inr (by omega)))).trans (((bcell2 HY3.out).2 _ _ (by omega)).trans (HBO.out.2 i))⟩
    have HR8 : Hid (Box6 X8 (w.heap.size + 1) (.int .i64 0) (.int .i64 0) (.int .i64 0) (.int .i64 0) (.slice none 0 0) (.slice none 0 0) ∧ ∀ i, X8.frozen? ⟨w.heap.size + 1, i, none⟩ = false) := by
      have hs := HB03.out.size
      have hb2 := HB2.out.size
      have e := (HW38.out.block (w.heap.size + 1) (by omega) (.inl (by omega))).trans (HY3.out.block (w.heap.size + 1) (by omega))
      exact ⟨(HR3.out.1.below HY3.out).writes HW38.out (by omega), fun i => (World.frozen?_of_block (w := W3) (a := ⟨w.heap.size + 1, i, none⟩) e).trans (HR3.out.2 i)⟩
    have HBW8 : Hid (Below w.heap.size w X8) := Writes.below (below_then HB03.out HY3.out) HW38.out (by omega)
    have HCX8 : Hid (∀ x ∈ xs, CtRw X8 M w2.heap.size x) := fun x hx => (((HCX.out x hx).below HB3.out).below HY3.out).writes HW38.out (.inl (Nat.le_refl _))
    have HAT8 : Hid (HAtRw X8 (some ⟨ob, oo, none⟩) xs) := by
      obtain ⟨a9, c9, e9, -, h9⟩ := HAtRw.of_row HLX.out (show X8.ownsRow M 173 2 (.slice (some ⟨ob, oo, none⟩) E.q vd) E.q (hbRw xs) from own_keepS HOX.out fun q hq => by
        have h8 := HVX.out q hq
        have h9 := (HOX.out.lt q hq).1
        exact (HW38.out.block q (by omega) (.inr h9)).trans ((HY3.out.block q (by omega)).trans (HB3.out.block q h8)))
      injection e9 with e9
      subst e9
      exact h9
    have HO8 : Hid (Own4 X8 (X.heap.size + 1) X5.heap.size pa (ckN E key) (pxA (ckU E key) ⟨(E.T j).id, 0, g, v⟩)) := (HO5.out.below HY0.out).writes HW38.out (.inr (by omega))
    have HZZ : Hid (w2.heap.size < X.heap.size + 1 ∧ X5.heap.size ≤ y0.heap.size + 1 ∧ ug < X8.heap.size ∧ w2.heap.size < X8.heap.size ∧ w2.heap.size < y0.heap.size + 1) := ⟨by omega, by omega, by omega, by omega, by omega⟩
    obtain ⟨b0, b1, b2, b3⟩ := HBO8.out.1
    clear hX8 hw78 HPT HTB HTF HUO8 HHOW HW37 HK7 HCT HOU HBO HA2 HX HX5 HY0 HB6 HO5 HSB HSW c47 f7 hz8 hs7 hz6 hug hw3 hbm hzx HQ HU60 HCX HOX HVX HUX5 HUX
    go_wp2_with fail
    refine (l6SetR_any w2.heap.size xs x0 (⟨⟨key, ckN E key, (pxA (ckU E key) ⟨(E.T j).id, 0, g, v⟩)⟩, pa, pc, X.heap.size + 1, X5.heap.size⟩ : HRw) pp E.q (some ⟨ob, oo, none⟩) vd X8 HLX.out hq32 b3 (HBO8.out.2 _) HAT8.out (xs_rise HXS.out HSO.out) HPX.out.1 HPX.out.2 (by show ckN E key ≠ 0; omega)).mono ?_
    rintro e X9 ⟨rfl, va, u, hbu, hX9, hou⟩
    obtain ⟨q2, hq2⟩ : ∃ q, q = (skH true pp (⟨⟨key, ckN E key, (pxA (ckU E key) ⟨(E.T j).id, 0, g, v⟩)⟩, pa, pc, X.heap.size + 1, X5.heap.size⟩ : HRw) xs).length := ⟨_, rfl⟩
    rw [← hq2] at hou
    obtain ⟨a8, c8, rfl, -, -⟩ := HAtRw.of_row hq2.symm hou
    obtain ⟨hql, P, Q, hP, hQ, hPQ, hT9, hR9⟩ := write_endP HPP.out (E := E) (j := j) (m := ckN E key) (S := (pxA (ckU E key) ⟨(E.T j).id, 0, g, v⟩)) (N0 := w.heap.size + 2) (b0' := b0') (M := M) (N5 := y0.heap.size + 1) HXS.out HFF.out.symm rfl rfl rfl HPC.out HAX.out HCX8.out HO8.out HBM.out.1 HBM.out.2.1 HBM.out.2.2.1 rfl HZZ.out.1 HZZ.out.2.1 HZZ.out.2.2.2.2 HUGT.out.2.2.1 HZZ.out.2.2.1 HUGT.out.2.2.2 HT8.out hbu hX9 hq2.symm hou HZZ.out.2.2.2.1
    have hwB : Writes w2.heap.size (w2.heap.size + 1) u X9 := by rw [hX9]; exact Writes.setCell (Writes.refl _ _ _) (p := ⟨w2.heap.size, 3, none⟩) (Nat.le_refl _) (Nat.lt_succ_self _) _
    have hs02 := HB2.out.size
    have hbmm := HBM.out
    obtain ⟨g0, g1, g2, g3⟩ := HBO8.out.1.below hbu
    have k0 : X9.cell? ⟨w2.heap.size, 0, none⟩ = some (.int .i64 E.nx) := by rw [hX9, setO (by omega)]; exact g0
    have k1 : X9.cell? ⟨w2.heap.size, 1, none⟩ = some (.int .i64 E.ck) := by rw [hX9, setO (by omega)]; exact g1
    have k2 : X9.cell? ⟨w2.heap.size, 2, none⟩ = some (.slice (some ⟨tb, 0, none⟩) E.p vc) := by rw [hX9, setO (by omega)]; exact g2
    have k3 : X9.cell? ⟨w2.heap.size, 3, none⟩ = some (.slice a8 q2 c8) := by rw [hX9]; exact World.cell?_setCell_same _ _ _ g3
    obtain ⟨r0, r1, r2, r3, r4, r5⟩ := (HR8.out.1.below hbu).writes hwB (by omega)
    have rf : ∀ i, X9.frozen? ⟨w.heap.size + 1, i, none⟩ = false := fun i => by rw [hX9, World.frozen?_setCell]; exact ((bcell2 hbu).2 _ _ HR8.out.1.lt).trans (HR8.out.2 i)
    have HF : Hid (∀ w7, Writes (w.heap.size + 1) (w.heap.size + 2) X9 w7 → w7.heap.size = X9.heap.size → ERes2 (wwC E j key) 0 (wwE E j key g v) w (.returned (.agg #[.int .i64 0, .int .i64 0, .int .i64 E.nx, .int .i64 E.ck, .slice (some ⟨tb, 0, none⟩) E.p vc, .slice a8 q2 c8])) w7) := fun w7 hw hz => by
      have hE : wwE E j key g v = wrG E j key (ckN E key) ((pxA (ckU E key) ⟨(E.T j).id, 0, g, v⟩)) := by unfold wwE; rw [if_pos HWC.out, HWN.out.1, HWN.out.2]
      rw [hE, HWC.out]
      subst hql
      refine ⟨_, vc, a8, c8, rfl, Writes.below (Writes.below (below_then HBW8.out hbu) hwB (by omega)) hw (by omega), Nat.le_refl _, P, Q, fun x hx => by have := hP x hx; omega, fun x hx => by have := hQ x hx; omega, hPQ, ?_, ?_⟩
      · have h9 := OwnTxP.keep hT9 hw.size fun x hx hl => hw.block x hl (by have := hP x hx; omega)
        rw [HUO.out] at h9
        exact h9
      · exact OwnRwP.keep hR9 hw.size fun x hx hl => hw.block x hl (by have := hQ x hx; omega)
    clear hT9 hR9 hP hQ hPQ hql hwB hou hX9 g0 g1 g2 g3 hq2 b0 b1 b2 b3 hbu hs02 hbmm
    go_wp2_with fail
    refine bodyPost_ret (v := .agg #[.int .i64 0, .int .i64 0, .int .i64 E.nx, .int .i64 E.ck, .slice (some ⟨tb, 0, none⟩) E.p vc, .slice a8 q2 c8]) (by simp [results, Tryz.results63, go_sem, *]) rfl ?_
    refine HF.out _ ?_ (by simp [World.setCell])
    repeat (first | with_reducible exact Writes.refl _ _ _ | with_reducible refine Writes.setCell ?_ (by first | omega | (simp <;> omega)) (by first | omega | (simp <;> omega)) _)
end Go.Proofs.YtjdodbiphijjgaaGreat
