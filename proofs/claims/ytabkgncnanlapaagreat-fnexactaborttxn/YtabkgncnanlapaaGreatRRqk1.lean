/- FnExactAbortTxn: the walk of the law. -/
import Derived.Test.YtabkgncnanlapaaGreatQBase
import Derived.Test.YtabkgncnanlapaaGreatQCa
import Derived.Test.YtabkgncnanlapaaGreatQCb
import Derived.Test.YtabkgncnanlapaaGreatQCl
import Derived.Test.YtabkgncnanlapaaGreatQEe
import Derived.Test.YtabkgncnanlapaaGreatQEta
import Derived.Test.YtabkgncnanlapaaGreatQEvb
import Derived.Test.YtabkgncnanlapaaGreatQFa
import Derived.Test.YtabkgncnanlapaaGreatQFb
import Derived.Test.YtabkgncnanlapaaGreatQFc
import Derived.Test.YtabkgncnanlapaaGreatQFd
import Derived.Test.YtabkgncnanlapaaGreatQFe
import Derived.Test.YtabkgncnanlapaaGreatQFf
import Derived.Test.YtabkgncnanlapaaGreatQGa
import Derived.Test.YtabkgncnanlapaaGreatQGb
import Derived.Test.YtabkgncnanlapaaGreatQGc
import Derived.Test.YtabkgncnanlapaaGreatQGd
import Derived.Test.YtabkgncnanlapaaGreatQGe
import Derived.Test.YtabkgncnanlapaaGreatQGf
import Derived.Test.YtabkgncnanlapaaGreatQGg
import Derived.Test.YtabkgncnanlapaaGreatQGh
import Derived.Test.YtabkgncnanlapaaGreatQGi
import Derived.Test.YtabkgncnanlapaaGreatQKa
import Derived.Test.YtabkgncnanlapaaGreatQKz
import Derived.Test.YtabkgncnanlapaaGreatQNa
import Derived.Test.YtabkgncnanlapaaGreatQNb
import Derived.Test.YtabkgncnanlapaaGreatQNc
import Derived.Test.YtabkgncnanlapaaGreatQOa
import Derived.Test.YtabkgncnanlapaaGreatQPgb
import Derived.Test.YtabkgncnanlapaaGreatQPgf
import Derived.Test.YtabkgncnanlapaaGreatQPgg
import Derived.Test.YtabkgncnanlapaaGreatQPgk
import Derived.Test.YtabkgncnanlapaaGreatQRla
import Derived.Test.YtabkgncnanlapaaGreatQRlb
import Derived.Test.YtabkgncnanlapaaGreatQRlc
import Derived.Test.YtabkgncnanlapaaGreatQRld
import Derived.Test.YtabkgncnanlapaaGreatQRle
import Derived.Test.YtabkgncnanlapaaGreatQRlf
import Derived.Test.YtabkgncnanlapaaGreatQRqa
import Derived.Test.YtabkgncnanlapaaGreatQRqb
import Derived.Test.YtabkgncnanlapaaGreatQRqc
import Derived.Test.YtabkgncnanlapaaGreatQRqd
import Derived.Test.YtabkgncnanlapaaGreatQRqe
import Derived.Test.YtabkgncnanlapaaGreatQRqf
import Derived.Test.YtabkgncnanlapaaGreatQRqg
import Derived.Test.YtabkgncnanlapaaGreatQRql
import Derived.Test.YtabkgncnanlapaaGreatQRqr
import Derived.Test.YtabkgncnanlapaaGreatQSca
import Derived.Test.YtabkgncnanlapaaGreatQUc
import Derived.Test.YtabkgncnanlapaaGreatQVe
import Derived.Test.YtabkgncnanlapaaGreatQVf
import Derived.Test.YtabkgncnanlapaaGreatQVg
import Derived.Test.YtabkgncnanlapaaGreatQWae
namespace Go.Proofs.YtabkgncnanlapaaGreat
open Go.RowKit Go.Deep
set_option linter.unusedVariables false
set_option linter.unusedSimpArgs false
set_option maxRecDepth 20000

def abE (E : En) (id : Int) : En := if askC E id = 0 then rlE E (askP E id).toNat 0 3 else zEn
theorem upf_upf9 {α : Type} (f : Nat → α) (k : Nat) (a b : α) : upf (upf f k a) k b = upf f k b := by
  funext i
  by_cases e : i = k
  · subst e; rw [upf_eq, upf_eq]
  · rw [upf_ne _ _ e, upf_ne _ _ e, upf_ne _ _ e]
/-- A transaction's state set in place. -/
theorem OwnTxP.setSt {w : World} {P : Nat → Prop} {b off n j : Nat} {T : Nat → Tx} (h : OwnTxP w P (some ⟨b, off, none⟩) n T) (hj : j < n) (s : Int) :
    OwnTxP (w.setCell ⟨b, off + j * 5 + 2, none⟩ (.int .i64 s)) P (some ⟨b, off, none⟩) n (upf T j ⟨(T j).id, (T j).am, s, (T j).dn, (T j).n, (T j).U⟩) ∧ P b ∧ b < w.heap.size ∧ w.frozen? ⟨b, off + j * 5 + 2, none⟩ = false ∧ w.cell? ⟨b, off + j * 5 + 2, none⟩ = some (.int .i64 (T j).st) := by
  obtain h9 | ⟨b1, off1, ha, hp, hl, hf, l, h, hd, hc⟩ := h
  · omega
  simp only [Option.some.injEq, Addr.mk.injEq, and_true] at ha
  obtain ⟨rfl, rfl⟩ := ha
  have hw : Writes b (b + 1) w (w.setCell ⟨b, off + j * 5 + 2, none⟩ (.int .i64 s)) := Writes.setCell (Writes.refl _ _ _) (p := ⟨b, _, none⟩) (Nat.le_refl _) (Nat.lt_succ_self _) _
  have hz : (w.setCell ⟨b, off + j * 5 + 2, none⟩ (.int .i64 s)).heap.size = w.heap.size := by simp [World.setCell]
  obtain ⟨_, _, ai, ci, ⟨x0, x1, x2, x3, x4⟩, _, _⟩ := hc j hj
  refine ⟨.inr ⟨b, off, rfl, hp, by omega, fun i => by rw [World.frozen?_setCell]; exact hf i, l, h, hd, fun i hi => ?_⟩, hp, hl, hf _, x2⟩
  obtain ⟨k0, k1, ai, ci, ⟨g0, g1, g2, g3, g4⟩, k3, k4⟩ := hc i hi
  have hU : OwnU (w.setCell ⟨b, off + j * 5 + 2, none⟩ (.int .i64 s)) (l i) (h i) ai (T i).n (T i).U := k4.writes hw (by omega)
  by_cases e : i = j
  · subst e
    rw [upf_eq]
    exact ⟨k0, k1, ai, ci, ⟨(setO (by omega)).trans g0, (setO (by omega)).trans g1, setS g2, (setO (by omega)).trans g3, (setO (by omega)).trans g4⟩, k3, hU⟩
  · rw [upf_ne _ _ e]
    exact ⟨k0, k1, ai, ci, ⟨(setO (by omega)).trans g0, (setO (by omega)).trans g1, (setO (by omega)).trans g2, (setO (by omega)).trans g3, (setO (by omega)).trans g4⟩, k3, hU⟩
set_option maxHeartbeats 16000000 in
theorem implAb_any (E : En) (a : Option Addr) (cap : Nat) (a' : Option Addr) (cap' : Nat) (id : Int) (w : World) (hs : SmallE E) (h : EngAt w a a' E) :
    Calls Tryz.prog 10 #[.agg #[.int .i64 E.nx, .int .i64 E.ck, .slice a E.p cap, .slice a' E.q cap'], .int .i64 id] w (ERes2 (askC E id) 0 (abE E id) w) := by
  have HXA : Hid (EngAt w a a' E) := h
  have HS : Hid (SmallE E) := hs
  clear h hs
  have HBX : Hid (∀ o1 o2 : Obj, o1 = .cells #[.int .i64 E.nx, .int .i64 E.ck, .slice a E.p cap, .slice a' E.q cap'] 30 → o2 = .cells #[.int .i64 0, .int .i64 0, .int .i64 0, .int .i64 0, .slice none 0 0, .slice none 0 0] 32 →
      Box4 ((w.alloc o1).alloc o2) w.heap.size (.int .i64 E.nx) (.int .i64 E.ck) (.slice a E.p cap) (.slice a' E.q cap') ∧ Box6 ((w.alloc o1).alloc o2) (w.heap.size + 1) (.int .i64 0) (.int .i64 0) (.int .i64 0) (.int .i64 0) (.slice none 0 0) (.slice none 0 0) ∧ (∀ i, ((w.alloc o1).alloc o2).frozen? ⟨w.heap.size + 1, i, none⟩ = false) ∧ Below w.heap.size w ((w.alloc o1).alloc o2) ∧ ((w.alloc o1).alloc o2).heap.size = w.heap.size + 2) := by
    rintro o1 o2 rfl rfl
    exact ⟨(Box4.new w _ _ _ _ _).alloc _, by simp [Box6, go_sem], fun i => by simp [go_sem], ((Below.refl _ _).alloc (Nat.le_refl _) _).alloc (by simp) _, by simp⟩
  go_enter Tryz.func10, Tryz.ntmps10
  go_wp2_with fail
  obtain ⟨hb4, hb2, hbf, hbw, hbs⟩ := HBX.out _ _ rfl rfl
  refine (placeOfOpen_any E a cap a' cap' id _ HS.out (HXA.out.below hbw)).mono ?_
  rintro e W ⟨rfl, hb1⟩
  have HB4 : Hid (Box4 W w.heap.size (.int .i64 E.nx) (.int .i64 E.ck) (.slice a E.p cap) (.slice a' E.q cap')) := hb4.below hb1
  have HR6 : Hid (Box6 W (w.heap.size + 1) (.int .i64 0) (.int .i64 0) (.int .i64 0) (.int .i64 0) (.slice none 0 0) (.slice none 0 0)) := hb2.below hb1
  have HRF : Hid (∀ i, W.frozen? ⟨w.heap.size + 1, i, none⟩ = false) := fun i => ((bcell2 hb1).2 _ _ (by rw [hbs]; omega)).trans (hbf i)
  have HBW : Hid (Below w.heap.size w W) := below_then hbw hb1
  have HS1 : Hid (w.heap.size + 2 ≤ W.heap.size) := by have := hb1.size; rw [hbs] at this; exact this
  clear hb1 hb4 hb2 hbf hbw hbs HBX
  by_cases hc : askC E id = 0
  case neg =>
    have HF : Hid (∀ w7, Below w.heap.size w w7 → ERes2 (askC E id) 0 (abE E id) w (.returned (.agg #[.int .i64 (askC E id), .int .i64 0, .int .i64 0, .int .i64 0, .slice none 0 0, .slice none 0 0])) w7) := fun w7 hb => by
      rw [show abE E id = zEn from if_neg hc]; exact eres_bad2 hb
    have hc2 : (askC E id != 0) = true := by simp [hc]
    obtain ⟨r0, r1, r2, r3, r4, r5⟩ := HR6.out
    have rf := HRF.out
    clear hc
    generalize askC E id = uu at *
    generalize askP E id = up at *
    go_wp2_with fail
    refine bodyPost_ret (v := .agg #[.int .i64 uu, .int .i64 0, .int .i64 0, .int .i64 0, .slice none 0 0, .slice none 0 0]) (by simp [results, Tryz.results10, go_sem, *]) rfl ?_
    refine HF.out _ ?_
    repeat (first | with_reducible exact HBW.out | with_reducible refine Below.setCell ?_ (by first | omega | (simp <;> omega)) _)
  obtain ⟨h0, j, hj, hp, hid⟩ := ask_open hc
  have HEX : Hid (EngAt W a a' E) := HXA.out.below HBW.out
  have HH0 : Hid (eF E = 0) := h0
  have HHC : Hid (askC E id = 0) := hc
  have HHP : Hid (askP E id = (j : Int)) := hp
  have hj1 : (j : Int) < (E.p : Int) := by omega
  have hj0 : (0 : Int) ≤ (j : Int) := by omega
  obtain ⟨b0, b1, b2, b3⟩ := HB4.out
  rw [hc, hp]
  clear hc hp h0 hid
  have HEQ : Hid (askC E id = 0 ∧ abE E id = rlE E j 0 3) := by
    refine ⟨HHC.out, ?_⟩
    unfold abE
    rw [if_pos HHC.out, HHP.out, Int.toNat_natCast]
  go_wp2_with fail
  refine (rolled_any E _ cap a' cap' j 0 W HH0.out hj (Nat.zero_le _) HEX.out).mono ?_
  rintro e w6 ⟨va, vc, ra, rc, q, rfl, hb6, hq, P, Q, hP, hQ, hPQ, hT, hR⟩
  have HQ9 : Hid (q = (unL (E.T j).id (E.T j).U (E.T j).n (rwL E) ((E.T j).n - 0)).length) := hq
  clear hq
  go_upto_region 5 with fail
  obtain ⟨W7, hW7⟩ : ∃ x, x = w6.alloc (.cells #[.int .i64 E.nx, .int .i64 E.ck, .slice va E.p vc, .slice ra q rc] 30) := ⟨_, rfl⟩
  have hb7 : Below w6.heap.size w6 W7 := by rw [hW7]; exact below_new _ _
  have hz7 : W7.heap.size = w6.heap.size + 1 := by rw [hW7]; exact World.size_alloc _ _
  obtain ⟨y0, y1, y2, y3⟩ : Box4 W7 w6.heap.size (.int .i64 E.nx) (.int .i64 E.ck) (.slice va E.p vc) (.slice ra q rc) := by rw [hW7]; exact Box4.new _ _ _ _ _ _
  rw [← hW7]
  clear hW7
  have hT7 : OwnTxP W7 P va E.p (upf E.T j ⟨(E.T j).id, (E.T j).am, (E.T j).st, (E.T j).dn, 0, (E.T j).U⟩) := OwnTxP.keep hT hb7.size fun x hx hl => hb7.block x hl
  have hR7 : OwnRwP W7 Q ra q (fun i => (unL (E.T j).id (E.T j).U (E.T j).n (rwL E) ((E.T j).n - 0)).getD i zRw) := OwnRwP.keep hR hb7.size fun x hx hl => hb7.block x hl
  have hT7b := hT7
  rcases hT7 with h9 | ⟨tb, toff, hva, -, -, -, -⟩
  · omega
  subst hva
  obtain ⟨hT8, hPb, hbl, hfz, hst⟩ := OwnTxP.setSt hT7b hj 3
  have hw8 : Writes tb (tb + 1) W7 (W7.setCell ⟨tb, toff + j * 5 + 2, none⟩ (.int .i64 3)) := Writes.setCell (Writes.refl _ _ _) (p := ⟨tb, _, none⟩) (Nat.le_refl _) (Nat.lt_succ_self _) _
  have hz8 : (W7.setCell ⟨tb, toff + j * 5 + 2, none⟩ (.int .i64 3)).heap.size = W7.heap.size := by simp [World.setCell]
  have hR8 := OwnRwP.keep hR7 hw8.size (fun x hx hl => hw8.block x hl (by have : x ≠ tb := fun e => hPQ tb hPb (e ▸ hx); omega))
  rw [upf_upf9, upf_eq] at hT8
  have htb := hP tb hPb
  have hs1 := HS1.out
  have HF : Hid (∀ w7, Writes (w.heap.size + 1) (w.heap.size + 2) (W7.setCell ⟨tb, toff + j * 5 + 2, none⟩ (.int .i64 3)) w7 → w7.heap.size = W7.heap.size → ERes2 (askC E id) 0 (abE E id) w (.returned (.agg #[.int .i64 0, .int .i64 0, .int .i64 E.nx, .int .i64 E.ck, .slice (some ⟨tb, toff, none⟩) E.p vc, .slice ra q rc])) w7) := fun w7 hw hz => by
    rw [HEQ.out.1, HEQ.out.2]
    have hq := HQ9.out
    subst hq
    refine ⟨_, vc, ra, rc, rfl, Writes.below (Writes.below (below_then (below_then HBW.out hb6) hb7) hw8 (by omega)) hw (by omega), Nat.le_refl _, P, Q, fun x hx => by have := hP x hx; omega, fun x hx => by have := hQ x hx; omega, hPQ, ?_, ?_⟩
    · exact OwnTxP.keep hT8 hw.size fun x hx hl => hw.block x hl (by have := hP x hx; omega)
    · exact OwnRwP.keep hR8 hw.size fun x hx hl => hw.block x hl (by have := hQ x hx; omega)
  have hbb : Below W.heap.size W W7 := below_then hb6 hb7
  obtain ⟨r0, r1, r2, r3, r4, r5⟩ := HR6.out.below hbb
  have rf : ∀ i, W7.frozen? ⟨w.heap.size + 1, i, none⟩ = false := fun i => ((bcell2 hbb).2 _ _ (by omega)).trans (HRF.out i)
  have hne1 : w.heap.size + 1 ≠ tb := by omega
  have hne2 : w6.heap.size ≠ tb := by omega
  clear hb6 hP hQ hPQ hT hR b0 b1 b2 b3 hbb hb7 hT7b hR7 hT8 hR8 hw8 hz8 hbl hz7 htb hs1
  go_wp2_with fail
  refine bodyPost_ret (v := .agg #[.int .i64 0, .int .i64 0, .int .i64 E.nx, .int .i64 E.ck, .slice (some ⟨tb, toff, none⟩) E.p vc, .slice ra q rc]) (by simp [results, Tryz.results10, go_sem, *]) rfl ?_
  refine HF.out _ ?_ (by simp [World.setCell])
  repeat (first | with_reducible exact Writes.refl _ _ _ | with_reducible refine Writes.setCell ?_ (by first | omega | (simp <;> omega)) (by first | omega | (simp <;> omega)) _)
set_option maxHeartbeats 16000000 in
theorem specAb_any (E : En) (a : Option Addr) (cap : Nat) (a' : Option Addr) (cap' : Nat) (id : Int) (w : World) (hs : SmallE E) (h : EngAt w a a' E) :
    Calls Tryz.prog 8 #[.agg #[.int .i64 E.nx, .int .i64 E.ck, .slice a E.p cap, .slice a' E.q cap'], .int .i64 id] w (ERes2 (askC E id) 0 (abE E id) w) := by
  have HXA : Hid (EngAt w a a' E) := h
  have HS : Hid (SmallE E) := hs
  clear h hs
  have HBX : Hid (∀ o1 o2 : Obj, o1 = .cells #[.int .i64 E.nx, .int .i64 E.ck, .slice a E.p cap, .slice a' E.q cap'] 30 → o2 = .cells #[.int .i64 0, .int .i64 0, .int .i64 0, .int .i64 0, .slice none 0 0, .slice none 0 0] 32 →
      Box4 ((w.alloc o1).alloc o2) w.heap.size (.int .i64 E.nx) (.int .i64 E.ck) (.slice a E.p cap) (.slice a' E.q cap') ∧ Box6 ((w.alloc o1).alloc o2) (w.heap.size + 1) (.int .i64 0) (.int .i64 0) (.int .i64 0) (.int .i64 0) (.slice none 0 0) (.slice none 0 0) ∧ (∀ i, ((w.alloc o1).alloc o2).frozen? ⟨w.heap.size + 1, i, none⟩ = false) ∧ Below w.heap.size w ((w.alloc o1).alloc o2) ∧ ((w.alloc o1).alloc o2).heap.size = w.heap.size + 2) := by
    rintro o1 o2 rfl rfl
    exact ⟨(Box4.new w _ _ _ _ _).alloc _, by simp [Box6, go_sem], fun i => by simp [go_sem], ((Below.refl _ _).alloc (Nat.le_refl _) _).alloc (by simp) _, by simp⟩
  go_enter Tryz.func8, Tryz.ntmps8
  go_wp2_with fail
  obtain ⟨hb4, hb2, hbf, hbw, hbs⟩ := HBX.out _ _ rfl rfl
  refine (l6Asked_any E w.heap.size a cap a' cap' id _ HS.out ⟨hb4, HXA.out.below hbw⟩).mono ?_
  rintro e W ⟨rfl, hb1⟩
  have HB4 : Hid (Box4 W w.heap.size (.int .i64 E.nx) (.int .i64 E.ck) (.slice a E.p cap) (.slice a' E.q cap')) := hb4.below hb1
  have HR6 : Hid (Box6 W (w.heap.size + 1) (.int .i64 0) (.int .i64 0) (.int .i64 0) (.int .i64 0) (.slice none 0 0) (.slice none 0 0)) := hb2.below hb1
  have HRF : Hid (∀ i, W.frozen? ⟨w.heap.size + 1, i, none⟩ = false) := fun i => ((bcell2 hb1).2 _ _ (by rw [hbs]; omega)).trans (hbf i)
  have HBW : Hid (Below w.heap.size w W) := below_then hbw hb1
  have hs1 : w.heap.size + 2 ≤ W.heap.size := by have := hb1.size; rw [hbs] at this; exact this
  clear hb1 hb4 hb2 hbf hbw hbs HBX
  by_cases hc : askC E id = 0
  case neg =>
    have HF : Hid (∀ w7, Below w.heap.size w w7 → ERes2 (askC E id) 0 (abE E id) w (.returned (.agg #[.int .i64 (askC E id), .int .i64 0, .int .i64 0, .int .i64 0, .slice none 0 0, .slice none 0 0])) w7) := fun w7 hb => by
      rw [show abE E id = zEn from if_neg hc]; exact eres_bad2 hb
    have hc2 : (askC E id != 0) = true := by simp [hc]
    clear hc
    generalize askC E id = uu at *
    generalize askP E id = up at *
    go_wp2_with fail
    refine (l6Bad_any uu _).mono ?_
    rintro e w9 ⟨rfl, hb9⟩
    have HB9 : Hid (Below w.heap.size w w9) := below_then HBW.out hb9
    obtain ⟨r0, r1, r2, r3, r4, r5⟩ := HR6.out.below hb9
    have rf : ∀ i, w9.frozen? ⟨w.heap.size + 1, i, none⟩ = false := fun i => ((bcell2 hb9).2 _ _ (by omega)).trans (HRF.out i)
    clear hb9
    go_wp2_with fail
    refine bodyPost_ret (v := .agg #[.int .i64 uu, .int .i64 0, .int .i64 0, .int .i64 0, .slice none 0 0, .slice none 0 0]) (by simp [results, Tryz.results8, go_sem, *]) rfl ?_
    refine HF.out _ ?_
    repeat (first | with_reducible exact HB9.out | with_reducible refine Below.setCell ?_ (by first | omega | (simp <;> omega)) _)
  obtain ⟨h0, j, hj, hp, hid⟩ := ask_open hc
  have HEX : Hid (EngAt W a a' E) := HXA.out.below HBW.out
  have hq32 := (eF_pq h0).2
  have hp20 := (eF_pq h0).1
  have HU60 : Hid (∀ i, i < E.p → (E.T i).n ≤ 60) := undos60 h0
  have HR12 : Hid (∀ i, i < E.q → (E.R i).n ≤ 12) := rows12 h0
  have HH0 : Hid (eF E = 0) := h0
  have HHC : Hid (askC E id = 0) := hc
  have HHP : Hid (askP E id = (j : Int)) := hp
  have hn60 := undos60 h0 j hj
  have hj1 : (j : Int) < (E.p : Int) := by omega
  have hj0 : (0 : Int) ≤ (j : Int) := by omega
  obtain ⟨b0, b1, b2, b3⟩ := HB4.out
  rw [hc, hp]
  clear hc hp h0 hid
  have hsv : (0 : Nat) ≤ (E.T j).n := Nat.zero_le _
  have HEQ : Hid (abE E id = rlE E j 0 3) := by
    have e9 : abE E id = rlE E (askP E id).toNat 0 3 := if_pos HHC.out
    rw [HHP.out, Int.toNat_natCast] at e9
    exact e9
  go_wp2_with fail
  obtain ⟨w5, hw5⟩ : ∃ y, y = W := ⟨_, rfl⟩
  rw [← hw5]
  have HEX5 : Hid (EngAt w5 a a' E) := by rw [hw5]; exact HEX.out
  have hs5 : W.heap.size ≤ w5.heap.size := by rw [hw5]; exact Nat.le_refl _
  have HR65 : Hid (Box6 w5 (w.heap.size + 1) (.int .i64 0) (.int .i64 0) (.int .i64 0) (.int .i64 0) (.slice none 0 0) (.slice none 0 0)) := by rw [hw5]; exact HR6.out
  have HRF5 : Hid (∀ i, w5.frozen? ⟨w.heap.size + 1, i, none⟩ = false) := by rw [hw5]; exact HRF.out
  have HBW5 : Hid (Below w.heap.size w w5) := by rw [hw5]; exact HBW.out
  clear hw5 b0 b1 b2 b3
  refine (l6Copy_any E _ cap a' cap' _ hp20 hq32 HU60.out HR12.out HEX5.out).mono ?_
  rintro e w2 ⟨v, v', b0', M, rfl, hb2, hb0, hM, hgt, hgr⟩
  obtain ⟨va, vc, rfl, hvc, hOT⟩ := hgt.own
  obtain ⟨vb, vd, rfl, hvd, -⟩ := hgr.own
  have hs2 := hb2.size
  have hMz : M ≤ w2.heap.size := hOT.1
  have HR62 : Hid (Box6 w2 (w.heap.size + 1) (.int .i64 0) (.int .i64 0) (.int .i64 0) (.int .i64 0) (.slice none 0 0) (.slice none 0 0)) := HR65.out.below hb2
  have HRF2 : Hid (∀ i, w2.frozen? ⟨w.heap.size + 1, i, none⟩ = false) := fun i => ((bcell2 hb2).2 _ _ (by omega)).trans (HRF5.out i)
  have HB2 : Hid (Below w.heap.size w w2) := below_then HBW5.out hb2
  have HGR : Hid (GrRw M w2.heap.size w2 (.slice vb E.q vd) E.q E.R) := hgr
  have HOT : Hid (OwnTx w2 b0' M va E.p E.T) := hOT
  clear hb2 hgt hgr hOT
  go_upto_region 5 with fail
  obtain ⟨W3, hW3⟩ : ∃ x, x = w2.alloc (.cells #[.int .i64 E.nx, .int .i64 E.ck, .slice va E.p vc, .slice vb E.q vd] 30) := ⟨_, rfl⟩
  have hb3 : Below w2.heap.size w2 W3 := by rw [hW3]; exact below_new _ _
  have hz3 : W3.heap.size = w2.heap.size + 1 := by rw [hW3]; exact World.size_alloc _ _
  have hbo : Box4 W3 w2.heap.size (.int .i64 E.nx) (.int .i64 E.ck) (.slice va E.p vc) (.slice vb E.q vd) := by rw [hW3]; exact Box4.new _ _ _ _ _ _
  have hfo : ∀ i, W3.frozen? ⟨w2.heap.size, i, none⟩ = false := by rw [hW3]; exact fun i => by simp [go_sem]
  rw [← hW3]
  clear hW3
  have HOT3 : Hid (OwnTx W3 b0' M va E.p E.T) := HOT.out.below hb3
  obtain ⟨-, h9 | ⟨tb, toff, rfl, ht1, ht2, htf, tl, th, htd, htc⟩⟩ := HOT3.out
  · omega
  obtain ⟨-, ht4, ui, uc, hCT, huc, hOU⟩ := htc j hj
  obtain ⟨xs0, hRI⟩ := RlI.start (id := (E.T j).id) (U := (E.T j).U) (n := (E.T j).n) HGR.out hb3 rfl hbo hfo
  have HRI : Hid (RlI W3 W3 w2.heap.size E.nx E.ck (.slice (some ⟨tb, toff, none⟩) E.p vc) (E.T j).id (E.T j).U (E.T j).n (rwL E) 0 M vb vd E.q xs0) := hRI
  have HR63 : Hid (Box6 W3 (w.heap.size + 1) (.int .i64 0) (.int .i64 0) (.int .i64 0) (.int .i64 0) (.slice none 0 0) (.slice none 0 0)) := HR62.out.below hb3
  have HRF3 : Hid (∀ i, W3.frozen? ⟨w.heap.size + 1, i, none⟩ = false) := fun i => ((bcell2 hb3).2 _ _ (by omega)).trans (HRF2.out i)
  have HB3 : Hid (Below w.heap.size w W3) := below_then HB2.out hb3
  have HCT : Hid (CTx W3 tb (toff + j * 5) (E.T j) ui uc) := hCT
  have HFT : Hid (∀ i, W3.frozen? ⟨tb, i, none⟩ = false) := htf
  have HUN : Hid (UndsAt W3 ui (E.T j).n (E.T j).U) := hOU.at
  have HUB : Hid (∀ b off, ui = some ⟨b, off, none⟩ → (E.T j).n = 0 ∨ b < w2.heap.size) := fun b off e => by
    obtain ⟨o1, o2 | ⟨b2, o3, e2, p1, p2, _⟩⟩ := hOU
    · exact .inl o2
    · rw [e] at e2
      injection e2 with e2
      injection e2 with e2
      subst e2
      exact .inr (by omega)
  clear hb3 hbo hfo htd htc hCT hOU hRI htf HOT HGR HR62 HRF2 HB2
  go_wp2_with fail
  refine (l6Roll_any w2.heap.size tb toff j E.p vc (E.T j) ui uc E.nx E.ck (rwL E) xs0 vb vd E.q M 0 W3 HRI.out (by omega) hj hp20 hn60 huc hsv HCT.out HFT.out (by omega) HUN.out (fun b off e => by have := HUB.out b off e; omega) (fit_start HH0.out hj) (fun i hi => (undo_row HH0.out hj hi).2) (fun r hr => by obtain ⟨k, hk, rfl⟩ := List.mem_map.1 hr; exact HR12.out k (List.mem_range.1 hk)) (by simp [rwL]; omega)).mono ?_
  rintro e S9 ⟨rfl, u, ra, rc, q, xs, hR, hS9⟩
  have hzu := hR.writes.size
  have hCTu : CTx u tb (toff + j * 5) (E.T j) ui uc := HCT.out.block (hR.writes.block tb (by omega) (.inl (by omega)))
  have hftu : ∀ i, u.frozen? ⟨tb, i, none⟩ = false := fun i => (World.frozen?_of_block (w := W3) (a := ⟨tb, i, none⟩) (hR.writes.block tb (by omega) (.inl (by omega)))).trans (HFT.out i)
  have hOTu : OwnTx u b0' M (some ⟨tb, toff, none⟩) E.p E.T := HOT3.out.writes hR.writes (.inl (by omega))
  obtain ⟨hql, hrp⟩ := hR.rowsP (by omega)
  have hw9 : Writes tb (tb + 1) u S9 := by rw [hS9]; exact Writes.setCell (Writes.refl _ _ _) (p := ⟨tb, toff + j * 5 + 4, none⟩) (Nat.le_refl _) (Nat.lt_succ_self _) _
  have hz9 : S9.heap.size = u.heap.size := by rw [hS9]; simp [World.setCell]
  obtain ⟨y0, y1, y2, y3, y4⟩ := hCTu
  have HC9 : Hid (CTx S9 tb (toff + j * 5) ⟨(E.T j).id, (E.T j).am, (E.T j).st, (E.T j).dn, 0, (E.T j).U⟩ ui uc) := by
    rw [hS9]
    exact ⟨(setO (by omega)).trans y0, (setO (by omega)).trans y1, (setO (by omega)).trans y2, (setO (by omega)).trans y3, World.cell?_setCell_same _ _ _ y4⟩
  have HF9 : Hid (∀ i, S9.frozen? ⟨tb, i, none⟩ = false) := fun i => by rw [hS9, World.frozen?_setCell]; exact hftu i
  have HT9 : Hid (OwnTx S9 b0' M (some ⟨tb, toff, none⟩) E.p (upf E.T j ⟨(E.T j).id, (E.T j).am, (E.T j).st, (E.T j).dn, 0, (E.T j).U⟩)) := by
    refine hOTu.cut hj hw9 (fun o' ho => by rw [hS9, setO (by omega)]) (fun i => by rw [hS9, World.frozen?_setCell]) (fun ui2 uc2 hC2 => ?_) hsv rfl
    have h4 := hC2.2.2.2.2
    rw [y4] at h4
    injection h4 with h4
    injection h4 with h4a h4b h4c
    subst h4a
    subst h4c
    exact HC9.out
  have HQ9 : Hid (OwnRwP S9 (fun x => M ≤ x ∧ x < u.heap.size) ra q (fun i => (unL (E.T j).id (E.T j).U (E.T j).n (rwL E) ((E.T j).n - 0)).getD i zRw)) := hrp.keep (by omega) fun x hx hl => hw9.block x hl (.inr (by omega))
  have HQL : Hid (q = (unL (E.T j).id (E.T j).U (E.T j).n (rwL E) ((E.T j).n - 0)).length) := hql
  have HBo9 : Hid (Box4 S9 w2.heap.size (.int .i64 E.nx) (.int .i64 E.ck) (.slice (some ⟨tb, toff, none⟩) E.p vc) (.slice ra q rc)) := hR.box.writes hw9 (.inr (by omega))
  have HR69 : Hid (Box6 S9 (w.heap.size + 1) (.int .i64 0) (.int .i64 0) (.int .i64 0) (.int .i64 0) (.slice none 0 0) (.slice none 0 0)) := (HR63.out.writes hR.writes (.inl (by omega))).writes hw9 (.inl (by omega))
  have HRF9 : Hid (∀ i, S9.frozen? ⟨w.heap.size + 1, i, none⟩ = false) := fun i => by
    rw [World.frozen?_of_block (w := u) (a := ⟨w.heap.size + 1, i, none⟩) (hw9.block (w.heap.size + 1) (by omega) (.inl (by omega))), World.frozen?_of_block (w := W3) (a := ⟨w.heap.size + 1, i, none⟩) (hR.writes.block (w.heap.size + 1) (by omega) (.inl (by omega)))]
    exact HRF3.out i
  have HB9 : Hid (Below w.heap.size w S9) := Writes.below (Writes.below HB3.out hR.writes (by omega)) hw9 (by omega)
  clear hS9 hR hw9 y0 y1 y2 y3 y4 hftu hOTu hrp hql HRI HUN HUB HR63 HRF3 HB3 HOT3
  obtain ⟨y0, y1, y2, y3, y4⟩ := HC9.out
  obtain ⟨T9, hT9⟩ : ∃ y, y = S9.setCell ⟨tb, toff + j * 5 + 2, none⟩ (.int .i64 3) := ⟨_, rfl⟩
  have hw8 : Writes tb (tb + 1) S9 T9 := by rw [hT9]; exact Writes.setCell (Writes.refl _ _ _) (p := ⟨tb, toff + j * 5 + 2, none⟩) (Nat.le_refl _) (Nat.lt_succ_self _) _
  have hz8 : T9.heap.size = S9.heap.size := by rw [hT9]; simp [World.setCell]
  have HT8 : Hid (OwnTx T9 b0' M (some ⟨tb, toff, none⟩) E.p (upf E.T j ⟨(E.T j).id, (E.T j).am, 3, (E.T j).dn, 0, (E.T j).U⟩)) := by
    have h9 := HT9.out.cut (t := ⟨(E.T j).id, (E.T j).am, 3, (E.T j).dn, 0, (E.T j).U⟩) hj hw8 (fun o' ho => by rw [hT9, setO (by omega)]) (fun i => by rw [hT9, World.frozen?_setCell]) (fun ui2 uc2 hC2 => ?_) (by rw [upf_eq]; exact Nat.le_refl _) (by rw [upf_eq])
    · rw [upf_upf9] at h9
      exact h9
    · rw [upf_eq] at hC2
      obtain ⟨k0, k1, k2, k3, k4⟩ := hC2
      rw [hT9]
      exact ⟨(setO (by omega)).trans k0, (setO (by omega)).trans k1, World.cell?_setCell_same _ _ _ k2, (setO (by omega)).trans k3, (setO (by omega)).trans k4⟩
  have HQ8 : Hid (OwnRwP T9 (fun x => M ≤ x ∧ x < u.heap.size) ra q (fun i => (unL (E.T j).id (E.T j).U (E.T j).n (rwL E) ((E.T j).n - 0)).getD i zRw)) := HQ9.out.keep (by omega) fun x hx hl => hw8.block x hl (.inr (by omega))
  have HB8 : Hid (Below w.heap.size w T9) := Writes.below HB9.out hw8 (by omega)
  have HBo8 : Hid (Box4 T9 w2.heap.size (.int .i64 E.nx) (.int .i64 E.ck) (.slice (some ⟨tb, toff, none⟩) E.p vc) (.slice ra q rc)) := HBo9.out.writes hw8 (.inr (by omega))
  have HR68 : Hid (Box6 T9 (w.heap.size + 1) (.int .i64 0) (.int .i64 0) (.int .i64 0) (.int .i64 0) (.slice none 0 0) (.slice none 0 0)) := HR69.out.writes hw8 (.inl (by omega))
  have HRF8 : Hid (∀ i, T9.frozen? ⟨w.heap.size + 1, i, none⟩ = false) := fun i => by
    rw [World.frozen?_of_block (w := S9) (a := ⟨w.heap.size + 1, i, none⟩) (hw8.block (w.heap.size + 1) (by omega) (.inl (by omega)))]
    exact HRF9.out i
  have HF : Hid (∀ w7, Writes (w.heap.size + 1) (w.heap.size + 2) T9 w7 → w7.heap.size = T9.heap.size → ERes2 (askC E id) 0 (abE E id) w (.returned (.agg #[.int .i64 0, .int .i64 0, .int .i64 E.nx, .int .i64 E.ck, .slice (some ⟨tb, toff, none⟩) E.p vc, .slice ra q rc])) w7) := fun w7 g7 z7 => by
    rw [HHC.out, HEQ.out]
    exact rl_res HB8.out HT8.out HQ8.out HQL.out g7 z7 (by omega) (by omega) (by omega)
  obtain ⟨d0, d1, d2, d3⟩ := HBo9.out
  have xf := HF9.out
  clear HC9 HF9 HT9 HQ9 HQL HBo9 HR69 HRF9 HB9 y0 y1 y3 y4 hw8 HT8 HQ8 HB8
  go_upto_region 7 with fail
  rw [← hT9]
  clear hT9 d0 d1 d2 d3 y2 xf
  obtain ⟨d0, d1, d2, d3⟩ := HBo8.out
  obtain ⟨r0, r1, r2, r3, r4, r5⟩ := HR68.out
  have rf := HRF8.out
  clear HBo8 HR68 HRF8
  go_wp2_with fail
  refine bodyPost_ret (v := .agg #[.int .i64 0, .int .i64 0, .int .i64 E.nx, .int .i64 E.ck, .slice (some ⟨tb, toff, none⟩) E.p vc, .slice ra q rc]) (by simp [results, Tryz.results8, go_sem, *]) rfl ?_
  refine HF.out _ ?_ (by simp [World.setCell])
  repeat (first | with_reducible exact Writes.refl _ _ _ | with_reducible refine Writes.setCell ?_ (by first | omega | (simp <;> omega)) (by first | omega | (simp <;> omega)) _)
theorem ab_small (E : En) (id : Int) : SmallE (abE E id) := by
  unfold abE
  split
  · rename_i hc
    obtain ⟨h0, j, hj, hp, -⟩ := ask_open hc
    rw [hp, Int.toNat_natCast]
    exact rl_small h0 hj (Nat.zero_le _)
  · exact zEn_small9
set_option maxHeartbeats 8000000 in
theorem abortTxnLaw_small (E : En) (a a' : Option Addr) (cap cap' : Nat) (id : Int) (w : World) (hn : E.p ≤ 9223372036854775807) (hL : ∀ i, i < E.p → (E.T i).n ≤ 9223372036854775807) (hm : E.q ≤ 9223372036854775807) (hM : ∀ i, i < E.q → (E.R i).n ≤ 9223372036854775807) (HA0 : EngAt w a a' E) (c v : Int) (G : En) (hG : SmallE G)
    (HP : Hid (SmallE E → ∀ (a a' : Option Addr) (w : World), EngAt w a a' E → Calls Tryz.prog 8 #[.agg #[.int .i64 E.nx, .int .i64 E.ck, .slice a E.p E.p, .slice a' E.q E.q], .int .i64 id] w (ERes2 c v G w)))
    (HQ : Hid (SmallE E → ∀ (a a' : Option Addr) (w : World), EngAt w a a' E → Calls Tryz.prog 10 #[.agg #[.int .i64 E.nx, .int .i64 E.ck, .slice a E.p E.p, .slice a' E.q E.q], .int .i64 id] w (ERes2 c v G w))) :
    Calls Tryz.prog 3 #[.agg #[.int .i64 E.nx, .int .i64 E.ck, .slice a E.p cap, .slice a' E.q cap'], .int .i64 id] w fun e w' => e = .returned (.bool true) ∧ Below w.heap.size w w' := by
  go_enter Tryz.func3, Tryz.ntmps3
  go_wp2_with fail
  refine (szEngine_any E a a' cap cap' _ hn hL hm hM (HA0.below (below_new _ _))).mono ?_
  rintro e w1 ⟨hb, r, rfl, hr⟩
  have hB : Below w.heap.size w w1 := below_then (below_new _ _) hb
  rcases hr with rfl | ⟨hr0, hr1⟩
  · go_wp2_with fail
    go_ret
    exact ⟨rfl, hB⟩
  have HS : SmallE E := smallE_of (by omega)
  have BA := (Box4.new w (.int .i64 E.nx) (.int .i64 E.ck) (.slice a E.p cap) (.slice a' E.q cap') 25).below hb
  have HA := HA0.below hB
  have sw1 : Hid (w.heap.size < w1.heap.size) := by have hq := hb.size; simp at hq; show w.heap.size < w1.heap.size; omega
  have hneg : ¬ (r < 0) := by omega
  clear hb hr0 hr1 hn hm hL hM
  have hneg2 : ¬ ((1 : Int) + (totE E : Int) < 0) := by omega
  have hneg3 : ¬ ((1 : Int) + (totE G : Int) < 0) := by omega
  have HTD : Hid (totE E ≤ 13631488) := totE_le HS
  have TA := BA
  obtain ⟨qA0, qA1, qA2, qA3⟩ := TA
  go_wp2_with fail
  refine (toEngine_any E a a' cap cap' _ HS HA).mono ?_
  rintro e w2 ⟨b1, b2, rfl, hb, ho⟩
  clear qA0 qA1 qA2 qA3
  replace hB := below_then hB hb
  replace BA := BA.below hb
  replace HA := HA.below hb
  have sw2 : Hid (w1.heap.size ≤ w2.heap.size) := by have hq := hb.size; show w1.heap.size ≤ w2.heap.size; omega
  have OT := ho.wide (Nat.le_refl _) (Nat.le_refl _) (Nat.le_refl _)
  clear ho
  clear hb
  go_wp2_with fail
  refine (HP.out HS _ _ _ OT.at).mono ?_
  rintro e w3 ⟨aw, cw, bw, dw, rfl, hb, OW⟩
  replace hB := below_then hB hb
  replace BA := BA.below hb
  replace OT := OT.below hb
  replace HA := HA.below hb
  have sw3 : Hid (w2.heap.size ≤ w3.heap.size) := by have hq := hb.size; show w2.heap.size ≤ w3.heap.size; omega
  clear hb
  clear OT
  have TA := BA
  obtain ⟨qA0, qA1, qA2, qA3⟩ := TA
  have rA0 := fun o : Obj => cell_alloc qA0 o
  have rA1 := fun o : Obj => cell_alloc qA1 o
  have rA2 := fun o : Obj => cell_alloc qA2 o
  have rA3 := fun o : Obj => cell_alloc qA3 o
  go_wp2_with fail
  refine (toEngine_any E a a' cap cap' _ HS (HA.below (below_new _ _))).mono ?_
  rintro e w4 ⟨bx, bx2, rfl, hb, ho⟩
  clear qA0 qA1 qA2 qA3 rA0 rA1 rA2 rA3
  replace hB := below_then hB (below_then (below_new _ _) hb)
  replace BA := (BA.alloc _).below hb
  have BW := (Box6.new w3 (.int .i64 c) (.int .i64 v) (.int .i64 G.nx) (.int .i64 G.ck) (.slice aw G.p cw) (.slice bw G.q dw) 32).below hb
  replace OW := (OW.below (below_new _ _)).below hb
  replace HA := (HA.below (below_new _ _)).below hb
  have sw4 : Hid (w3.heap.size < w4.heap.size) := by have hq := hb.size; simp at hq; show w3.heap.size < w4.heap.size; omega
  have OX : OwnE w4 (w3.heap.size + 1) w4.heap.size _ _ E := ho.wide (by simp) (Nat.le_refl _) (Nat.le_refl _)
  clear ho
  clear hb
  go_wp2_with fail
  refine (HQ.out HS _ _ _ (OX.at.below (below_new _ _))).mono ?_
  rintro e w5 ⟨ag, cg, bg, dg, rfl, hb, ho⟩
  replace hB := below_then hB (below_then (below_new _ _) hb)
  replace BA := (BA.alloc _).below hb
  replace BW := (BW.alloc _).below hb
  have BX := (Box4.new w4 (.int .i64 E.nx) (.int .i64 E.ck) (.slice (some ⟨bx, 0, none⟩) E.p E.p) (.slice (some ⟨bx2, 0, none⟩) E.q E.q) 30).below hb
  replace OW := (OW.below (below_new _ _)).below hb
  replace OX := (OX.below (below_new _ _)).below hb
  replace HA := (HA.below (below_new _ _)).below hb
  have sw5 : Hid (w4.heap.size < w5.heap.size) := by have hq := hb.size; simp at hq; show w4.heap.size < w5.heap.size; omega
  have OG : OwnE2 w5 (w4.heap.size + 1) w5.heap.size ag bg G := ho.wide (by simp) (Nat.le_refl _) (Nat.le_refl _)
  clear ho
  clear hb
  have TW := BW
  obtain ⟨qW0, qW1, qW2, qW3, qW4, qW5⟩ := TW
  have rW0 := fun o : Obj => cell_alloc qW0 o
  have rW1 := fun o : Obj => cell_alloc qW1 o
  have rW2 := fun o : Obj => cell_alloc qW2 o
  have rW3 := fun o : Obj => cell_alloc qW3 o
  have rW4 := fun o : Obj => cell_alloc qW4 o
  have rW5 := fun o : Obj => cell_alloc qW5 o
  go_wp2_with fail
  refine (eqEngineResult_same c v G ag bg aw bw cg dg cw dw _ hG (OG.at.below (below_new _ _)) (OW.at.below (below_new _ _))).mono ?_
  rintro e w6 ⟨rfl, hb⟩
  clear qW0 qW1 qW2 qW3 qW4 qW5 rW0 rW1 rW2 rW3 rW4 rW5
  replace hB := below_then hB (below_then (below_new _ _) hb)
  replace BA := (BA.alloc _).below hb
  replace BW := (BW.alloc _).below hb
  replace BX := (BX.alloc _).below hb
  have BG := (Box6.new w5 (.int .i64 c) (.int .i64 v) (.int .i64 G.nx) (.int .i64 G.ck) (.slice ag G.p cg) (.slice bg G.q dg) 32).below hb
  replace OW := (OW.below (below_new _ _)).below hb
  replace OX := (OX.below (below_new _ _)).below hb
  replace OG := (OG.below (below_new _ _)).below hb
  replace HA := (HA.below (below_new _ _)).below hb
  have sw6 : Hid (w5.heap.size < w6.heap.size) := by have hq := hb.size; simp at hq; show w5.heap.size < w6.heap.size; omega
  clear hb
  have TX := BX
  obtain ⟨qX0, qX1, qX2, qX3⟩ := TX
  have TA := BA
  obtain ⟨qA0, qA1, qA2, qA3⟩ := TA
  go_wp2_with fail
  have hb0 : Below w6.heap.size w6 w6.drew := (Below.refl _ _).drew
  go_region_held3 (fun w' => Below w6.heap.size w6 w' ∧ w'.cell? ⟨w4.heap.size, 0, none⟩ = some (.int .i64 E.nx) ∧ w'.cell? ⟨w4.heap.size, 1, none⟩ = some (.int .i64 E.ck) ∧ w'.cell? ⟨w4.heap.size, 2, none⟩ = some (.slice (some ⟨bx, 0, none⟩) E.p E.p) ∧ w'.cell? ⟨w4.heap.size, 3, none⟩ = some (.slice (some ⟨bx2, 0, none⟩) E.q E.q) ∧ w'.cell? ⟨w.heap.size, 0, none⟩ = some (.int .i64 E.nx) ∧ w'.cell? ⟨w.heap.size, 1, none⟩ = some (.int .i64 E.ck) ∧ w'.cell? ⟨w.heap.size, 2, none⟩ = some (.slice a E.p cap) ∧ w'.cell? ⟨w.heap.size, 3, none⟩ = some (.slice a' E.q cap')) (go_keep)
    (first | (go_at_call 9; refine (toEngine_any E a a' cap cap' _ HS (HA.below (by simp [*]))).mono ?_; rintro e wq ⟨bq, bq2, rfl, hbq, hoq⟩; have hU := below_then (w := w6) (by simp [*]) hbq; have hU0 := cell_below (B := w4.heap.size) (o := 0) (v := .int .i64 E.nx) (by simp [*]) hbq; have hU1 := cell_below (B := w4.heap.size) (o := 1) (v := .int .i64 E.ck) (by simp [*]) hbq; have hU2 := cell_below (B := w4.heap.size) (o := 2) (v := .slice (some ⟨bx, 0, none⟩) E.p E.p) (by simp [*]) hbq; have hU3 := cell_below (B := w4.heap.size) (o := 3) (v := .slice (some ⟨bx2, 0, none⟩) E.q E.q) (by simp [*]) hbq; have hU4 := cell_below (B := w.heap.size) (o := 0) (v := .int .i64 E.nx) (by simp [*]) hbq; have hU5 := cell_below (B := w.heap.size) (o := 1) (v := .int .i64 E.ck) (by simp [*]) hbq; have hU6 := cell_below (B := w.heap.size) (o := 2) (v := .slice a E.p cap) (by simp [*]) hbq; have hU7 := cell_below (B := w.heap.size) (o := 3) (v := .slice a' E.q cap') (by simp [*]) hbq) | (go_at_call 12; refine (eqEngine_same E _ _ _ _ E.p E.q E.p E.q _ HS (OX.at.below (by simp [*])) hoq.at).mono ?_; rintro e w7 ⟨rfl, hbz⟩; have hS := below_then (w := w6) (by simp [*]) hbz; have hS0 := cell_below (B := w4.heap.size) (o := 0) (v := .int .i64 E.nx) (by simp [*]) hbz; have hS1 := cell_below (B := w4.heap.size) (o := 1) (v := .int .i64 E.ck) (by simp [*]) hbz; have hS2 := cell_below (B := w4.heap.size) (o := 2) (v := .slice (some ⟨bx, 0, none⟩) E.p E.p) (by simp [*]) hbz; have hS3 := cell_below (B := w4.heap.size) (o := 3) (v := .slice (some ⟨bx2, 0, none⟩) E.q E.q) (by simp [*]) hbz; have hS4 := cell_below (B := w.heap.size) (o := 0) (v := .int .i64 E.nx) (by simp [*]) hbz; have hS5 := cell_below (B := w.heap.size) (o := 1) (v := .int .i64 E.ck) (by simp [*]) hbz; have hS6 := cell_below (B := w.heap.size) (o := 2) (v := .slice a E.p cap) (by simp [*]) hbz; have hS7 := cell_below (B := w.heap.size) (o := 3) (v := .slice a' E.q cap') (by simp [*]) hbz))
  clear qX0 qX1 qX2 qX3 qA0 qA1 qA2 qA3
  clear hb0 hU hU0 hU1 hU2 hU3 hU4 hU5 hU6 hU7 hS0 hS1 hS2 hS3 hS4 hS5 hS6 hS7 hbq hoq hbz
  replace hB := below_then hB hS
  replace BA := BA.below hS
  replace BW := BW.below hS
  replace BX := BX.below hS
  replace BG := BG.below hS
  replace OW := OW.below hS
  replace OX := OX.below hS
  replace OG := OG.below hS
  replace HA := HA.below hS
  have sw7 : Hid (w6.heap.size ≤ w7.heap.size) := by have hq := hS.size; show w6.heap.size ≤ w7.heap.size; omega
  clear hS
  have TX := BX
  obtain ⟨qX0, qX1, qX2, qX3⟩ := TX
  go_wp2_with fail
  refine (markEngine_any E _ _ E.p E.q (w3.heap.size + 1) w4.heap.size 1 _ HS (by omega) (by omega) OX).mono ?_
  rintro e w8 ⟨rfl, hw, hox⟩
  clear qX0 qX1 qX2 qX3
  replace hB := Writes.below hB hw (by have t0 := sw1.out; have t1 := sw2.out; have t2 := sw3.out; have t3 := sw4.out; have t4 := sw5.out; have t5 := sw6.out; have t6 := sw7.out; omega)
  replace BA := BA.writes hw (by have t0 := sw1.out; have t1 := sw2.out; have t2 := sw3.out; have t3 := sw4.out; have t4 := sw5.out; have t5 := sw6.out; have t6 := sw7.out; omega)
  replace BW := BW.writes hw (by have t0 := sw1.out; have t1 := sw2.out; have t2 := sw3.out; have t3 := sw4.out; have t4 := sw5.out; have t5 := sw6.out; have t6 := sw7.out; omega)
  replace BX := BX.writes hw (by have t0 := sw1.out; have t1 := sw2.out; have t2 := sw3.out; have t3 := sw4.out; have t4 := sw5.out; have t5 := sw6.out; have t6 := sw7.out; omega)
  replace BG := BG.writes hw (by have t0 := sw1.out; have t1 := sw2.out; have t2 := sw3.out; have t3 := sw4.out; have t4 := sw5.out; have t5 := sw6.out; have t6 := sw7.out; omega)
  replace OW := OW.writes hw (by have t0 := sw1.out; have t1 := sw2.out; have t2 := sw3.out; have t3 := sw4.out; have t4 := sw5.out; have t5 := sw6.out; have t6 := sw7.out; omega)
  replace OG := OG.writes hw (by have t0 := sw1.out; have t1 := sw2.out; have t2 := sw3.out; have t3 := sw4.out; have t4 := sw5.out; have t5 := sw6.out; have t6 := sw7.out; omega)
  replace HA := HA0.below hB
  have sw8 : Hid (w7.heap.size ≤ w8.heap.size) := by have hq := hw.size; show w7.heap.size ≤ w8.heap.size; omega
  clear hw
  clear hox OX
  have TG := BG
  obtain ⟨qG0, qG1, qG2, qG3, qG4, qG5⟩ := TG
  have TW := BW
  obtain ⟨qW0, qW1, qW2, qW3, qW4, qW5⟩ := TW
  go_wp2_with fail
  refine (eqEngineResult_same c v G ag bg aw bw cg dg cw dw _ hG OG.at OW.at).mono ?_
  rintro e w9 ⟨rfl, hb⟩
  clear qG0 qG1 qG2 qG3 qG4 qG5 qW0 qW1 qW2 qW3 qW4 qW5
  replace hB := below_then hB hb
  replace BA := BA.below hb
  replace BW := BW.below hb
  replace BX := BX.below hb
  replace BG := BG.below hb
  replace OW := OW.below hb
  replace OG := OG.below hb
  replace HA := HA.below hb
  have sw9 : Hid (w8.heap.size ≤ w9.heap.size) := by have hq := hb.size; show w8.heap.size ≤ w9.heap.size; omega
  clear hb
  have TG := BG
  obtain ⟨qG0, qG1, qG2, qG3, qG4, qG5⟩ := TG
  go_wp2_with fail
  refine (markEngineResult_2 c v G ag bg cg dg (w4.heap.size + 1) w5.heap.size _ hG OG).mono ?_
  rintro e w10 ⟨rfl, hw, hog⟩
  clear qG0 qG1 qG2 qG3 qG4 qG5
  replace hB := Writes.below hB hw (by have t0 := sw1.out; have t1 := sw2.out; have t2 := sw3.out; have t3 := sw4.out; have t4 := sw5.out; have t5 := sw6.out; have t6 := sw7.out; have t7 := sw8.out; have t8 := sw9.out; omega)
  replace BA := BA.writes hw (by have t0 := sw1.out; have t1 := sw2.out; have t2 := sw3.out; have t3 := sw4.out; have t4 := sw5.out; have t5 := sw6.out; have t6 := sw7.out; have t7 := sw8.out; have t8 := sw9.out; omega)
  replace BW := BW.writes hw (by have t0 := sw1.out; have t1 := sw2.out; have t2 := sw3.out; have t3 := sw4.out; have t4 := sw5.out; have t5 := sw6.out; have t6 := sw7.out; have t7 := sw8.out; have t8 := sw9.out; omega)
  replace BX := BX.writes hw (by have t0 := sw1.out; have t1 := sw2.out; have t2 := sw3.out; have t3 := sw4.out; have t4 := sw5.out; have t5 := sw6.out; have t6 := sw7.out; have t7 := sw8.out; have t8 := sw9.out; omega)
  replace BG := BG.writes hw (by have t0 := sw1.out; have t1 := sw2.out; have t2 := sw3.out; have t3 := sw4.out; have t4 := sw5.out; have t5 := sw6.out; have t6 := sw7.out; have t7 := sw8.out; have t8 := sw9.out; omega)
  replace OW := OW.writes hw (by have t0 := sw1.out; have t1 := sw2.out; have t2 := sw3.out; have t3 := sw4.out; have t4 := sw5.out; have t5 := sw6.out; have t6 := sw7.out; have t7 := sw8.out; have t8 := sw9.out; omega)
  replace HA := HA0.below hB
  have sw10 : Hid (w9.heap.size ≤ w10.heap.size) := by have hq := hw.size; show w9.heap.size ≤ w10.heap.size; omega
  clear hw
  clear OG
  have OG := hog
  clear hog
  have TG := BG
  obtain ⟨qG0, qG1, qG2, qG3, qG4, qG5⟩ := TG
  go_wp2_with fail
  refine (heldEngineResult_any c v G ag bg cg dg G.nx G.ck _ hG OG.at).mono ?_
  rintro e w11 ⟨rfl, hb⟩
  clear qG0 qG1 qG2 qG3 qG4 qG5
  replace hB := below_then hB hb
  replace BA := BA.below hb
  replace BW := BW.below hb
  replace BX := BX.below hb
  replace BG := BG.below hb
  replace OW := OW.below hb
  replace OG := OG.below hb
  replace HA := HA.below hb
  have sw11 : Hid (w10.heap.size ≤ w11.heap.size) := by have hq := hb.size; show w10.heap.size ≤ w11.heap.size; omega
  clear hb
  have TA := BA
  obtain ⟨qA0, qA1, qA2, qA3⟩ := TA
  go_wp2_with fail
  refine (toEngine_any E a a' cap cap' _ HS HA).mono ?_
  rintro e w12 ⟨bv, bv2, rfl, hb, ho⟩
  clear qA0 qA1 qA2 qA3
  replace hB := below_then hB hb
  replace BA := BA.below hb
  replace BW := BW.below hb
  replace BX := BX.below hb
  replace BG := BG.below hb
  replace OW := OW.below hb
  replace OG := OG.below hb
  replace HA := HA.below hb
  have sw12 : Hid (w11.heap.size ≤ w12.heap.size) := by have hq := hb.size; show w11.heap.size ≤ w12.heap.size; omega
  have OT := ho.wide (Nat.le_refl _) (Nat.le_refl _) (Nat.le_refl _)
  clear ho
  clear hb
  go_wp2_with fail
  refine (HQ.out HS _ _ _ OT.at).mono ?_
  rintro e w13 ⟨ah, ch, bh, dh, rfl, hb, OH⟩
  replace hB := below_then hB hb
  replace BA := BA.below hb
  replace BW := BW.below hb
  replace BX := BX.below hb
  replace BG := BG.below hb
  replace OW := OW.below hb
  replace OG := OG.below hb
  replace OT := OT.below hb
  replace HA := HA.below hb
  have sw13 : Hid (w12.heap.size ≤ w13.heap.size) := by have hq := hb.size; show w12.heap.size ≤ w13.heap.size; omega
  clear hb
  clear OT
  have TW := BW
  obtain ⟨qW0, qW1, qW2, qW3, qW4, qW5⟩ := TW
  have rW0 := fun o : Obj => cell_alloc qW0 o
  have rW1 := fun o : Obj => cell_alloc qW1 o
  have rW2 := fun o : Obj => cell_alloc qW2 o
  have rW3 := fun o : Obj => cell_alloc qW3 o
  have rW4 := fun o : Obj => cell_alloc qW4 o
  have rW5 := fun o : Obj => cell_alloc qW5 o
  go_wp2_with fail
  refine (eqEngineResult_same c v G ah bh aw bw ch dh cw dw _ hG (OH.at.below (below_new _ _)) (OW.at.below (below_new _ _))).mono ?_
  rintro e w14 ⟨rfl, hb⟩
  clear qW0 qW1 qW2 qW3 qW4 qW5 rW0 rW1 rW2 rW3 rW4 rW5
  replace hB := below_then hB (below_then (below_new _ _) hb)
  replace BA := (BA.alloc _).below hb
  replace BW := (BW.alloc _).below hb
  replace BX := (BX.alloc _).below hb
  replace BG := (BG.alloc _).below hb
  have BH := (Box6.new w13 (.int .i64 c) (.int .i64 v) (.int .i64 G.nx) (.int .i64 G.ck) (.slice ah G.p ch) (.slice bh G.q dh) 32).below hb
  replace OW := (OW.below (below_new _ _)).below hb
  replace OG := (OG.below (below_new _ _)).below hb
  replace OH := (OH.below (below_new _ _)).below hb
  replace HA := (HA.below (below_new _ _)).below hb
  have sw14 : Hid (w13.heap.size < w14.heap.size) := by have hq := hb.size; simp at hq; show w13.heap.size < w14.heap.size; omega
  clear hb
  have TG := BG
  obtain ⟨qG0, qG1, qG2, qG3, qG4, qG5⟩ := TG
  go_wp2_with fail
  refine (heldEngineResult_any c v G ag bg cg dg G.nx G.ck _ hG OG.at).mono ?_
  rintro e w15 ⟨rfl, hb⟩
  clear qG0 qG1 qG2 qG3 qG4 qG5
  replace hB := below_then hB hb
  replace BA := BA.below hb
  replace BW := BW.below hb
  replace BX := BX.below hb
  replace BG := BG.below hb
  replace BH := BH.below hb
  replace OW := OW.below hb
  replace OG := OG.below hb
  replace OH := OH.below hb
  replace HA := HA.below hb
  have sw15 : Hid (w14.heap.size ≤ w15.heap.size) := by have hq := hb.size; show w14.heap.size ≤ w15.heap.size; omega
  clear hb
  go_wp2_with fail
  go_ret
  exact ⟨rfl, hB⟩
theorem abortTxnLaw (E : En) (a a' : Option Addr) (cap cap' : Nat) (id : Int) (w : World) (hn : E.p ≤ 9223372036854775807) (hL : ∀ i, i < E.p → (E.T i).n ≤ 9223372036854775807) (hm : E.q ≤ 9223372036854775807) (hM : ∀ i, i < E.q → (E.R i).n ≤ 9223372036854775807) (HA0 : EngAt w a a' E) :
    Calls Tryz.prog 3 #[.agg #[.int .i64 E.nx, .int .i64 E.ck, .slice a E.p cap, .slice a' E.q cap'], .int .i64 id] w fun e w' => e = .returned (.bool true) ∧ Below w.heap.size w w' :=
  abortTxnLaw_small E a a' cap cap' id w hn hL hm hM HA0 (askC E id) 0 (abE E id) (ab_small E id) (fun hs a a' w h => specAb_any E a E.p a' E.q id w hs h) (fun hs a a' w h => implAb_any E a E.p a' E.q id w hs h)
end Go.Proofs.YtabkgncnanlapaaGreat
