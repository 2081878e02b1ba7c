/- impl.MergeActs. -/
import Derived.Test.YtcfenhnggccmmaaAmf
namespace Go.Proofs.Ytcfenhnggccmmaa
open Go.ChangeShapes Go.WideShapes Go.ChangeAt Go.RowKit Go.Deep Go.Joins
set_option linter.unusedVariables false
set_option linter.unusedSimpArgs false
set_option maxRecDepth 20000

theorem upf9_id {α : Type} (f : Nat → α) (p : Nat) (x : α) (h : f p = x) : upf9 f p x = f := by
  funext q
  by_cases e : q = p
  · rw [e, upf9_eq, h]
  · rw [upf9_ne _ _ e]
theorem upf9_act (T : Nat → Al) (nx : Nat → Nat) (p j : Nat) : upf9 (fun i => actL (T i) (nx i)) p (actL (T p) j) = fun i => actL (T i) (upf9 nx p j i) := by
  funext q
  by_cases e : q = p
  · rw [e, upf9_eq, upf9_eq]
  · rw [upf9_ne _ _ e, upf9_ne _ _ e]
set_option maxHeartbeats 16000000 in
theorem implMg_any (n : Nat) (T : Nat → Al) (a : Option Addr) (cap : Nat) (m : Nat) (P : Nat → Int) (d : Option Addr) (dc : Nat) (w : World) (hn : n ≤ 1048576) (hL : SmAl n T) (hm : m ≤ 1048576) (h : AlsAt w a n T) (hd : IntsAt w d m P) :
    Calls Try.prog 24 #[.slice a n cap, .slice d m dc] w (MRes (mgF n T m P) (mgK T P m).xs (mgK T P m).ws w) := by
  have HA : Hid (AlsAt w a n T) := h
  have HD : Hid (IntsAt w d m P) := hd
  have HL : Hid (SmAl n T) := hL
  clear h hd hL
  go_enter Try.func24, Try.ntmps24
  go_wp2_with fail
  refine (mergeFault_any n T a cap m P d dc _ hn HL.out hm (HA.out.below (below_new _ _)) (HD.out.below (below_new _ _))).mono ?_
  rintro e w1 ⟨rfl, hw1⟩
  by_cases hc : mgF n T m P = 0
  case neg =>
    have hb1 := below_new w (.cells #[.int .i64 0, .slice none 0 0, .slice none 0 0] 44)
    obtain ⟨r0, r1, r2⟩ := (Box3.new w (.int .i64 0) (.slice none 0 0) (.slice none 0 0) 44).below hw1
    have rf : ∀ i, w1.frozen? ⟨w.heap.size, i, none⟩ = false := fun i => by
      rw [World.frozen?_of_block (w := w.alloc (.cells #[.int .i64 0, .slice none 0 0, .slice none 0 0] 44)) (a := ⟨w.heap.size, i, none⟩) (hw1.block _ (by simp))]
      simp [go_sem]
    have HBW : Hid (Below w.heap.size w w1) := below_then hb1 hw1
    have hc2 : (mgF n T m P != 0) = true := by simpa using hc
    have HF : Hid (∀ w7, Below w.heap.size w w7 → MRes (mgF n T m P) (mgK T P m).xs (mgK T P m).ws w (.returned (.agg #[.int .i64 (mgF n T m P), .slice none 0 0, .slice none 0 0])) w7) := fun w7 hb => mres_bad hb hc
    clear hc hw1 hb1
    generalize mgF n T m P = uu at *
    go_wp2_with fail
    refine bodyPost_ret (v := .agg #[.int .i64 uu, .slice none 0 0, .slice none 0 0]) (by simp [results, Try.results24, go_sem, *]) rfl ?_
    refine HF.out _ ?_
    repeat (first | with_reducible exact HBW.out | with_reducible refine Below.setCell ?_ (by first | omega | (simp <;> omega)) _)
  have hm8 : m ≤ 80 := (mgF_ok hc).2.1
  have HSF : Hid (∀ i, i < n → (T i).n ≤ 12) := (sF_few (mgF_ok hc).1).2.2.1
  have HKD : Hid (∀ i, i < n → ∀ j, j < (T i).n → 2 ≤ ((T i).R j).k ∧ ((T i).R j).k ≤ 7) := fun i hi j hj => by have h := (sF_few (mgF_ok hc).1).2.2.2 i hi j hj; exact ⟨h.1, h.2.1⟩
  have hn1 : 0 < n := (sF_few (mgF_ok hc).1).1
  have hn5 : n ≤ 5 := (sF_few (mgF_ok hc).1).2.1
  have HPK : Hid (∀ j, j < m → 0 ≤ P j ∧ P j < n) := (mgF_ok hc).2.2
  have HC0 : Hid (mgF n T m P = 0) := hc
  have HW1 : Hid (Below (w.alloc (.cells #[.int .i64 0, .slice none 0 0, .slice none 0 0] 44)).heap.size (w.alloc (.cells #[.int .i64 0, .slice none 0 0, .slice none 0 0] 44)) w1) := hw1
  have HB1 : Hid (Below w.heap.size w w1) := below_then (below_new _ _) hw1
  rw [hc]
  clear hc hw1
  go_wp2_with fail
  refine (turnsOf_any n T a cap _ hn5 HSF.out (HA.out.below HB1.out)).mono ?_
  rintro e w2 ⟨v, bl, rfl, hT⟩
  obtain ⟨tb, tc, rfl, htc, hst⟩ := MpI.start (o := .cells #[.int .i64 0, .slice none 0 0, .slice none 0 0] 44) rfl hn1 HW1.out hT
  have HST : Hid (∀ o : Obj, o = .cells #[.int .i64 0, .slice none 0 0, .slice none 0 0] 44 → MpI w (w2.alloc o) n w2.heap.size tb (.slice none 0 0) (.slice none 0 0) bl (mgK T P 0).id (fun i => actL (T i) ((mgK T P 0).nx i)) (mgK T P 0).xs (mgK T P 0).ws) := by rintro o rfl; exact hst
  clear hst hT HW1 HB1
  obtain ⟨B, hB⟩ : ∃ B, B = w2.heap.size := ⟨_, rfl⟩
  have HBE : Hid (B = w2.heap.size) := hB
  go_wp2_with fail
  rw [← hB] at HST ⊢
  clear hB
  go_loopw [7, 10, 11, 23] (fun num _ _ i wr => ∃ k v1 v2, k ≤ m ∧ i = .int .i64 (k : Nat) ∧ num = .int .i64 (mgK T P k).num ∧ Hid (MpI w wr n B tb v1 v2 bl (mgK T P k).id (fun i => actL (T i) ((mgK T P k).nx i)) (mgK T P k).xs (mgK T P k).ws)) (fun _ _ _ i _ => m - (intOf i).toNat)
  case atStart => exact ⟨0, _, _, Nat.zero_le _, rfl, rfl, HST.out _ rfl⟩
  case round =>
    clear HST HBE
    obtain ⟨k, v1, v2, hk, rfl, rfl, HO⟩ := hrel
    have HMB : Hid (MgB (mgK T P k) k) := mgK_b T P k
    by_cases hlt : k < m
    · have hlt' : (k : Int) < (m : Int) := by omega
      have hk0 : (0 : Int) ≤ (k : Int) := by omega
      have hn0 := HMB.out.n0
      have hn1' := HMB.out.n1
      obtain ⟨p, hp⟩ : ∃ p : Nat, P k = p := ⟨(P k).toNat, by have := (HPK.out k hlt).1; omega⟩
      have hpn : p < n := by have := (HPK.out k hlt).2; omega
      have HE0 : Hid (mgK T P (k + 1) = mgN T p (mgK T P k)) := by show mgN T (P k).toNat _ = _; rw [hp]; rfl
      rcases HD.out.below HO.out.below with h | ⟨bb, off, rfl, hl, hcc⟩
      · omega
      have x0 := hcc k hlt
      rw [hp] at x0
      have x1 := HO.out.t p hpn
      unfold tkV at x1
      obtain ⟨hbl0, hbl1, hbl2, hbl3⟩ := HO.out.s p hpn
      have hp' : (p : Int) < (n : Int) := by omega
      have hp0 : (0 : Int) ≤ (p : Int) := by omega
      have HXL : Hid ((mgK T P k).xs.length ≤ 100000 ∧ (mgK T P k).ws.length ≤ 100000) := by have h1 := HMB.out.x; have h2 := HMB.out.y; show _ ∧ _; omega
      clear hcc hp HMB
      generalize hid : (mgK T P k).id p = id0 at *
      generalize hnx : (mgK T P k).nx p = j0 at *
      have Hid0 : Hid ((mgK T P k).id p = id0) := hid
      have Hnx0 : Hid ((mgK T P k).nx p = j0) := hnx
      clear hid
      replace hbl3 : Ses wr (bl p) id0 (actL (T p) j0) := by simpa [hnx] using hbl3
      have HS3 : Hid (Ses wr (bl p) id0 (actL (T p) j0)) := hbl3
      clear hnx hbl3
      generalize hnum : (mgK T P k).num = num at *
      have Hnum : Hid ((mgK T P k).num = num) := hnum
      clear hnum
      have hBz := HO.out.hsz
      go_wp2_with fail
      refine (take_any (bl p) id0 num (actL (T p) j0) _ (actL_len _ _) HS3.out).mono ?_
      rintro e w1 ⟨rfl, hs1, hw1⟩
      have HT0 := HO.out.take hpn hw1 hs1
      clear hw1 hs1 x0 x1 HO
      by_cases hz : id0 = 0
      · have HE1 : Hid (mgK T P (k + 1) = ⟨upf9 (mgK T P k).id p num, (mgK T P k).nx, num + 1, (mgK T P k).xs ++ [⟨1, 0, 0, 0⟩], (mgK T P k).ws ++ [(p : Int)]⟩) := by
          show _ = _
          rw [HE0.out, mgN, if_pos (Hid0.out.trans hz), Hnum.out]
        have et : takeV id0 (actL (T p) j0) = ⟨1, 0, 0, 0⟩ := by unfold takeV; rw [if_pos hz]
        have e1 : takeId id0 num = num := by unfold takeId; rw [if_pos hz]
        have e2 : takeL id0 (actL (T p) j0) = actL (T p) j0 := by unfold takeL; rw [if_pos hz]
        rw [e1, e2, upf9_id (fun i => actL (T i) ((mgK T P k).nx i)) p _ (by show actL (T p) _ = _; rw [Hnx0.out])] at HT0
        have HT : Hid (∀ o : Obj, MpI w (w1.alloc o) n B tb v1 v2 bl (upf9 (mgK T P k).id p num) (fun i => actL (T i) ((mgK T P k).nx i)) (mgK T P k).xs (mgK T P k).ws) := fun o => HT0.mono (below_new _ _)
        rw [et]
        have HBZ : Hid (B + 1 ≤ w1.heap.size) := HT0.hsz
        have hb1 := fun o : Obj => (HT.out o).b.2.1
        have hb2' := fun o : Obj => (HT.out o).b.2.2
        have hbf := fun o : Obj => (HT.out o).bf
        clear hz HE0 et e1 e2 HT0
        go_wp2_with fail
        refine (isActKind_any 1 _).mono ?_
        rintro e w1' ⟨rfl, hw1'⟩
        subst hw1'
        rw [show inB 1 1 7 = true from rfl]
        have HTA : Hid (∀ o o2 : Obj, MpI w ((w1.alloc o).alloc o2) n B tb v1 v2 bl (upf9 (mgK T P k).id p num) (fun i => actL (T i) ((mgK T P k).nx i)) (mgK T P k).xs (mgK T P k).ws) := fun o o2 => (HT.out o).mono (below_new _ _)
        have HTB : Hid (∀ o : Obj, MpI w ((w1.alloc (.cells #[.int .i64 1, .int .i64 0, .int .i64 0, .int .i64 0] 53)).alloc o) n B tb v1 v2 bl (upf9 (mgK T P k).id p num) (fun i => actL (T i) ((mgK T P k).nx i)) (mgK T P k).xs (mgK T P k).ws) := fun o => HTA.out _ o
        go_wp2_with (at_builtin; refine wpList_appAc _ rfl (.tmp 43) (.tmp 45) rfl (B + 1) v1 (mgK T P k).xs rfl (HTB.out _).own.1 (w1.heap.size + 1) 0 1 ⟨1, 0, 0, 0⟩ rfl (by simp [CAc, go_sem, World.setCell]) (by have h := HBZ.out; simp; omega) HXL.out.1 ?_)
        intro g c w3 ho3 hg3 hl3 hlt3
        obtain ⟨hn3, b3, f3⟩ := MpI.one1 (HTB.out _) hg3 ho3 (hl3.imp id fun h => by simpa [World.setCell] using h)
        have HO4 : Hid (MpI w (w3.setCell ⟨B, 1, none⟩ (.slice (some ⟨g, 0, none⟩) ((mgK T P k).xs.length + 1) c)) n B tb (.slice (some ⟨g, 0, none⟩) ((mgK T P k).xs.length + 1) c) v2 bl (upf9 (mgK T P k).id p num) (fun i => actL (T i) ((mgK T P k).nx i)) ((mgK T P k).xs ++ [⟨1, 0, 0, 0⟩]) (mgK T P k).ws) := hn3
        obtain ⟨q0, q1, q2⟩ := b3
        have hsz3 := HO4.out.hsz
        have hbf3 := HO4.out.bf
        have hb32 := HO4.out.b.2.2
        have HO5 : Hid (∀ o : Obj, MpI w ((w3.setCell ⟨B, 1, none⟩ (.slice (some ⟨g, 0, none⟩) ((mgK T P k).xs.length + 1) c)).alloc o) n B tb (.slice (some ⟨g, 0, none⟩) ((mgK T P k).xs.length + 1) c) v2 bl (upf9 (mgK T P k).id p num) (fun i => actL (T i) ((mgK T P k).nx i)) ((mgK T P k).xs ++ [⟨1, 0, 0, 0⟩]) (mgK T P k).ws) := fun o => HO4.out.mono (below_new _ _)
        clear hn3 hl3 ho3 hg3 hb1 hb2' hbf
        generalize ((mgK T P k).xs.length + 1) = len3 at *
        go_wp2_with (at_builtin; refine wpList_appIL _ rfl (.tmp 49) (.tmp 51) rfl (B + 1) v2 (mgK T P k).ws rfl (HO5.out _).own.2.1 w3.heap.size 0 1 p rfl (by simp [go_sem, World.setCell]) (by simp [World.setCell] at hsz3 ⊢; omega) HXL.out.2 ?_)
        intro g4 c4 w4 ho4 hg4 hl4 hlt4
        obtain ⟨hn4, b4, f4⟩ := MpI.one2 (HO5.out _) hg4 ho4 (hl4.imp id fun h => by simpa [World.setCell] using h)
        have HO6 : Hid (MpI w (w4.setCell ⟨B, 2, none⟩ (.slice (some ⟨g4, 0, none⟩) ((mgK T P k).ws.length + 1) c4)) n B tb (.slice (some ⟨g, 0, none⟩) len3 c) (.slice (some ⟨g4, 0, none⟩) ((mgK T P k).ws.length + 1) c4) bl (upf9 (mgK T P k).id p num) (fun i => actL (T i) ((mgK T P k).nx i)) ((mgK T P k).xs ++ [⟨1, 0, 0, 0⟩]) ((mgK T P k).ws ++ [(p : Int)])) := hn4
        obtain ⟨r40, r41, r42⟩ := b4
        clear hn4 hl4 ho4 hg4 q0 q1 q2 hb32 HO5 HO4
        generalize ((mgK T P k).ws.length + 1) = len4 at *
        go_wp2_with fail
        go_roundw
        case rel => exact ⟨k + 1, _, _, hlt, by go_num, by rw [HE1.out], by rw [HE1.out]; exact HO6⟩
        case measure => first | (simp [intOf]; done) | (simp [intOf]; omega)
      · have e1 : takeId id0 num = id0 := by unfold takeId; rw [if_neg hz]
        have hj12 : (T p).n ≤ j0 + 12 := by have := HSF.out p hpn; omega
        have e2 : takeL id0 (actL (T p) j0) = actL (T p) (j0 + 1) := by unfold takeL; rw [if_neg hz]; exact actL_shift _ _ hj12
        have et : takeV id0 (actL (T p) j0) = ⟨(actF (T p) j0).k, id0, (actF (T p) j0).y, (actF (T p) j0).o⟩ := by unfold takeV; rw [if_neg hz, actL_head]
        rw [e1, e2, upf9_id _ p _ Hid0.out] at HT0
        rw [et]
        clear e1 e2 et
        by_cases hjn : j0 < (T p).n
        · have HE1 : Hid (mgK T P (k + 1) = ⟨(mgK T P k).id, upf9 (mgK T P k).nx p (j0 + 1), num, (mgK T P k).xs ++ [⟨((T p).R j0).k, id0, ((T p).R j0).y, ((T p).R j0).o⟩], (mgK T P k).ws ++ [(p : Int)]⟩) := by
            show _ = _
            rw [HE0.out, mgN, if_neg (fun h => hz (Hid0.out.symm.trans h)), Hnx0.out, Hid0.out, Hnum.out, if_pos hjn]
          rw [upf9_act] at HT0
          have ea : actF (T p) j0 = (T p).R j0 := by unfold actF; rw [if_pos hjn]
          rw [ea]
          have hkd := HKD.out p hpn j0 hjn
          generalize (T p).R j0 = rr at *
          have hk1 : inB rr.k 1 7 = true := by simp only [inB, decide_eq_true_eq, Bool.and_eq_true]; omega
          have hk2 : (rr.k == 1) = false := by simp; omega
          have HT : Hid (∀ o : Obj, MpI w (w1.alloc o) n B tb v1 v2 bl (mgK T P k).id (fun i => actL (T i) (upf9 (mgK T P k).nx p (j0 + 1) i)) (mgK T P k).xs (mgK T P k).ws) := fun o => HT0.mono (below_new _ _)
          have HBZ : Hid (B + 1 ≤ w1.heap.size) := HT0.hsz
          have hb1 := fun o : Obj => (HT.out o).b.2.1
          have hb2' := fun o : Obj => (HT.out o).b.2.2
          have hbf := fun o : Obj => (HT.out o).bf
          clear hz HE0 HT0 ea hkd
          go_wp2_with fail
          refine (isActKind_any rr.k _).mono ?_
          rintro e w1' ⟨rfl, hw1'⟩
          subst hw1'
          rw [hk1]
          have HTA : Hid (∀ o o2 : Obj, MpI w ((w1.alloc o).alloc o2) n B tb v1 v2 bl (mgK T P k).id (fun i => actL (T i) (upf9 (mgK T P k).nx p (j0 + 1) i)) (mgK T P k).xs (mgK T P k).ws) := fun o o2 => (HT.out o).mono (below_new _ _)
          have HTB : Hid (∀ o : Obj, MpI w ((w1.alloc (.cells #[.int .i64 rr.k, .int .i64 id0, .int .i64 rr.y, .int .i64 rr.o] 53)).alloc o) n B tb v1 v2 bl (mgK T P k).id (fun i => actL (T i) (upf9 (mgK T P k).nx p (j0 + 1) i)) (mgK T P k).xs (mgK T P k).ws) := fun o => HTA.out _ o
          go_wp2_with (at_builtin; refine wpList_appAc _ rfl (.tmp 43) (.tmp 45) rfl (B + 1) v1 (mgK T P k).xs rfl (HTB.out _).own.1 (w1.heap.size + 1) 0 1 ⟨rr.k, id0, rr.y, rr.o⟩ rfl (by simp [CAc, go_sem, World.setCell]) (by have h := HBZ.out; simp; omega) HXL.out.1 ?_)
          intro g c w3 ho3 hg3 hl3 hlt3
          obtain ⟨hn3, b3, f3⟩ := MpI.one1 (HTB.out _) hg3 ho3 (hl3.imp id fun h => by simpa [World.setCell] using h)
          have HO4 : Hid (MpI w (w3.setCell ⟨B, 1, none⟩ (.slice (some ⟨g, 0, none⟩) ((mgK T P k).xs.length + 1) c)) n B tb (.slice (some ⟨g, 0, none⟩) ((mgK T P k).xs.length + 1) c) v2 bl (mgK T P k).id (fun i => actL (T i) (upf9 (mgK T P k).nx p (j0 + 1) i)) ((mgK T P k).xs ++ [⟨rr.k, id0, rr.y, rr.o⟩]) (mgK T P k).ws) := hn3
          obtain ⟨q0, q1, q2⟩ := b3
          have hsz3 := HO4.out.hsz
          have hbf3 := HO4.out.bf
          have hb32 := HO4.out.b.2.2
          have HO5 : Hid (∀ o : Obj, MpI w ((w3.setCell ⟨B, 1, none⟩ (.slice (some ⟨g, 0, none⟩) ((mgK T P k).xs.length + 1) c)).alloc o) n B tb (.slice (some ⟨g, 0, none⟩) ((mgK T P k).xs.length + 1) c) v2 bl (mgK T P k).id (fun i => actL (T i) (upf9 (mgK T P k).nx p (j0 + 1) i)) ((mgK T P k).xs ++ [⟨rr.k, id0, rr.y, rr.o⟩]) (mgK T P k).ws) := fun o => HO4.out.mono (below_new _ _)
          clear hn3 hl3 ho3 hg3 hb1 hb2' hbf
          generalize ((mgK T P k).xs.length + 1) = len3 at *
          go_wp2_with (at_builtin; refine wpList_appIL _ rfl (.tmp 49) (.tmp 51) rfl (B + 1) v2 (mgK T P k).ws rfl (HO5.out _).own.2.1 w3.heap.size 0 1 p rfl (by simp [go_sem, World.setCell]) (by simp [World.setCell] at hsz3 ⊢; omega) HXL.out.2 ?_)
          intro g4 c4 w4 ho4 hg4 hl4 hlt4
          obtain ⟨hn4, b4, f4⟩ := MpI.one2 (HO5.out _) hg4 ho4 (hl4.imp id fun h => by simpa [World.setCell] using h)
          have HO6 : Hid (MpI w (w4.setCell ⟨B, 2, none⟩ (.slice (some ⟨g4, 0, none⟩) ((mgK T P k).ws.length + 1) c4)) n B tb (.slice (some ⟨g, 0, none⟩) len3 c) (.slice (some ⟨g4, 0, none⟩) ((mgK T P k).ws.length + 1) c4) bl (mgK T P k).id (fun i => actL (T i) (upf9 (mgK T P k).nx p (j0 + 1) i)) ((mgK T P k).xs ++ [⟨rr.k, id0, rr.y, rr.o⟩]) ((mgK T P k).ws ++ [(p : Int)])) := hn4
          obtain ⟨r40, r41, r42⟩ := b4
          clear hn4 hl4 ho4 hg4 q0 q1 q2 hb32 HO5 HO4
          generalize ((mgK T P k).ws.length + 1) = len4 at *
          go_wp2_with fail
          go_roundw
          case rel => exact ⟨k + 1, _, _, hlt, by go_num, by rw [HE1.out], by rw [HE1.out]; exact HO6⟩
          case measure => first | (simp [intOf]; done) | (simp [intOf]; omega)
        · have HE1 : Hid (mgK T P (k + 1) = mgK T P k) := by
            show _ = _
            rw [HE0.out, mgN, if_neg (fun h => hz (Hid0.out.symm.trans h)), Hnx0.out, if_neg hjn]
          have ea : actF (T p) j0 = zAc := by unfold actF; rw [if_neg hjn]
          rw [ea]
          rw [actL_done (t := T p) (j := j0 + 1) (by omega), upf9_id (fun i => actL (T i) ((mgK T P k).nx i)) p _ (by show actL (T p) _ = _; rw [Hnx0.out]; exact actL_done (by omega))] at HT0
          have HT : Hid (∀ o : Obj, MpI w (w1.alloc o) n B tb v1 v2 bl (mgK T P k).id (fun i => actL (T i) ((mgK T P k).nx i)) (mgK T P k).xs (mgK T P k).ws) := fun o => HT0.mono (below_new _ _)
          clear hz HE0 HT0 ea
          go_wp2_with fail
          refine (isActKind_any 0 _).mono ?_
          rintro e w1' ⟨rfl, hw1'⟩
          subst hw1'
          rw [show inB 0 1 7 = false from rfl]
          go_wp2_with fail
          go_roundw
          case rel => exact ⟨k + 1, v1, v2, hlt, by go_num, by rw [HE1.out, Hnum.out], by rw [HE1.out]; exact HT.out _⟩
          case measure => first | (simp [intOf]; done) | (simp [intOf]; omega)
    · obtain rfl : k = m := by omega
      have hnl : ¬ ((k : Int) < (k : Int)) := by omega
      obtain ⟨va, vc, hv1⟩ := rowA_slice HO.out.own.1
      obtain ⟨va2, vc2, hv2⟩ := row1_slice HO.out.own.2.1
      have hhB := HO.out.hB
      have HF : Hid (∀ w7, Writes w.heap.size (w.heap.size + 1) wr w7 → w7.heap.size = wr.heap.size → MRes (mgF n T k P) (mgK T P k).xs (mgK T P k).ws w (.returned (.agg #[.int .i64 0, v1, v2])) w7) := fun w7 hw hs7 => mres_ok HC0.out HO.out.below (Nat.le_refl _) (Nat.le_succ _) (by omega) HO.out.own hw hs7
      obtain ⟨r0, r1, r2⟩ := HO.out.r
      obtain ⟨g0, g1, g2⟩ := HO.out.b
      have rf := HO.out.rf
      clear HO HMB
      subst hv1 hv2
      generalize (mgK T P k).xs.length = l1 at *
      generalize (mgK T P k).ws.length = l2 at *
      generalize (mgK T P k).num = num at *
      go_wp2_with fail
      refine bodyPost_ret (v := .agg #[.int .i64 0, .slice va l1 vc, .slice va2 l2 vc2]) (by simp [results, Try.results24, go_sem, *]) rfl ?_
      refine HF.out _ ?_ (by simp [World.setCell])
      repeat (first | with_reducible exact Writes.refl _ _ _ | with_reducible refine Writes.setCell ?_ (by first | omega | (simp <;> omega)) (by first | omega | (simp <;> omega)) _)
end Go.Proofs.Ytcfenhnggccmmaa
