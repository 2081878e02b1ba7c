/- SameAnswers: spec.SameAnswers. -/
import Derived.Test.YtnhlcadipkmhhaaGreatQSaf
import Derived.Test.YtnhlcadipkmhhaaGreatQSae
import Derived.Test.YtnhlcadipkmhhaaGreatQOb
import Derived.Test.YtnhlcadipkmhhaaGreatQFf
namespace Go.Proofs.YtnhlcadipkmhhaaGreat
open Go.RowKit Go.Deep
set_option linter.unusedVariables false
set_option linter.unusedSimpArgs false
set_option maxRecDepth 20000

theorem infoVw : (Tryz.prog.info? 59).map (fun i => (i.zero, i.size, i.bytes)) = some (some (.agg #[.int .i64 0, .int .i64 0]), 2, 16) := by kernel_rfl
theorem run_alV (w : World) : (Instr.alloc 59 true (.tuple #[])).run Tryz.prog w = .ok (.pointer (some ⟨w.heap.size, 0, none⟩)) (w.alloc (.cells #[.int .i64 0, .int .i64 0] 59)) := by
  obtain ⟨i, hi, hzz⟩ := Option.map_eq_some_iff.1 infoVw
  simp only [Prod.mk.injEq] at hzz
  simp [Instr.alloc, Sem.run_bind, zeroValue, typeInfo, hi, hzz.1, go_sem, Value.cells]
theorem step_alV {ops : Array Oper} {o : Oper} {a : Act} {Kc : Act → World → Prop} {Q : Exit → Act → World → Prop} {Ee : Prop} (w : World) (d : Option Tmp) (hd : o.dst = d) (hgd : o.guard = none) (ho : o.op = .alloc 59)
    (h : ∀ B w', w.heap.size ≤ B → BoxR w' B (.int .i64 0) (.int .i64 0) → Below w.heap.size w w' → Kc (a.put d (.pointer (some ⟨B, 0, none⟩))) w') :
    if Region.wanted o (yielded ops a.tmps) = true then Oper.wp Tryz.prog o a w Kc Q else Ee := by
  have hw : Region.wanted o (yielded ops a.tmps) = true := by simp [Region.wanted, hgd]
  rw [if_pos hw]
  subst hd
  unfold Oper.wp execOp
  simp only [ho, run_alV w, Sem.run_bind, Sem.run_pure, Result.andThen_ok]
  exact h _ _ (Nat.le_refl _) (BoxR.new _ _ _ _) (below_new _ _)
theorem below_set2 {N D : Nat} {W u : World} {v0 v1 : Value} (h : Below N W u) (hD : N ≤ D) : Below N W ((u.setCell ⟨D, 0, none⟩ v0).setCell ⟨D, 1, none⟩ v1) := (h.setCell hD _).setCell hD _
theorem box_set2 {D : Nat} {u : World} {z0 z1 v0 v1 : Value} (h : BoxR u D z0 z1) : Box2 ((u.setCell ⟨D, 0, none⟩ v0).setCell ⟨D, 1, none⟩ v1) D v0 v1 := by
  obtain ⟨h0, h1, hf⟩ := h
  have e1 := hf 1
  simp [Box2, go_sem, *]
theorem l6ScanC (E : En) (B : Nat) (a : Option Addr) (cap : Nat) (a' : Option Addr) (cap' : Nat) (s : Tx) (w : World) (hq : E.q ≤ 32) (hr : ∀ i, i < E.q → (E.R i).n ≤ 12) (h : EBox w B a cap a' cap' E) :
    Calls Tryz.prog 34 #[.pointer (some ⟨B, 0, none⟩), .agg #[.int .i64 s.am, .int .i64 s.id], .int .i64 0, .int .i64 31] w fun e w' => ∃ va vc, e = .returned (.slice va (scE E s).length vc) ∧ Below w.heap.size w w' ∧ CellsAt w' va (scE E s).length (kC (scE E s)) (vC (scE E s)) := by
  refine (l6Scan_any E B a cap a' cap' s.am s.id 0 31 w hq hr h).mono ?_
  rintro e w' ⟨v, rfl, hb, ho⟩
  obtain ⟨va, vc, rfl, h2⟩ := ownC_of_row ho
  exact ⟨va, vc, rfl, hb, h2.at⟩
theorem l7CellsB (xs ys : List (Int × Int)) (a a' : Option Addr) (cap cap' : Nat) (w : World) (hn : xs.length ≤ 140737488355328) (hn' : ys.length ≤ 140737488355328) (h : CellsAt w a xs.length (kC xs) (vC xs)) (h' : CellsAt w a' ys.length (kC ys) (vC ys)) :
    Calls Tryz.prog 33 #[.slice a xs.length cap, .slice a' ys.length cap'] w fun e w' => e = .returned (.bool (decide (xs = ys))) ∧ Below w.heap.size w w' := by
  refine (l7Cells_any _ _ _ _ _ _ a a' cap cap' w hn hn' h h').mono ?_
  rintro e w' ⟨rfl, m, rfl⟩
  exact ⟨by rw [ceq_list], below_drewN (Below.refl _ _) _⟩
theorem l7SameB (xs ys : List Int) (a a' : Option Addr) (cap cap' : Nat) (w : World) (hn : xs.length ≤ 140737488355328) (hn' : ys.length ≤ 140737488355328) (h : IntsAt w a xs.length (zI xs)) (h' : IntsAt w a' ys.length (zI ys)) :
    Calls Tryz.prog 30 #[.slice a xs.length cap, .slice a' ys.length cap'] w fun e w' => e = .returned (.bool (decide (xs = ys))) ∧ Below w.heap.size w w' := by
  refine (l7Same_any _ _ _ _ a a' cap cap' w hn hn' h h').mono ?_
  rintro e w' ⟨rfl, m, rfl⟩
  exact ⟨by rw [ieq_list], below_drewN (Below.refl _ _) _⟩
theorem l7SameD (xs ys : List Int) (d : Bool) (hd : decide (xs = ys) = d) (a a' : Option Addr) (cap cap' : Nat) (w : World) (hn : xs.length ≤ 140737488355328) (hn' : ys.length ≤ 140737488355328) (h : IntsAt w a xs.length (zI xs)) (h' : IntsAt w a' ys.length (zI ys)) :
    Calls Tryz.prog 30 #[.slice a xs.length cap, .slice a' ys.length cap'] w fun e w' => e = .returned (.bool d) ∧ Below w.heap.size w w' := by
  subst hd
  exact l7SameB xs ys a a' cap cap' w hn hn' h h'
theorem specOt0 (E : En) (a : Option Addr) (cap : Nat) (a' : Option Addr) (cap' : Nat) (w : World) (hs : SmallE E) (h0 : eF E = 0) (h : EngAt w a a' E) :
    Calls Tryz.prog 29 #[.agg #[.int .i64 E.nx, .int .i64 E.ck, .slice a E.p cap, .slice a' E.q cap']] w fun e w' => ∃ va vc, e = .returned (.agg #[.int .i64 0, .slice va (otL E.T E.p).length vc]) ∧ Below w.heap.size w w' ∧ IntsAt w' va (otL E.T E.p).length (zI (otL E.T E.p)) := by
  refine (specOt_any E a cap a' cap' w hs h).mono ?_
  rintro e w' ⟨va, vc, he, hb, ho⟩
  rw [h0] at he ho
  simp only [if_true] at he ho
  exact ⟨va, vc, he, hb, ho.at⟩
theorem l6TxnB (E : En) (B : Nat) (a : Option Addr) (cap : Nat) (a' : Option Addr) (cap' : Nat) (id : Int) (j : Nat) (w : World) (hp : E.p ≤ 20) (hf : fT E.p E.T id = (j : Int)) (h : EBox w B a cap a' cap' E) :
    Calls Tryz.prog 32 #[.pointer (some ⟨B, 0, none⟩), .int .i64 id] w fun e w' => e = .returned (.int .i64 (j : Int)) ∧ Below w.heap.size w w' := by
  refine (l6Txn_any E.p E.T B a cap id w (by omega) h.1.2.2.1 h.2.1).mono ?_
  rintro e w' ⟨rfl, rfl⟩
  exact ⟨by rw [hf], Below.refl _ _⟩
/-- The same open transactions. -/
theorem same_open {A B : En} : otL A.T A.p = otL B.T B.p ↔ oN A = oN B ∧ ∀ i, i < oN A → (oX A i).id = (oX B i).id := by
  rw [list_same (0 : Int), oN_len, oN_len]
  constructor
  · rintro ⟨h1, h2⟩
    refine ⟨h1, fun i hi => ?_⟩
    have := h2 i hi
    rw [← oX_id hi, ← oX_id (E := B) (i := i) (by omega)]
    exact this
  · rintro ⟨h1, h2⟩
    refine ⟨h1, fun i hi => ?_⟩
    have := h2 i hi
    rw [← oX_id hi, ← oX_id (E := B) (i := i) (by omega)] at this
    exact this
set_option maxHeartbeats 32000000 in
theorem specSa_any (A B : En) (a : Option Addr) (cap : Nat) (a' : Option Addr) (cap' : Nat) (b : Option Addr) (cbp : Nat) (b' : Option Addr) (cbp' : Nat) (w : World) (hA : SmallE A) (hB : SmallE B) (h : EngAt w a a' A) (h' : EngAt w b b' B) (c : Bool) (hc : c = true ↔ SAP A B) :
    Calls Tryz.prog 9 #[.agg #[.int .i64 A.nx, .int .i64 A.ck, .slice a A.p cap, .slice a' A.q cap'], .agg #[.int .i64 B.nx, .int .i64 B.ck, .slice b B.p cbp, .slice b' B.q cbp']] w fun e w' => e = .returned (.bool c) ∧ Below w.heap.size w w' := by
  have HXA : Hid (EngAt w a a' A) := h
  have HXB : Hid (EngAt w b b' B) := h'
  have HSA : Hid (SmallE A) := hA
  have HSB : Hid (SmallE B) := hB
  have HC : Hid (c = true ↔ SAP A B) := hc
  have HBX : Hid (∀ o1 o2 : Obj, o1 = .cells #[.int .i64 A.nx, .int .i64 A.ck, .slice a A.p cap, .slice a' A.q cap'] 31 → o2 = .cells #[.int .i64 B.nx, .int .i64 B.ck, .slice b B.p cbp, .slice b' B.q cbp'] 31 →
      EBox ((w.alloc o1).alloc o2) w.heap.size a cap a' cap' A ∧ EBox ((w.alloc o1).alloc o2) (w.heap.size + 1) b cbp b' cbp' B ∧ Below w.heap.size w ((w.alloc o1).alloc o2)) := by
    have hb0 : ∀ o1 o2, Below w.heap.size w ((w.alloc o1).alloc o2) := fun o1 o2 => ((Below.refl _ _).alloc (Nat.le_refl _) _).alloc (by simp) _
    rintro o1 o2 rfl rfl
    exact ⟨⟨(Box4.new w _ _ _ _ _).alloc _, HXA.out.below (hb0 _ _)⟩, ⟨by simp [Box4, go_sem], HXB.out.below (hb0 _ _)⟩, hb0 _ _⟩
  clear h h' hA hB hc
  go_enter Tryz.func9, Tryz.ntmps9
  go_upto_region 1 with fail
  obtain ⟨hc1, hc2, hbw⟩ := HBX.out _ _ rfl rfl
  obtain ⟨W0, hW⟩ : ∃ y, y = (w.alloc (.cells #[.int .i64 A.nx, .int .i64 A.ck, .slice a A.p cap, .slice a' A.q cap'] 31)).alloc (.cells #[.int .i64 B.nx, .int .i64 B.ck, .slice b B.p cbp, .slice b' B.q cbp'] 31) := ⟨_, rfl⟩
  rw [← hW] at hc1 hc2 hbw ⊢
  have HBW0 : Hid (Below w.heap.size w W0) := hbw
  have HE1 : Hid (EBox W0 w.heap.size a cap a' cap' A) := hc1
  have HE2 : Hid (EBox W0 (w.heap.size + 1) b cbp b' cbp' B) := hc2
  obtain ⟨⟨p0, p1, p2, p3⟩, -⟩ := hc1
  clear hW hbw HBX hc2
  by_cases h0 : eF A = 0
  case neg =>
    have h0' : (eF A != 0) = true := by simp [h0]
    have HF : Hid (c = false) := not_true HC.out fun h => h0 h.1
    clear h0
    go_wp2_with (first | (go_at_call 28; refine (l6Fault_any A w.heap.size a cap a' cap' _ HSA.out HE1.out).mono ?_; rintro e W1 ⟨rfl, hb1⟩))
    go_ret
    exact ⟨ret_bool HF.out.symm, below_then HBW0.out hb1⟩
  have HA0 : Hid (eF A = 0) := h0
  have h0' : (eF A != 0) = false := by simp [h0]
  obtain ⟨⟨q0, q1, q2, q3⟩, -⟩ := HE2.out
  by_cases h1 : eF B = 0
  case neg =>
    have h1' : (eF B != 0) = true := by simp [h1]
    have HF : Hid (c = false) := not_true HC.out fun h => h1 h.2.1
    clear h1 h0
    go_wp2_with (first | (have hg := hb1; go_at_call 28; refine (l6Fault_any B (w.heap.size + 1) b cbp b' cbp' _ HSB.out (HE2.out.below hb1)).mono ?_; rintro e W ⟨rfl, hb2⟩; have r0 := cell_below q0 (below_then hb1 hb2); have r1 := cell_below q1 (below_then hb1 hb2); have s0 := cell_below p0 (below_then hb1 hb2); have s1 := cell_below p1 (below_then hb1 hb2)) | (go_at_call 28; refine (l6Fault_any A w.heap.size a cap a' cap' _ HSA.out HE1.out).mono ?_; rintro e W1 ⟨rfl, hb1⟩))
    go_ret
    exact ⟨ret_bool HF.out.symm, below_then HBW0.out (below_then hb1 hb2)⟩
  have HB0 : Hid (eF B = 0) := h1
  have h1' : (eF B != 0) = false := by simp [h1]
  have hpA := (eF_pq HA0.out).1
  have hpB := (eF_pq h1).1
  have hqA := (eF_pq HA0.out).2
  have hqB := (eF_pq h1).2
  clear h1 h0
  by_cases hck : A.ck = B.ck
  case neg =>
    have hck' : (A.ck != B.ck) = true := by simp [hck]
    have HF : Hid (c = false) := not_true HC.out fun h => hck h.2.2.1
    clear hck
    go_wp2_with (first | (have hg := hb1; go_at_call 28; refine (l6Fault_any B (w.heap.size + 1) b cbp b' cbp' _ HSB.out (HE2.out.below hb1)).mono ?_; rintro e W ⟨rfl, hb2⟩; have r0 := cell_below q0 (below_then hb1 hb2); have r1 := cell_below q1 (below_then hb1 hb2); have s0 := cell_below p0 (below_then hb1 hb2); have s1 := cell_below p1 (below_then hb1 hb2)) | (go_at_call 28; refine (l6Fault_any A w.heap.size a cap a' cap' _ HSA.out HE1.out).mono ?_; rintro e W1 ⟨rfl, hb1⟩))
    go_ret
    exact ⟨ret_bool HF.out.symm, below_then HBW0.out (below_then hb1 hb2)⟩
  by_cases hnx : A.nx = B.nx
  case neg =>
    have hck' : (A.ck != B.ck) = false := by simp [hck]
    have hnx' : (A.nx != B.nx) = true := by simp [hnx]
    have HF : Hid (c = false) := not_true HC.out fun h => hnx h.2.2.2.1
    clear hck hnx
    go_wp2_with (first | (have hg := hb1; go_at_call 28; refine (l6Fault_any B (w.heap.size + 1) b cbp b' cbp' _ HSB.out (HE2.out.below hb1)).mono ?_; rintro e W ⟨rfl, hb2⟩; have r0 := cell_below q0 (below_then hb1 hb2); have r1 := cell_below q1 (below_then hb1 hb2); have s0 := cell_below p0 (below_then hb1 hb2); have s1 := cell_below p1 (below_then hb1 hb2)) | (go_at_call 28; refine (l6Fault_any A w.heap.size a cap a' cap' _ HSA.out HE1.out).mono ?_; rintro e W1 ⟨rfl, hb1⟩))
    go_ret
    exact ⟨ret_bool HF.out.symm, below_then HBW0.out (below_then hb1 hb2)⟩
  have hck' : (A.ck != B.ck) = false := by simp [hck]
  have hnx' : (A.nx != B.nx) = false := by simp [hnx]
  have HCK : Hid (A.ck = B.ck ∧ A.nx = B.nx) := ⟨hck, hnx⟩
  clear hck hnx
  go_upto_region 3 with (first | (have hg := hb1; go_at_call 28; refine (l6Fault_any B (w.heap.size + 1) b cbp b' cbp' _ HSB.out (HE2.out.below hb1)).mono ?_; rintro e W ⟨rfl, hb2⟩; have r0 := cell_below q0 (below_then hb1 hb2); have r1 := cell_below q1 (below_then hb1 hb2); have s0 := cell_below p0 (below_then hb1 hb2); have s1 := cell_below p1 (below_then hb1 hb2)) | (go_at_call 28; refine (l6Fault_any A w.heap.size a cap a' cap' _ HSA.out HE1.out).mono ?_; rintro e W1 ⟨rfl, hb1⟩))
  have HBW : Hid (Below w.heap.size w W) := below_then HBW0.out (below_then hb1 hb2)
  have HEA0 : Hid (EBox W w.heap.size a cap a' cap' A) := HE1.out.below (below_then hb1 hb2)
  have HEB0 : Hid (EBox W (w.heap.size + 1) b cbp b' cbp' B) := HE2.out.below (below_then hb1 hb2)
  clear p0 p1 p2 p3 q0 q1 q2 q3 r0 r1 s0 s1 hb1 hb2 HE1 HE2 h0' h1' hck' hnx'
  obtain ⟨⟨p0, p1, p2, p3⟩, -⟩ := HEA0.out
  obtain ⟨⟨q0, q1, q2, q3⟩, -⟩ := HEB0.out
  have hfl : ∀ (c : Int) (x : Option Addr) (n m : Nat) (u : World), (Instr.field 55 (.agg #[.int .i64 c, .slice x n m]) 1).run Tryz.prog u = .ok (.slice x n m) u := fun _ _ _ _ _ => by kernel_rfl
  have HLA : Hid ((otL A.T A.p).length ≤ 140737488355328) := by have := otL_len A.T A.p; show _ ≤ _; omega
  have HLB : Hid ((otL B.T B.p).length ≤ 140737488355328) := by have := otL_len B.T B.p; show _ ≤ _; omega
  by_cases hot : otL A.T A.p = otL B.T B.p
  case neg =>
    have HF : Hid (c = false) := not_true HC.out fun h => hot (same_open.2 ⟨h.2.2.2.2.1, fun i hi => (h.2.2.2.2.2 i hi).1⟩)
    have HD : Hid (decide (otL A.T A.p = otL B.T B.p) = false) := decide_eq_false hot
    clear hot
    go_wp2_with (first | (go_at_call 30; refine (l7SameD (otL A.T A.p) (otL B.T B.p) false HD.out _ _ _ _ _ HLA.out HLB.out HIA.out HIB.out).mono ?_; rintro e W3 ⟨rfl, hb3⟩) | (have hg := hb4; go_at_call 29; refine (specOt0 B b cbp b' cbp' _ HSB.out HB0.out (HEB0.out.2.below hb4)).mono ?_; rintro e W2 ⟨yb, yc, rfl, hb5, hib⟩; have HIB : Hid (IntsAt W2 yb (otL B.T B.p).length (zI (otL B.T B.p))) := hib; replace HIA : Hid (IntsAt W2 xa (otL A.T A.p).length (zI (otL A.T A.p))) := HIA.out.below hb5; clear hib) | (go_at_call 29; refine (specOt0 A a cap a' cap' _ HSA.out HA0.out HEA0.out.2).mono ?_; rintro e W1 ⟨xa, xc, rfl, hb4, hia⟩; have HIA : Hid (IntsAt W1 xa (otL A.T A.p).length (zI (otL A.T A.p))) := hia; clear hia; have t0 := cell_below q0 hb4; have t1 := cell_below q1 hb4; have t2 := cell_below q2 hb4; have t3 := cell_below q3 hb4))
    go_ret
    exact ⟨ret_bool HF.out.symm, below_then HBW.out (below_then hb4 (below_then hb5 hb3))⟩
  have HD : Hid (decide (otL A.T A.p = otL B.T B.p) = true) := decide_eq_true hot
  have HOT : Hid (otL A.T A.p = otL B.T B.p) := hot
  clear hot
  go_upto_region 6 with (first | (go_at_call 30; refine (l7SameD (otL A.T A.p) (otL B.T B.p) true HD.out _ _ _ _ _ HLA.out HLB.out HIA.out HIB.out).mono ?_; rintro e W3 ⟨rfl, hb3⟩) | (have hg := hb4; go_at_call 29; refine (specOt0 B b cbp b' cbp' _ HSB.out HB0.out (HEB0.out.2.below hb4)).mono ?_; rintro e W2 ⟨yb, yc, rfl, hb5, hib⟩; have HIB : Hid (IntsAt W2 yb (otL B.T B.p).length (zI (otL B.T B.p))) := hib; replace HIA : Hid (IntsAt W2 xa (otL A.T A.p).length (zI (otL A.T A.p))) := HIA.out.below hb5; clear hib) | (go_at_call 29; refine (specOt0 A a cap a' cap' _ HSA.out HA0.out HEA0.out.2).mono ?_; rintro e W1 ⟨xa, xc, rfl, hb4, hia⟩; have HIA : Hid (IntsAt W1 xa (otL A.T A.p).length (zI (otL A.T A.p))) := hia; clear hia; have t0 := cell_below q0 hb4; have t1 := cell_below q1 hb4; have t2 := cell_below q2 hb4; have t3 := cell_below q3 hb4))
  have HBY : Hid (Below W.heap.size W W3) := below_then hb4 (below_then hb5 hb3)
  have HIX : Hid (IntsAt W3 xa (otL A.T A.p).length (zI (otL A.T A.p))) := HIA.out.below hb3
  clear t0 t1 t2 t3 hb3 hb4 hb5 HIA HIB p0 p1 p2 p3 q0 q1 q2 q3
  have hot := HOT.out
  obtain ⟨hnn, hids⟩ := same_open.1 hot
  have HNN : Hid (oN A = oN B) := hnn
  have HIDS : Hid (∀ i, i < oN A → (oX A i).id = (oX B i).id) := hids
  have HCF : Hid (c = true ↔ ∀ k, k < oN A → scE A (oX A k) = scE B (oX B k) ∧ myE A (oX A k) = myE B (oX B k)) := by
    rw [Hid, HC.out]
    exact ⟨fun h k hk => (h.2.2.2.2.2 k hk).2, fun h => ⟨HA0.out, HB0.out, HCK.out.1, HCK.out.2, hnn, fun k hk => ⟨hids k hk, h k hk⟩⟩⟩
  have HXI : Hid (∀ k, k < oN A → zI (otL A.T A.p) k = (oX A k).id) := fun k hk => oX_id hk
  rw [oN_len] at HIX ⊢
  have hnle : oN A ≤ 20 := by have := otX_len A.T A.p; unfold oN; omega
  clear hnn hids hot HOT HD
  obtain ⟨n, hn⟩ : ∃ y, y = oN A := ⟨_, rfl⟩
  rw [← hn] at HIX HNN HIDS HCF HXI hnle ⊢
  have HN : Hid (n = oN A) := hn
  clear hn
  have HEA : Hid (EBox W3 w.heap.size a cap a' cap' A) := HEA0.out.below HBY.out
  have HEB : Hid (EBox W3 (w.heap.size + 1) b cbp b' cbp' B) := HEB0.out.below HBY.out
  have HB3 : Hid (Below w.heap.size w W3) := below_then HBW.out HBY.out
  have HRA : Hid (∀ i, i < A.q → (A.R i).n ≤ 12) := rows12 HA0.out
  have HRB : Hid (∀ i, i < B.q → (B.R i).n ≤ 12) := rows12 HB0.out
  clear HEA0 HEB0 HBY HBW HBW0 HXA HXB HLA HLB
  go_wp2_with fail
  go_loopw [6, 7, 8] (fun i _ _ wr => ∃ k : Nat, k ≤ n ∧ i = .int .i64 k ∧ Hid (∀ q, q < k → scE A (oX A q) = scE B (oX B q) ∧ myE A (oX A q) = myE B (oX B q)) ∧ Hid (Below W3.heap.size W3 wr)) (fun i _ _ _ => n - (intOf i).toNat)
  case atStart => exact ⟨0, Nat.zero_le _, rfl, fun q hq => absurd hq (Nat.not_lt_zero _), Below.refl _ _⟩
  case round =>
    obtain ⟨k, hk, rfl, HQ, HB⟩ := hrel
    by_cases hlt : k < n
    · have hlt' : (k : Int) < (n : Int) := by omega
      have hk0 : (0 : Int) ≤ (k : Int) := by omega
      rcases HIX.out.below HB.out with h | ⟨xb, xo, rfl, hxl, hxc⟩
      · omega
      have xk := hxc k hlt
      rw [HXI.out k hlt] at xk
      obtain ⟨i, hi, ei, si⟩ := oX_at (E := A) (i := k) (by rw [← HN.out]; exact hlt)
      obtain ⟨j, hj, ej, sj⟩ := oX_at (E := B) (i := k) (by rw [← HNN.out]; exact hlt)
      have hid := HIDS.out k hlt
      have HCK9 : Hid ((scE A (A.T i) = scE B (B.T j) ∧ myE A (A.T i) = myE B (B.T j)) ↔ (scE A (oX A k) = scE B (oX B k) ∧ myE A (oX A k) = myE B (oX B k))) := by rw [Hid, ei, ej]
      rw [ei] at xk hid
      rw [ej] at hid
      obtain ⟨id, hidE⟩ : ∃ y, y = (A.T i).id := ⟨_, rfl⟩
      rw [← hidE] at xk
      have HTA0 : Hid (fT A.p A.T id = (i : Int)) := by rw [hidE]; exact (open_ask HA0.out hi si).1
      have HTB0 : Hid (fT B.p B.T id = (j : Int)) := by rw [hidE, hid]; exact (open_ask HB0.out hj sj).1
      clear hid hidE ei ej si sj hxc
      obtain ⟨⟨p0, p1, p2, p3⟩, hA1, hA2⟩ := HEA.out.below HB.out
      have HEAr : Hid (EBox wr w.heap.size a cap a' cap' A) := HEA.out.below HB.out
      have HEBr : Hid (EBox wr (w.heap.size + 1) b cbp b' cbp' B) := HEB.out.below HB.out
      rcases hA1 with h | ⟨bb, off, rfl, hbl, hbc⟩
      · omega
      obtain ⟨ti, tc, hCT, -, -⟩ := hbc i hi
      have HTA : Hid (∀ u, Below wr.heap.size wr u → Calls Tryz.prog 32 #[.pointer (some ⟨w.heap.size, 0, none⟩), .int .i64 id] u fun e w' => e = .returned (.int .i64 (i : Int)) ∧ Below u.heap.size u w') := fun u hu => l6TxnB A w.heap.size _ cap a' cap' id i u hpA HTA0.out (HEAr.out.below hu)
      have HVA : Hid (∀ u, Below wr.heap.size wr u → Calls Tryz.prog 31 #[.pointer (some ⟨bb, off + i * 5, none⟩)] u fun e w' => e = .returned (.agg #[.int .i64 (A.T i).am, .int .i64 (A.T i).id]) ∧ Below u.heap.size u w') := fun u hu => l6View_any (A.T i) bb (off + i * 5) ti tc u (hCT.block (hu.block _ hbl))
      have hi1 : (i : Int) < (A.p : Int) := by omega
      have hi0 : (0 : Int) ≤ (i : Int) := by omega
      clear hbc hCT hA2 p0 p1 p3 HTA0
      have HLT : Hid (k < n) := hlt
      go_upto_region 9 with fail
      go_cut [7] (fun p wx => ∃ D : Nat, p = .pointer (some ⟨D, 0, none⟩) ∧ Hid (Box2 wx D (.int .i64 (A.T i).am) (.int .i64 (A.T i).id)) ∧ Hid (Below wr.heap.size wr wx))
      case first =>
        refine wp_region_E 999 (S := fun u => Below wr.heap.size wr u) (by kernel_rfl) ((Below.refl _ _).drew) (fun hS => ?_)
        obtain ⟨u0, hu0⟩ : ∃ y, y = wr.drew := ⟨_, rfl⟩
        rw [← hu0] at hS ⊢
        clear hu0
        refine wpAnyE_takeD (L := 999) (i := 0) (v := .pointer (some ⟨w.heap.size, 2, none⟩)) (some 44) rfl rfl (by kernel_rfl) (by kernel_rfl) (by kernel_rfl) (by kernel_rfl) (fun _ _ _ h => h) (Or.inl ⟨by kernel_rfl, by intro u hSu; go_simp⟩) hS ?_
        try simp only [Act.put, List.setIfInBounds_toArray, List.set_cons_zero, List.set_cons_succ]
        refine wpAnyE_takeD (L := 999) (i := 1) (v := .slice (some ⟨bb, off, none⟩) A.p cap) (some 45) rfl rfl (by kernel_rfl) (by kernel_rfl) (by kernel_rfl) (by kernel_rfl) (fun _ _ _ h => h) (Or.inl ⟨by kernel_rfl, by intro u hSu; have gp2 := cell_below p2 hSu; go_simp⟩) hS ?_
        try simp only [Act.put, List.setIfInBounds_toArray, List.set_cons_zero, List.set_cons_succ]
        refine wpAnyE_takeD (L := 999) (i := 2) (v := .slice (some ⟨xb, xo, none⟩) n xc) (some 46) rfl rfl (by kernel_rfl) (by kernel_rfl) (by kernel_rfl) (by kernel_rfl) (fun _ _ _ h => h) (Or.inl ⟨by kernel_rfl, by intro u hSu; go_simp⟩) hS ?_
        try simp only [Act.put, List.setIfInBounds_toArray, List.set_cons_zero, List.set_cons_succ]
        refine wpAnyE_takeD (L := 999) (i := 3) (v := .int .i64 (k : Int)) (some 47) rfl rfl (by kernel_rfl) (by kernel_rfl) (by kernel_rfl) (by kernel_rfl) (fun _ _ _ h => h) (Or.inl ⟨by kernel_rfl, by intro u hSu; go_simp⟩) hS ?_
        try simp only [Act.put, List.setIfInBounds_toArray, List.set_cons_zero, List.set_cons_succ]
        refine wpAnyE_takeD (L := 999) (i := 4) (v := .pointer (some ⟨xb, xo + k, none⟩)) (some 48) rfl rfl (by kernel_rfl) (by kernel_rfl) (by kernel_rfl) (by kernel_rfl) (fun _ _ _ h => h) (Or.inl ⟨by kernel_rfl, by intro u hSu; go_simp⟩) hS ?_
        try simp only [Act.put, List.setIfInBounds_toArray, List.set_cons_zero, List.set_cons_succ]
        refine wpAnyE_takeD (L := 999) (i := 5) (v := .int .i64 id) (some 49) rfl rfl (by kernel_rfl) (by kernel_rfl) (by kernel_rfl) (by kernel_rfl) (fun _ _ _ h => h) (Or.inl ⟨by kernel_rfl, by intro u hSu; have gxk := cell_below xk hSu; go_simp⟩) hS ?_
        try simp only [Act.put, List.setIfInBounds_toArray, List.set_cons_zero, List.set_cons_succ]
        refine wpAnyE_ready (rs := [6, 9]) (by kernel_rfl) (by simp) ?_
        refine AllReadyE.cons rfl (fun K9 hK => ?_) (AllReadyE.cons rfl (fun K9 hK => ?_) AllReadyE.nil)
        · go_simp
          refine (HTA.out _ hS).mono ?_
          rintro e u1 ⟨rfl, hbu⟩
          refine hK.out _ _ (below_then hS hbu) (fun hS9 => ?_)
          try simp only [Act.put, List.setIfInBounds_toArray, List.set_cons_zero, List.set_cons_succ]
          clear hK K9 hS
          have hS := hS9
          clear hS9
          clear hbu
          refine wpAnyE_takeD (L := 999) (i := 7) (v := .pointer (some ⟨bb, off + i * 5, none⟩)) (some 51) rfl rfl (by kernel_rfl) (by kernel_rfl) (by kernel_rfl) (by kernel_rfl) (fun _ _ _ h => h) (Or.inl ⟨by kernel_rfl, by intro u hSu; go_simp⟩) hS ?_
          try simp only [Act.put, List.setIfInBounds_toArray, List.set_cons_zero, List.set_cons_succ]
          refine wpAnyE_ready (rs := [8, 9]) (by kernel_rfl) (by simp) ?_
          refine AllReadyE.cons rfl (fun K9 hK => ?_) (AllReadyE.cons rfl (fun K9 hK => ?_) AllReadyE.nil)
          · go_simp
            refine (HVA.out _ hS).mono ?_
            rintro e u1 ⟨rfl, hbu⟩
            refine hK.out _ _ (below_then hS hbu) (fun hS9 => ?_)
            try simp only [Act.put, List.setIfInBounds_toArray, List.set_cons_zero, List.set_cons_succ]
            clear hK K9 hS
            have hS := hS9
            clear hS9
            clear hbu
            refine wpAnyE_ready (rs := [9]) (by kernel_rfl) (by simp) ?_
            refine AllReadyE.cons rfl (fun K9 hK => ?_) AllReadyE.nil
            have hzu := hS.size
            refine step_alV _ (some 7) rfl rfl rfl (fun D u1 hBl hBx hbu => ?_)
            refine hK.out _ _ (below_then hS hbu) (fun hS9 => ?_)
            try simp only [Act.put, List.setIfInBounds_toArray, List.set_cons_zero, List.set_cons_succ]
            clear hK K9 hS
            have hS := hS9
            clear hS9
            have hDl : wr.heap.size ≤ D := by omega
            clear hbu hBl hzu
            refine wpAnyE_ready (rs := [10]) (by kernel_rfl) (by simp) ?_
            refine AllReadyE.cons rfl (fun K9 hK => ?_) AllReadyE.nil
            obtain ⟨y0, y1, yf⟩ := hBx
            go_simp
            refine hK.out _ _ (below_set2 hS hDl) (fun hS9 => ?_)
            try simp only [Act.put, List.setIfInBounds_toArray, List.set_cons_zero, List.set_cons_succ]
            clear hK K9 hS
            refine wpAnyE_done (by kernel_rfl) ?_ _
            go_simp
            have HX9 := box_set2 (v0 := .int .i64 (A.T i).am) (v1 := .int .i64 (A.T i).id) ⟨y0, y1, yf⟩
            clear y0 y1 yf
            go_wp2_with fail
            go_meet
            exact ⟨D, rfl, HX9, hS9⟩
          · have hzu := hS.size
            refine step_alV _ (some 7) rfl rfl rfl (fun D u1 hBl hBx hbu => ?_)
            refine hK.out _ _ (below_then hS hbu) (fun hS9 => ?_)
            try simp only [Act.put, List.setIfInBounds_toArray, List.set_cons_zero, List.set_cons_succ]
            clear hK K9 hS
            have hS := hS9
            clear hS9
            have hDl : wr.heap.size ≤ D := by omega
            clear hbu hBl hzu
            refine wpAnyE_ready (rs := [8]) (by kernel_rfl) (by simp) ?_
            refine AllReadyE.cons rfl (fun K9 hK => ?_) AllReadyE.nil
            go_simp
            refine (HVA.out _ hS).mono ?_
            rintro e u1 ⟨rfl, hbu⟩
            replace hBx := hBx.below hbu
            refine hK.out _ _ (below_then hS hbu) (fun hS9 => ?_)
            try simp only [Act.put, List.setIfInBounds_toArray, List.set_cons_zero, List.set_cons_succ]
            clear hK K9 hS
            have hS := hS9
            clear hS9
            clear hbu
            refine wpAnyE_ready (rs := [10]) (by kernel_rfl) (by simp) ?_
            refine AllReadyE.cons rfl (fun K9 hK => ?_) AllReadyE.nil
            obtain ⟨y0, y1, yf⟩ := hBx
            go_simp
            refine hK.out _ _ (below_set2 hS hDl) (fun hS9 => ?_)
            try simp only [Act.put, List.setIfInBounds_toArray, List.set_cons_zero, List.set_cons_succ]
            clear hK K9 hS
            refine wpAnyE_done (by kernel_rfl) ?_ _
            go_simp
            have HX9 := box_set2 (v0 := .int .i64 (A.T i).am) (v1 := .int .i64 (A.T i).id) ⟨y0, y1, yf⟩
            clear y0 y1 yf
            go_wp2_with fail
            go_meet
            exact ⟨D, rfl, HX9, hS9⟩
        · have hzu := hS.size
          refine step_alV _ (some 7) rfl rfl rfl (fun D u1 hBl hBx hbu => ?_)
          refine hK.out _ _ (below_then hS hbu) (fun hS9 => ?_)
          try simp only [Act.put, List.setIfInBounds_toArray, List.set_cons_zero, List.set_cons_succ]
          clear hK K9 hS
          have hS := hS9
          clear hS9
          have hDl : wr.heap.size ≤ D := by omega
          clear hbu hBl hzu
          refine wpAnyE_ready (rs := [6]) (by kernel_rfl) (by simp) ?_
          refine AllReadyE.cons rfl (fun K9 hK => ?_) AllReadyE.nil
          go_simp
          refine (HTA.out _ hS).mono ?_
          rintro e u1 ⟨rfl, hbu⟩
          replace hBx := hBx.below hbu
          refine hK.out _ _ (below_then hS hbu) (fun hS9 => ?_)
          try simp only [Act.put, List.setIfInBounds_toArray, List.set_cons_zero, List.set_cons_succ]
          clear hK K9 hS
          have hS := hS9
          clear hS9
          clear hbu
          refine wpAnyE_takeD (L := 999) (i := 7) (v := .pointer (some ⟨bb, off + i * 5, none⟩)) (some 51) rfl rfl (by kernel_rfl) (by kernel_rfl) (by kernel_rfl) (by kernel_rfl) (fun _ _ _ h => h) (Or.inl ⟨by kernel_rfl, by intro u hSu; go_simp⟩) hS ?_
          try simp only [Act.put, List.setIfInBounds_toArray, List.set_cons_zero, List.set_cons_succ]
          refine wpAnyE_ready (rs := [8]) (by kernel_rfl) (by simp) ?_
          refine AllReadyE.cons rfl (fun K9 hK => ?_) AllReadyE.nil
          go_simp
          refine (HVA.out _ hS).mono ?_
          rintro e u1 ⟨rfl, hbu⟩
          replace hBx := hBx.below hbu
          refine hK.out _ _ (below_then hS hbu) (fun hS9 => ?_)
          try simp only [Act.put, List.setIfInBounds_toArray, List.set_cons_zero, List.set_cons_succ]
          clear hK K9 hS
          have hS := hS9
          clear hS9
          clear hbu
          refine wpAnyE_ready (rs := [10]) (by kernel_rfl) (by simp) ?_
          refine AllReadyE.cons rfl (fun K9 hK => ?_) AllReadyE.nil
          obtain ⟨y0, y1, yf⟩ := hBx
          go_simp
          refine hK.out _ _ (below_set2 hS hDl) (fun hS9 => ?_)
          try simp only [Act.put, List.setIfInBounds_toArray, List.set_cons_zero, List.set_cons_succ]
          clear hK K9 hS
          refine wpAnyE_done (by kernel_rfl) ?_ _
          go_simp
          have HX9 := box_set2 (v0 := .int .i64 (A.T i).am) (v1 := .int .i64 (A.T i).id) ⟨y0, y1, yf⟩
          clear y0 y1 yf
          go_wp2_with fail
          go_meet
          exact ⟨D, rfl, HX9, hS9⟩
      case rest =>
        obtain ⟨V1, rfl, HV1, HB4⟩ := hcut
        obtain ⟨w4, hw4⟩ : ∃ x, x = wc := ⟨wc, rfl⟩
        rw [← hw4] at HV1 HB4 ⊢
        clear hw4
        replace xk := cell_below xk HB4.out
        obtain ⟨⟨q0, q1, q2, q3⟩, hA1, hA2⟩ := HEBr.out.below HB4.out
        have HEB4 : Hid (EBox w4 (w.heap.size + 1) b cbp b' cbp' B) := HEBr.out.below HB4.out
        rcases hA1 with h | ⟨bd, of, rfl, hbl, hbc⟩
        · omega
        obtain ⟨ti, tc, hCT, -, -⟩ := hbc j hj
        have HTB : Hid (∀ u, Below w4.heap.size w4 u → Calls Tryz.prog 32 #[.pointer (some ⟨w.heap.size + 1, 0, none⟩), .int .i64 id] u fun e w' => e = .returned (.int .i64 (j : Int)) ∧ Below u.heap.size u w') := fun u hu => l6TxnB B (w.heap.size + 1) _ cbp b' cbp' id j u hpB HTB0.out (HEB4.out.below hu)
        have HVB : Hid (∀ u, Below w4.heap.size w4 u → Calls Tryz.prog 31 #[.pointer (some ⟨bd, of + j * 5, none⟩)] u fun e w' => e = .returned (.agg #[.int .i64 (B.T j).am, .int .i64 (B.T j).id]) ∧ Below u.heap.size u w') := fun u hu => l6View_any (B.T j) bd (of + j * 5) ti tc u (hCT.block (hu.block _ hbl))
        have hj1 : (j : Int) < (B.p : Int) := by omega
        have hj0 : (0 : Int) ≤ (j : Int) := by omega
        clear hbc hCT hA2 q0 q1 q3 HTB0 HTA HVA hi1 hi0 p2 HEAr HEBr
        go_upto_region 10 with fail
        go_cut [8] (fun p wx => ∃ D : Nat, p = .pointer (some ⟨D, 0, none⟩) ∧ Hid (Box2 wx D (.int .i64 (B.T j).am) (.int .i64 (B.T j).id)) ∧ Hid (Below w4.heap.size w4 wx))
        case first =>
          refine wp_region_E 999 (S := fun u => Below w4.heap.size w4 u) (by kernel_rfl) ((Below.refl _ _).drew) (fun hS => ?_)
          obtain ⟨u0, hu0⟩ : ∃ y, y = w4.drew := ⟨_, rfl⟩
          rw [← hu0] at hS ⊢
          clear hu0
          refine wpAnyE_takeD (L := 999) (i := 0) (v := .pointer (some ⟨(w.heap.size + 1), 2, none⟩)) (some 53) rfl rfl (by kernel_rfl) (by kernel_rfl) (by kernel_rfl) (by kernel_rfl) (fun _ _ _ h => h) (Or.inl ⟨by kernel_rfl, by intro u hSu; go_simp⟩) hS ?_
          try simp only [Act.put, List.setIfInBounds_toArray, List.set_cons_zero, List.set_cons_succ]
          refine wpAnyE_takeD (L := 999) (i := 1) (v := .slice (some ⟨bd, of, none⟩) B.p cbp) (some 54) rfl rfl (by kernel_rfl) (by kernel_rfl) (by kernel_rfl) (by kernel_rfl) (fun _ _ _ h => h) (Or.inl ⟨by kernel_rfl, by intro u hSu; have gq2 := cell_below q2 hSu; go_simp⟩) hS ?_
          try simp only [Act.put, List.setIfInBounds_toArray, List.set_cons_zero, List.set_cons_succ]
          refine wpAnyE_takeD (L := 999) (i := 2) (v := .slice (some ⟨xb, xo, none⟩) n xc) (some 55) rfl rfl (by kernel_rfl) (by kernel_rfl) (by kernel_rfl) (by kernel_rfl) (fun _ _ _ h => h) (Or.inl ⟨by kernel_rfl, by intro u hSu; go_simp⟩) hS ?_
          try simp only [Act.put, List.setIfInBounds_toArray, List.set_cons_zero, List.set_cons_succ]
          refine wpAnyE_takeD (L := 999) (i := 3) (v := .int .i64 (k : Int)) (some 56) rfl rfl (by kernel_rfl) (by kernel_rfl) (by kernel_rfl) (by kernel_rfl) (fun _ _ _ h => h) (Or.inl ⟨by kernel_rfl, by intro u hSu; go_simp⟩) hS ?_
          try simp only [Act.put, List.setIfInBounds_toArray, List.set_cons_zero, List.set_cons_succ]
          refine wpAnyE_takeD (L := 999) (i := 4) (v := .pointer (some ⟨xb, xo + k, none⟩)) (some 57) rfl rfl (by kernel_rfl) (by kernel_rfl) (by kernel_rfl) (by kernel_rfl) (fun _ _ _ h => h) (Or.inl ⟨by kernel_rfl, by intro u hSu; go_simp⟩) hS ?_
          try simp only [Act.put, List.setIfInBounds_toArray, List.set_cons_zero, List.set_cons_succ]
          refine wpAnyE_takeD (L := 999) (i := 5) (v := .int .i64 id) (some 58) rfl rfl (by kernel_rfl) (by kernel_rfl) (by kernel_rfl) (by kernel_rfl) (fun _ _ _ h => h) (Or.inl ⟨by kernel_rfl, by intro u hSu; have gxk := cell_below xk hSu; go_simp⟩) hS ?_
          try simp only [Act.put, List.setIfInBounds_toArray, List.set_cons_zero, List.set_cons_succ]
          refine wpAnyE_ready (rs := [6, 9]) (by kernel_rfl) (by simp) ?_
          refine AllReadyE.cons rfl (fun K9 hK => ?_) (AllReadyE.cons rfl (fun K9 hK => ?_) AllReadyE.nil)
          · go_simp
            refine (HTB.out _ hS).mono ?_
            rintro e u1 ⟨rfl, hbu⟩
            refine hK.out _ _ (below_then hS hbu) (fun hS9 => ?_)
            try simp only [Act.put, List.setIfInBounds_toArray, List.set_cons_zero, List.set_cons_succ]
            clear hK K9 hS
            have hS := hS9
            clear hS9
            clear hbu
            refine wpAnyE_takeD (L := 999) (i := 7) (v := .pointer (some ⟨bd, of + j * 5, none⟩)) (some 60) rfl rfl (by kernel_rfl) (by kernel_rfl) (by kernel_rfl) (by kernel_rfl) (fun _ _ _ h => h) (Or.inl ⟨by kernel_rfl, by intro u hSu; go_simp⟩) hS ?_
            try simp only [Act.put, List.setIfInBounds_toArray, List.set_cons_zero, List.set_cons_succ]
            refine wpAnyE_ready (rs := [8, 9]) (by kernel_rfl) (by simp) ?_
            refine AllReadyE.cons rfl (fun K9 hK => ?_) (AllReadyE.cons rfl (fun K9 hK => ?_) AllReadyE.nil)
            · go_simp
              refine (HVB.out _ hS).mono ?_
              rintro e u1 ⟨rfl, hbu⟩
              refine hK.out _ _ (below_then hS hbu) (fun hS9 => ?_)
              try simp only [Act.put, List.setIfInBounds_toArray, List.set_cons_zero, List.set_cons_succ]
              clear hK K9 hS
              have hS := hS9
              clear hS9
              clear hbu
              refine wpAnyE_ready (rs := [9]) (by kernel_rfl) (by simp) ?_
              refine AllReadyE.cons rfl (fun K9 hK => ?_) AllReadyE.nil
              have hzu := hS.size
              refine step_alV _ (some 8) rfl rfl rfl (fun D u1 hBl hBx hbu => ?_)
              refine hK.out _ _ (below_then hS hbu) (fun hS9 => ?_)
              try simp only [Act.put, List.setIfInBounds_toArray, List.set_cons_zero, List.set_cons_succ]
              clear hK K9 hS
              have hS := hS9
              clear hS9
              have hDl : w4.heap.size ≤ D := by omega
              clear hbu hBl hzu
              refine wpAnyE_ready (rs := [10]) (by kernel_rfl) (by simp) ?_
              refine AllReadyE.cons rfl (fun K9 hK => ?_) AllReadyE.nil
              obtain ⟨y0, y1, yf⟩ := hBx
              go_simp
              refine hK.out _ _ (below_set2 hS hDl) (fun hS9 => ?_)
              try simp only [Act.put, List.setIfInBounds_toArray, List.set_cons_zero, List.set_cons_succ]
              clear hK K9 hS
              refine wpAnyE_done (by kernel_rfl) ?_ _
              go_simp
              have HX9 := box_set2 (v0 := .int .i64 (B.T j).am) (v1 := .int .i64 (B.T j).id) ⟨y0, y1, yf⟩
              clear y0 y1 yf
              go_wp2_with fail
              go_meet
              exact ⟨D, rfl, HX9, hS9⟩
            · have hzu := hS.size
              refine step_alV _ (some 8) rfl rfl rfl (fun D u1 hBl hBx hbu => ?_)
              refine hK.out _ _ (below_then hS hbu) (fun hS9 => ?_)
              try simp only [Act.put, List.setIfInBounds_toArray, List.set_cons_zero, List.set_cons_succ]
              clear hK K9 hS
              have hS := hS9
              clear hS9
              have hDl : w4.heap.size ≤ D := by omega
              clear hbu hBl hzu
              refine wpAnyE_ready (rs := [8]) (by kernel_rfl) (by simp) ?_
              refine AllReadyE.cons rfl (fun K9 hK => ?_) AllReadyE.nil
              go_simp
              refine (HVB.out _ hS).mono ?_
              rintro e u1 ⟨rfl, hbu⟩
              replace hBx := hBx.below hbu
              refine hK.out _ _ (below_then hS hbu) (fun hS9 => ?_)
              try simp only [Act.put, List.setIfInBounds_toArray, List.set_cons_zero, List.set_cons_succ]
              clear hK K9 hS
              have hS := hS9
              clear hS9
              clear hbu
              refine wpAnyE_ready (rs := [10]) (by kernel_rfl) (by simp) ?_
              refine AllReadyE.cons rfl (fun K9 hK => ?_) AllReadyE.nil
              obtain ⟨y0, y1, yf⟩ := hBx
              go_simp
              refine hK.out _ _ (below_set2 hS hDl) (fun hS9 => ?_)
              try simp only [Act.put, List.setIfInBounds_toArray, List.set_cons_zero, List.set_cons_succ]
              clear hK K9 hS
              refine wpAnyE_done (by kernel_rfl) ?_ _
              go_simp
              have HX9 := box_set2 (v0 := .int .i64 (B.T j).am) (v1 := .int .i64 (B.T j).id) ⟨y0, y1, yf⟩
              clear y0 y1 yf
              go_wp2_with fail
              go_meet
              exact ⟨D, rfl, HX9, hS9⟩
          · have hzu := hS.size
            refine step_alV _ (some 8) rfl rfl rfl (fun D u1 hBl hBx hbu => ?_)
            refine hK.out _ _ (below_then hS hbu) (fun hS9 => ?_)
            try simp only [Act.put, List.setIfInBounds_toArray, List.set_cons_zero, List.set_cons_succ]
            clear hK K9 hS
            have hS := hS9
            clear hS9
            have hDl : w4.heap.size ≤ D := by omega
            clear hbu hBl hzu
            refine wpAnyE_ready (rs := [6]) (by kernel_rfl) (by simp) ?_
            refine AllReadyE.cons rfl (fun K9 hK => ?_) AllReadyE.nil
            go_simp
            refine (HTB.out _ hS).mono ?_
            rintro e u1 ⟨rfl, hbu⟩
            replace hBx := hBx.below hbu
            refine hK.out _ _ (below_then hS hbu) (fun hS9 => ?_)
            try simp only [Act.put, List.setIfInBounds_toArray, List.set_cons_zero, List.set_cons_succ]
            clear hK K9 hS
            have hS := hS9
            clear hS9
            clear hbu
            refine wpAnyE_takeD (L := 999) (i := 7) (v := .pointer (some ⟨bd, of + j * 5, none⟩)) (some 60) rfl rfl (by kernel_rfl) (by kernel_rfl) (by kernel_rfl) (by kernel_rfl) (fun _ _ _ h => h) (Or.inl ⟨by kernel_rfl, by intro u hSu; go_simp⟩) hS ?_
            try simp only [Act.put, List.setIfInBounds_toArray, List.set_cons_zero, List.set_cons_succ]
            refine wpAnyE_ready (rs := [8]) (by kernel_rfl) (by simp) ?_
            refine AllReadyE.cons rfl (fun K9 hK => ?_) AllReadyE.nil
            go_simp
            refine (HVB.out _ hS).mono ?_
            rintro e u1 ⟨rfl, hbu⟩
            replace hBx := hBx.below hbu
            refine hK.out _ _ (below_then hS hbu) (fun hS9 => ?_)
            try simp only [Act.put, List.setIfInBounds_toArray, List.set_cons_zero, List.set_cons_succ]
            clear hK K9 hS
            have hS := hS9
            clear hS9
            clear hbu
            refine wpAnyE_ready (rs := [10]) (by kernel_rfl) (by simp) ?_
            refine AllReadyE.cons rfl (fun K9 hK => ?_) AllReadyE.nil
            obtain ⟨y0, y1, yf⟩ := hBx
            go_simp
            refine hK.out _ _ (below_set2 hS hDl) (fun hS9 => ?_)
            try simp only [Act.put, List.setIfInBounds_toArray, List.set_cons_zero, List.set_cons_succ]
            clear hK K9 hS
            refine wpAnyE_done (by kernel_rfl) ?_ _
            go_simp
            have HX9 := box_set2 (v0 := .int .i64 (B.T j).am) (v1 := .int .i64 (B.T j).id) ⟨y0, y1, yf⟩
            clear y0 y1 yf
            go_wp2_with fail
            go_meet
            exact ⟨D, rfl, HX9, hS9⟩
        case rest =>
        obtain ⟨V2, rfl, HV2, HB6⟩ := hcut
        obtain ⟨w5, hw5⟩ : ∃ x, x = wc := ⟨wc, rfl⟩
        rw [← hw5] at HV2 HB6 ⊢
        clear hw5
        have HB5 : Hid (Below W3.heap.size W3 w5) := below_then HB.out (below_then HB4.out HB6.out)
        obtain ⟨m0, m1⟩ := HV1.out.below HB6.out
        obtain ⟨n0, n1⟩ := HV2.out
        have HL1 : Hid ((scE A (A.T i)).length ≤ 140737488355328) := by have := scL_len A.q A.R (A.T i).am (A.T i).id 0 31 A.q; show _ ≤ _; unfold scE; omega
        have HL2 : Hid ((scE B (B.T j)).length ≤ 140737488355328) := by have := scL_len B.q B.R (B.T j).am (B.T j).id 0 31 B.q; show _ ≤ _; unfold scE; omega
        clear HTB HVB hj1 hj0 q2 HEB4 xk HV1 HV2 HB6 HB4 HB
        go_upto_region 11 with fail
        by_cases hsc : scE A (A.T i) = scE B (B.T j)
        case neg =>
          have HF : Hid (c = false) := not_true HCF.out fun h => hsc (HCK9.out.2 (h k HLT.out)).1
          refine wp_region_E 999 (S := fun u => Below w5.heap.size w5 u) (by kernel_rfl) ((Below.refl _ _).drew) (fun hS => ?_)
          obtain ⟨u0, hu0⟩ : ∃ y, y = w5.drew := ⟨_, rfl⟩
          rw [← hu0] at hS ⊢
          clear hu0
          refine wpAnyE_takeD (L := 999) (i := 0) (v := .agg #[.int .i64 (A.T i).am, .int .i64 (A.T i).id]) (some 62) rfl rfl (by kernel_rfl) (by kernel_rfl) (by kernel_rfl) (by kernel_rfl) (fun _ _ _ h => h) (Or.inl ⟨by kernel_rfl, by intro u hSu; have gm0 := cell_below m0 hSu; have gm1 := cell_below m1 hSu; go_simp⟩) hS ?_
          try simp only [Act.put, List.setIfInBounds_toArray, List.set_cons_zero, List.set_cons_succ]
          refine wpAnyE_takeD (L := 999) (i := 2) (v := .agg #[.int .i64 (B.T j).am, .int .i64 (B.T j).id]) (some 64) rfl rfl (by kernel_rfl) (by kernel_rfl) (by kernel_rfl) (by kernel_rfl) (fun _ _ _ h => h) (Or.inl ⟨by kernel_rfl, by intro u hSu; have gn0 := cell_below n0 hSu; have gn1 := cell_below n1 hSu; go_simp⟩) hS ?_
          try simp only [Act.put, List.setIfInBounds_toArray, List.set_cons_zero, List.set_cons_succ]
          refine wpAnyE_ready (rs := [1]) (by kernel_rfl) (by simp) ?_
          refine AllReadyE.cons rfl (fun K9 hK => ?_) AllReadyE.nil
          go_simp
          refine (l6ScanC A w.heap.size _ cap a' cap' (A.T i) _ hqA HRA.out (HEA.out.below (below_then HB5.out hS))).mono ?_
          rintro e u1 ⟨v1, c1, rfl, hbu, hc1⟩
          have HC1 : Hid (CellsAt u1 v1 (scE A (A.T i)).length (kC (scE A (A.T i))) (vC (scE A (A.T i)))) := hc1
          clear hc1
          refine hK.out _ _ (below_then hS hbu) (fun hS9 => ?_)
          try simp only [Act.put, List.setIfInBounds_toArray, List.set_cons_zero, List.set_cons_succ]
          clear hK K9 hS hbu
          have hS := hS9
          clear hS9
          refine wpAnyE_ready (rs := [3]) (by kernel_rfl) (by simp) ?_
          refine AllReadyE.cons rfl (fun K9 hK => ?_) AllReadyE.nil
          go_simp
          refine (l6ScanC B (w.heap.size + 1) _ cbp b' cbp' (B.T j) _ hqB HRB.out (HEB.out.below (below_then HB5.out hS))).mono ?_
          rintro e u1 ⟨v2, c2, rfl, hbu, hc2⟩
          have HC2 : Hid (CellsAt u1 v2 (scE B (B.T j)).length (kC (scE B (B.T j))) (vC (scE B (B.T j)))) := hc2
          clear hc2
          replace HC1 : Hid (CellsAt u1 v1 (scE A (A.T i)).length (kC (scE A (A.T i))) (vC (scE A (A.T i)))) := HC1.out.below hbu
          refine hK.out _ _ (below_then hS hbu) (fun hS9 => ?_)
          try simp only [Act.put, List.setIfInBounds_toArray, List.set_cons_zero, List.set_cons_succ]
          clear hK K9 hS hbu
          have hS := hS9
          clear hS9
          refine wpAnyE_ready (rs := [4]) (by kernel_rfl) (by simp) ?_
          refine AllReadyE.cons rfl (fun K9 hK => ?_) AllReadyE.nil
          go_simp
          refine (l7CellsB (scE A (A.T i)) (scE B (B.T j)) v1 v2 c1 c2 _ HL1.out HL2.out HC1.out HC2.out).mono ?_
          rintro e u1 ⟨rfl, hbu⟩
          refine hK.out _ _ (below_then hS hbu) (fun hS9 => ?_)
          try simp only [Act.put, List.setIfInBounds_toArray, List.set_cons_zero, List.set_cons_succ]
          clear hK K9 hS hbu
          have hS := hS9
          clear hS9
          rw [decide_eq_false hsc]
          refine wpAnyE_takeD (L := 999) (i := 5) (v := .bool true) (some 67) rfl rfl (by kernel_rfl) (by kernel_rfl) (by kernel_rfl) (by kernel_rfl) (fun _ _ _ h => h) (Or.inl ⟨by kernel_rfl, by intro u hSu; go_simp⟩) hS ?_
          try simp only [Act.put, List.setIfInBounds_toArray, List.set_cons_zero, List.set_cons_succ]
          refine wpAnyE_takeD (L := 999) (i := 6) (v := .bool true) (some 68) rfl rfl (by kernel_rfl) (by kernel_rfl) (by kernel_rfl) (by kernel_rfl) (fun _ _ _ h => h) (Or.inl ⟨by kernel_rfl, by intro u hSu; go_simp⟩) hS ?_
          try simp only [Act.put, List.setIfInBounds_toArray, List.set_cons_zero, List.set_cons_succ]
          refine wpAnyE_takeD (L := 999) (i := 7) (v := undef) (some 69) rfl rfl (by kernel_rfl) (by kernel_rfl) (by kernel_rfl) (by kernel_rfl) (fun _ _ _ h => h) (Or.inr ⟨by kernel_rfl, rfl⟩) hS ?_
          try simp only [Act.put, List.setIfInBounds_toArray, List.set_cons_zero, List.set_cons_succ]
          refine wpAnyE_takeD (L := 999) (i := 8) (v := undef) (some 70) rfl rfl (by kernel_rfl) (by kernel_rfl) (by kernel_rfl) (by kernel_rfl) (fun _ _ _ h => h) (Or.inr ⟨by kernel_rfl, rfl⟩) hS ?_
          try simp only [Act.put, List.setIfInBounds_toArray, List.set_cons_zero, List.set_cons_succ]
          refine wpAnyE_takeD (L := 999) (i := 9) (v := undef) (some 71) rfl rfl (by kernel_rfl) (by kernel_rfl) (by kernel_rfl) (by kernel_rfl) (fun _ _ _ h => h) (Or.inr ⟨by kernel_rfl, rfl⟩) hS ?_
          try simp only [Act.put, List.setIfInBounds_toArray, List.set_cons_zero, List.set_cons_succ]
          refine wpAnyE_takeD (L := 999) (i := 10) (v := undef) (some 72) rfl rfl (by kernel_rfl) (by kernel_rfl) (by kernel_rfl) (by kernel_rfl) (fun _ _ _ h => h) (Or.inr ⟨by kernel_rfl, rfl⟩) hS ?_
          try simp only [Act.put, List.setIfInBounds_toArray, List.set_cons_zero, List.set_cons_succ]
          refine wpAnyE_takeD (L := 999) (i := 11) (v := undef) (some 73) rfl rfl (by kernel_rfl) (by kernel_rfl) (by kernel_rfl) (by kernel_rfl) (fun _ _ _ h => h) (Or.inr ⟨by kernel_rfl, rfl⟩) hS ?_
          try simp only [Act.put, List.setIfInBounds_toArray, List.set_cons_zero, List.set_cons_succ]
          refine wpAnyE_takeD (L := 999) (i := 12) (v := undef) (some 74) rfl rfl (by kernel_rfl) (by kernel_rfl) (by kernel_rfl) (by kernel_rfl) (fun _ _ _ h => h) (Or.inr ⟨by kernel_rfl, rfl⟩) hS ?_
          try simp only [Act.put, List.setIfInBounds_toArray, List.set_cons_zero, List.set_cons_succ]
          refine wpAnyE_takeD (L := 999) (i := 13) (v := .bool true) (some 75) rfl rfl (by kernel_rfl) (by kernel_rfl) (by kernel_rfl) (by kernel_rfl) (fun _ _ _ h => h) (Or.inl ⟨by kernel_rfl, by intro u hSu; go_simp⟩) hS ?_
          try simp only [Act.put, List.setIfInBounds_toArray, List.set_cons_zero, List.set_cons_succ]
          refine wpAnyE_done (by kernel_rfl) ?_ _
          go_simp
          go_wp2_with fail
          go_ret
          exact ⟨ret_bool HF.out.symm, below_then HB3.out (below_then HB5.out hS)⟩
        have HSC : Hid (scE A (A.T i) = scE B (B.T j)) := hsc
        clear hsc
        refine wp_region_E 999 (S := fun u => Below w5.heap.size w5 u) (by kernel_rfl) ((Below.refl _ _).drew) (fun hS => ?_)
        obtain ⟨u0, hu0⟩ : ∃ y, y = w5.drew := ⟨_, rfl⟩
        rw [← hu0] at hS ⊢
        clear hu0
        refine wpAnyE_takeD (L := 999) (i := 0) (v := .agg #[.int .i64 (A.T i).am, .int .i64 (A.T i).id]) (some 62) rfl rfl (by kernel_rfl) (by kernel_rfl) (by kernel_rfl) (by kernel_rfl) (fun _ _ _ h => h) (Or.inl ⟨by kernel_rfl, by intro u hSu; have gm0 := cell_below m0 hSu; have gm1 := cell_below m1 hSu; go_simp⟩) hS ?_
        try simp only [Act.put, List.setIfInBounds_toArray, List.set_cons_zero, List.set_cons_succ]
        refine wpAnyE_takeD (L := 999) (i := 2) (v := .agg #[.int .i64 (B.T j).am, .int .i64 (B.T j).id]) (some 64) rfl rfl (by kernel_rfl) (by kernel_rfl) (by kernel_rfl) (by kernel_rfl) (fun _ _ _ h => h) (Or.inl ⟨by kernel_rfl, by intro u hSu; have gn0 := cell_below n0 hSu; have gn1 := cell_below n1 hSu; go_simp⟩) hS ?_
        try simp only [Act.put, List.setIfInBounds_toArray, List.set_cons_zero, List.set_cons_succ]
        refine wpAnyE_ready (rs := [1]) (by kernel_rfl) (by simp) ?_
        refine AllReadyE.cons rfl (fun K9 hK => ?_) AllReadyE.nil
        go_simp
        refine (l6ScanC A w.heap.size _ cap a' cap' (A.T i) _ hqA HRA.out (HEA.out.below (below_then HB5.out hS))).mono ?_
        rintro e u1 ⟨v1, c1, rfl, hbu, hc1⟩
        have HC1 : Hid (CellsAt u1 v1 (scE A (A.T i)).length (kC (scE A (A.T i))) (vC (scE A (A.T i)))) := hc1
        clear hc1
        refine hK.out _ _ (below_then hS hbu) (fun hS9 => ?_)
        try simp only [Act.put, List.setIfInBounds_toArray, List.set_cons_zero, List.set_cons_succ]
        clear hK K9 hS hbu
        have hS := hS9
        clear hS9
        refine wpAnyE_ready (rs := [3]) (by kernel_rfl) (by simp) ?_
        refine AllReadyE.cons rfl (fun K9 hK => ?_) AllReadyE.nil
        go_simp
        refine (l6ScanC B (w.heap.size + 1) _ cbp b' cbp' (B.T j) _ hqB HRB.out (HEB.out.below (below_then HB5.out hS))).mono ?_
        rintro e u1 ⟨v2, c2, rfl, hbu, hc2⟩
        have HC2 : Hid (CellsAt u1 v2 (scE B (B.T j)).length (kC (scE B (B.T j))) (vC (scE B (B.T j)))) := hc2
        clear hc2
        replace HC1 : Hid (CellsAt u1 v1 (scE A (A.T i)).length (kC (scE A (A.T i))) (vC (scE A (A.T i)))) := HC1.out.below hbu
        refine hK.out _ _ (below_then hS hbu) (fun hS9 => ?_)
        try simp only [Act.put, List.setIfInBounds_toArray, List.set_cons_zero, List.set_cons_succ]
        clear hK K9 hS hbu
        have hS := hS9
        clear hS9
        refine wpAnyE_ready (rs := [4]) (by kernel_rfl) (by simp) ?_
        refine AllReadyE.cons rfl (fun K9 hK => ?_) AllReadyE.nil
        go_simp
        refine (l7CellsB (scE A (A.T i)) (scE B (B.T j)) v1 v2 c1 c2 _ HL1.out HL2.out HC1.out HC2.out).mono ?_
        rintro e u1 ⟨rfl, hbu⟩
        refine hK.out _ _ (below_then hS hbu) (fun hS9 => ?_)
        try simp only [Act.put, List.setIfInBounds_toArray, List.set_cons_zero, List.set_cons_succ]
        clear hK K9 hS hbu
        have hS := hS9
        clear hS9
        rw [decide_eq_true HSC.out]
        refine wpAnyE_takeD (L := 999) (i := 5) (v := .bool false) (some 67) rfl rfl (by kernel_rfl) (by kernel_rfl) (by kernel_rfl) (by kernel_rfl) (fun _ _ _ h => h) (Or.inl ⟨by kernel_rfl, by intro u hSu; go_simp⟩) hS ?_
        try simp only [Act.put, List.setIfInBounds_toArray, List.set_cons_zero, List.set_cons_succ]
        refine wpAnyE_takeD (L := 999) (i := 6) (v := .bool false) (some 68) rfl rfl (by kernel_rfl) (by kernel_rfl) (by kernel_rfl) (by kernel_rfl) (fun _ _ _ h => h) (Or.inl ⟨by kernel_rfl, by intro u hSu; go_simp⟩) hS ?_
        try simp only [Act.put, List.setIfInBounds_toArray, List.set_cons_zero, List.set_cons_succ]
        refine wpAnyE_takeD (L := 999) (i := 7) (v := .agg #[.int .i64 (A.T i).am, .int .i64 (A.T i).id]) (some 69) rfl rfl (by kernel_rfl) (by kernel_rfl) (by kernel_rfl) (by kernel_rfl) (fun _ _ _ h => h) (Or.inl ⟨by kernel_rfl, by intro u hSu; have gm0 := cell_below m0 hSu; have gm1 := cell_below m1 hSu; go_simp⟩) hS ?_
        try simp only [Act.put, List.setIfInBounds_toArray, List.set_cons_zero, List.set_cons_succ]
        refine wpAnyE_takeD (L := 999) (i := 9) (v := .agg #[.int .i64 (B.T j).am, .int .i64 (B.T j).id]) (some 71) rfl rfl (by kernel_rfl) (by kernel_rfl) (by kernel_rfl) (by kernel_rfl) (fun _ _ _ h => h) (Or.inl ⟨by kernel_rfl, by intro u hSu; have gn0 := cell_below n0 hSu; have gn1 := cell_below n1 hSu; go_simp⟩) hS ?_
        try simp only [Act.put, List.setIfInBounds_toArray, List.set_cons_zero, List.set_cons_succ]
        refine wpAnyE_ready (rs := [8]) (by kernel_rfl) (by simp) ?_
        refine AllReadyE.cons rfl (fun K9 hK => ?_) AllReadyE.nil
        rw [if_pos (by kernel_rfl)]
        go_simp
        refine (l7May_any A w.heap.size _ cap a' cap' (A.T i).am (A.T i).id _ hqA (HEA.out.below (below_then HB5.out hS))).mono ?_
        rintro e u1 ⟨v3, c3, rfl, hbu, hi3⟩
        have HI1 : Hid (IntsAt u1 v3 (myE A (A.T i)).length (zI (myE A (A.T i)))) := hi3
        clear hi3
        refine hK.out _ _ (below_then hS hbu) (fun hS9 => ?_)
        try simp only [Act.put, List.setIfInBounds_toArray, List.set_cons_zero, List.set_cons_succ]
        clear hK K9 hS hbu
        have hS := hS9
        clear hS9
        refine wpAnyE_ready (rs := [10]) (by kernel_rfl) (by simp) ?_
        refine AllReadyE.cons rfl (fun K9 hK => ?_) AllReadyE.nil
        rw [if_pos (by kernel_rfl)]
        go_simp
        refine (l7May_any B (w.heap.size + 1) _ cbp b' cbp' (B.T j).am (B.T j).id _ hqB (HEB.out.below (below_then HB5.out hS))).mono ?_
        rintro e u1 ⟨v4, c4, rfl, hbu, hi4⟩
        have HI2 : Hid (IntsAt u1 v4 (myE B (B.T j)).length (zI (myE B (B.T j)))) := hi4
        replace HI1 : Hid (IntsAt u1 v3 (myE A (A.T i)).length (zI (myE A (A.T i)))) := HI1.out.below hbu
        clear hi4
        refine hK.out _ _ (below_then hS hbu) (fun hS9 => ?_)
        try simp only [Act.put, List.setIfInBounds_toArray, List.set_cons_zero, List.set_cons_succ]
        clear hK K9 hS hbu
        have hS := hS9
        clear hS9
        refine wpAnyE_ready (rs := [11]) (by kernel_rfl) (by simp) ?_
        refine AllReadyE.cons rfl (fun K9 hK => ?_) AllReadyE.nil
        rw [if_pos (by kernel_rfl)]
        go_simp
        refine (l7SameB (myE A (A.T i)) (myE B (B.T j)) v3 v4 c3 c4 _ (myE_len _ _) (myE_len _ _) HI1.out HI2.out).mono ?_
        rintro e u1 ⟨rfl, hbu⟩
        refine hK.out _ _ (below_then hS hbu) (fun hS9 => ?_)
        try simp only [Act.put, List.setIfInBounds_toArray, List.set_cons_zero, List.set_cons_succ]
        clear hK K9 hS hbu
        have hS := hS9
        clear hS9
        refine wpAnyE_takeD (L := 999) (i := 12) (v := .bool (!decide (myE A (A.T i) = myE B (B.T j)))) (some 74) rfl rfl (by kernel_rfl) (by kernel_rfl) (by kernel_rfl) (by kernel_rfl) (fun _ _ _ h => h) (Or.inl ⟨by kernel_rfl, by intro u hSu; go_simp⟩) hS ?_
        try simp only [Act.put, List.setIfInBounds_toArray, List.set_cons_zero, List.set_cons_succ]
        refine wpAnyE_takeD (L := 999) (i := 13) (v := .bool (!decide (myE A (A.T i) = myE B (B.T j)))) (some 75) rfl rfl (by kernel_rfl) (by kernel_rfl) (by kernel_rfl) (by kernel_rfl) (fun _ _ _ h => h) (Or.inl ⟨by kernel_rfl, by intro u hSu; go_simp⟩) hS ?_
        try simp only [Act.put, List.setIfInBounds_toArray, List.set_cons_zero, List.set_cons_succ]
        refine wpAnyE_done (by kernel_rfl) ?_ _
        go_simp
        have HBZ : Hid (Below W3.heap.size W3 _) := below_then HB5.out hS
        clear hS m0 m1 n0 n1
        by_cases hmy : myE A (A.T i) = myE B (B.T j)
        case neg =>
          have HF : Hid (c = false) := not_true HCF.out fun h => hmy (HCK9.out.2 (h k HLT.out)).2
          rw [decide_eq_false hmy]
          clear hmy
          go_wp2_with fail
          go_ret
          exact ⟨ret_bool HF.out.symm, below_then HB3.out HBZ.out⟩
        have HQ2 : Hid (∀ q, q < k + 1 → scE A (oX A q) = scE B (oX B q) ∧ myE A (oX A q) = myE B (oX B q)) := fun q hq => by
          rcases Nat.lt_or_ge q k with h | h
          · exact HQ.out q h
          · have e : q = k := by omega
            rw [e]
            exact HCK9.out.1 ⟨HSC.out, hmy⟩
        rw [decide_eq_true hmy]
        clear hmy
        go_wp2_with fail
        go_roundw
        case rel => exact ⟨k + 1, HLT.out, by go_num, HQ2, HBZ⟩
        case measure => simp [intOf]; omega
    · have hkn : k = n := by omega
      have hnl : ¬ ((k : Int) < (n : Int)) := by omega
      have HF : Hid (c = true) := HCF.out.2 fun q hq => HQ.out q (by omega)
      clear HQ
      go_wp2_with fail
      go_ret
      exact ⟨ret_bool HF.out.symm, below_then HB3.out HB.out⟩
end Go.Proofs.YtnhlcadipkmhhaaGreat
