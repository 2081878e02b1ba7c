/- An open transaction of an engine: both sides. -/
import Derived.Test.YtjdodbiphijjgaaGreatQGg
import Derived.Test.YtjdodbiphijjgaaGreatQFf
namespace Go.Proofs.YtjdodbiphijjgaaGreat
open Go.RowKit Go.Deep
set_option linter.unusedVariables false
set_option maxRecDepth 20000

/-- Why a transaction is not open, or 0; where it stands. -/
def askC (E : En) (id : Int) : Int := if eF E = 0 then (if fT E.p E.T id < 0 then 4 else if (E.T (fT E.p E.T id).toNat).st = 1 then 0 else 10) else eF E
def askP (E : En) (id : Int) : Int := if askC E id = 0 then fT E.p E.T id else 0
theorem ask_bad {E : En} {id : Int} (h : eF E ≠ 0) : askC E id = eF E ∧ askP E id = 0 := by
  have e : askC E id = eF E := if_neg h
  exact ⟨e, if_neg (by rw [e]; exact h)⟩
theorem ask_none {E : En} {id : Int} (h : eF E = 0) (h1 : fT E.p E.T id = -1) : askC E id = 4 ∧ askP E id = 0 := by
  have e : askC E id = 4 := by unfold askC; rw [if_pos h, if_pos (by rw [h1]; decide)]
  exact ⟨e, if_neg (by rw [e]; decide)⟩
theorem ask_some {E : En} {id : Int} {j : Nat} (h : eF E = 0) (h1 : fT E.p E.T id = (j : Int)) : (askC E id = if (E.T j).st = 1 then 0 else 10) ∧ (askP E id = if (E.T j).st = 1 then (j : Int) else 0) := by
  have e : askC E id = if (E.T j).st = 1 then 0 else 10 := by
    unfold askC
    rw [if_pos h, if_neg (by rw [h1]; omega), h1, Int.toNat_natCast]
  refine ⟨e, ?_⟩
  unfold askP
  rw [e]
  by_cases h2 : (E.T j).st = 1
  · rw [if_pos h2, if_pos rfl, if_pos h2, h1]
  · rw [if_neg h2, if_neg (by decide), if_neg h2]
theorem fT_cases (E : En) (id : Int) : fT E.p E.T id = -1 ∨ ∃ j, j < E.p ∧ fT E.p E.T id = (j : Int) ∧ (E.T j).id = id := by
  rcases fi_cases (fun i => (E.T i).id == id) E.p with ⟨h1, -⟩ | ⟨j, h1, h2, h3, -⟩
  · exact .inl h1
  · exact .inr ⟨j, h1, h2, by simpa using h3⟩
theorem eF_pq {E : En} (h : eF E = 0) : E.p ≤ 20 ∧ E.q ≤ 32 := by
  unfold eF at h
  split at h
  · omega
  · split at h
    · omega
    · omega
set_option maxHeartbeats 2000000 in
theorem l6Asked_any (E : En) (B : Nat) (a : Option Addr) (cap : Nat) (a' : Option Addr) (cap' : Nat) (id : Int) (w : World) (hs : SmallE E) (h : EBox w B a cap a' cap' E) :
    Calls Tryz.prog 59 #[.pointer (some ⟨B, 0, none⟩), .int .i64 id] w fun e w' => e = .returned (.tuple #[.int .i64 (askP E id), .int .i64 (askC E id)]) ∧ Below w.heap.size w w' := by
  have HX : Hid (EBox w B a cap a' cap' E) := h
  have HS : Hid (SmallE E) := hs
  clear h hs
  go_enter Tryz.func59, Tryz.ntmps59
  go_wp2_with fail
  refine (l6Fault_any E B a cap a' cap' w HS.out HX.out).mono ?_
  rintro e w1 ⟨rfl, hb1⟩
  have HB1 : Hid (Below w.heap.size w w1) := hb1
  have HX1 : Hid (EBox w1 B a cap a' cap' E) := HX.out.below hb1
  clear hb1
  by_cases hc : eF E = 0
  case neg =>
    have HE : Hid (askC E id = eF E ∧ askP E id = 0) := ask_bad hc
    have hc2 : (eF E != 0) = true := by simp [hc]
    clear hc
    generalize eF E = uu at *
    go_wp2_with fail
    go_ret2
    exact ⟨by rw [HE.out.1, HE.out.2]; rfl, HB1.out⟩
  have hp20 := (eF_pq hc).1
  have HC : Hid (eF E = 0) := hc
  rw [hc]
  clear hc
  obtain ⟨⟨b0, b1, b2, b3⟩, hTA, -⟩ := HX1.out
  have HTA : Hid (TxsAt w1 a E.p E.T) := hTA
  clear hTA
  go_wp2_with fail
  refine (l6Txn_any E.p E.T B a cap id w1 (by omega) b2 HTA.out).mono ?_
  rintro e w2 ⟨rfl, hw2⟩
  have hw3 := hw2.symm
  clear hw2
  subst hw3
  rcases fT_cases E id with h1 | ⟨j, hj, h1, -⟩
  · have HE : Hid (askC E id = 4 ∧ askP E id = 0) := ask_none HC.out h1
    rw [h1]
    clear h1
    go_wp2_with fail
    go_ret2
    exact ⟨by rw [HE.out.1, HE.out.2]; rfl, HB1.out⟩
  · have HE : Hid ((askC E id = if (E.T j).st = 1 then 0 else 10) ∧ (askP E id = if (E.T j).st = 1 then (j : Int) else 0)) := ask_some HC.out h1
    rw [h1]
    rcases HTA.out with h | ⟨bb, off, rfl, hl, hcc⟩
    · omega
    obtain ⟨ti, tc, ⟨x0, x1, x2, x3, x4⟩, -, -⟩ := hcc j hj
    have hj1 : (j : Int) < (E.p : Int) := by omega
    have hj0 : (0 : Int) ≤ (j : Int) := by omega
    have hj3 : ¬ ((j : Int) < 0) := by omega
    clear hcc h1
    by_cases hst : (E.T j).st = 1
    · have hs2 : ((E.T j).st != 1) = false := by simp [hst]
      have HE2 : Hid (askC E id = 0 ∧ askP E id = (j : Int)) := ⟨HE.out.1.trans (if_pos hst), HE.out.2.trans (if_pos hst)⟩
      clear hst HE
      go_wp2_with fail
      go_ret2
      exact ⟨by rw [HE2.out.1, HE2.out.2]; rfl, HB1.out⟩
    · have hs2 : ((E.T j).st != 1) = true := by simp [hst]
      have HE2 : Hid (askC E id = 10 ∧ askP E id = 0) := ⟨HE.out.1.trans (if_neg hst), HE.out.2.trans (if_neg hst)⟩
      clear hst HE
      go_wp2_with fail
      go_ret2
      exact ⟨by rw [HE2.out.1, HE2.out.2]; rfl, HB1.out⟩
theorem open1_any (t : Tx) (ti : Option Addr) (tc : Nat) (B : Nat) (id : Int) (w : World) (hc : w.cell? ⟨B, 0, none⟩ = some (.int .i64 id)) :
    Calls Tryz.prog 166 #[.agg #[.int .i64 t.id, .int .i64 t.am, .int .i64 t.st, .int .i64 t.dn, .slice ti t.n tc], .pointer (some ⟨B, 0, none⟩)] w fun e w' => e = .returned (.bool (t.id == id)) ∧ Below w.heap.size w w' := by
  have h2 := fun o : Obj => cell_alloc hc o
  go_enter Tryz.func166, Tryz.ntmps166
  go_wp2_with fail
  go_ret
  exact ⟨rfl, below_new _ _⟩
set_option maxHeartbeats 2000000 in
theorem idxOpen_any (n : Nat) (T : Nat → Tx) (a : Option Addr) (cap : Nat) (B : Nat) (id : Int) (w : World) (hp : n ≤ 1048576) (c0 : w.cell? ⟨B, 0, none⟩ = some (.int .i64 id)) (h : TxsAt w a n T) :
    Calls Tryz.prog 165 #[.slice a n cap, .func (.func 166) #[] #[.pointer (some ⟨B, 0, none⟩)]] w fun e w' => e = .returned (.int .i64 (fT n T id)) ∧ Below w.heap.size w w' := by
  have HA : Hid (TxsAt w a n T) := h
  have HC0 : Hid (w.cell? ⟨B, 0, none⟩ = some (.int .i64 id)) := c0
  generalize hC : fT n T id = C
  have hC' : fi (fun i => (T i).id == id) n 0 = C := hC
  clear h c0 hC
  go_enter Tryz.func165, Tryz.ntmps165
  go_wp2_with fail
  go_loopw [5, 8] (fun _ i wr => ∃ k : Nat, k ≤ n ∧ i = .int .i64 k ∧ Hid (C = fi (fun i => (T i).id == id) (n - k) k) ∧ Hid (Below w.heap.size w wr)) (fun _ i _ => n - (intOf i).toNat)
  case atStart => exact ⟨0, Nat.zero_le _, rfl, hC'.symm, Below.refl _ _⟩
  case round =>
    obtain ⟨k, hk, rfl, HC, HB⟩ := hrel
    by_cases hlt : k < n
    · have hlt' : (k : Int) < (n : Int) := by omega
      have hk0 : (0 : Int) ≤ (k : Int) := by omega
      rcases HA.out.below HB.out with h | ⟨bb, off, rfl, hl, hcc⟩
      · omega
      obtain ⟨ti, tc, ⟨x0, x1, x2, x3, x4⟩, -, -⟩ := hcc k hlt
      have HE0 := HC.out.trans (fi_at _ hlt)
      clear hcc HC hC'
      go_wp2_with fail
      refine (open1_any (T k) ti tc B id wr (cell_below HC0.out HB.out)).mono ?_
      rintro e w1 ⟨rfl, hb1⟩
      have HB1 : Hid (Below w.heap.size w w1) := below_then HB.out hb1
      clear hb1 x0 x1 x2 x3 x4
      obtain hq | hq := bool_or2 ((T k).id == id)
      · have HE : Hid (C = k) := by rw [if_pos hq] at HE0; exact HE0
        clear HE0
        rw [hq]
        go_wp2_with fail
        go_ret
        exact ⟨ret_int HE.out.symm, HB1.out⟩
      · have HE : Hid (C = fi (fun i => (T i).id == id) (n - (k + 1)) (k + 1)) := by rw [if_neg (by simpa using hq)] at HE0; exact HE0
        clear HE0
        rw [hq]
        go_wp2_with fail
        go_roundw
        case rel => exact ⟨k + 1, hlt, by go_num, HE, HB1⟩
        case measure => simp [intOf]; omega
    · have HE : Hid (C = -1) := by
        have h := HC.out
        rw [show n - k = 0 by omega] at h
        exact h
      clear HC hC'
      have hnl : ¬ ((k : Int) < (n : Int)) := by omega
      go_wp2_with fail
      go_ret
      exact ⟨ret_int HE.out.symm, HB.out⟩
set_option maxHeartbeats 4000000 in
theorem placeOfOpen_any (E : En) (a : Option Addr) (cap : Nat) (a' : Option Addr) (cap' : Nat) (id : Int) (w : World) (hs : SmallE E) (h : EngAt w a a' E) :
    Calls Tryz.prog 97 #[.agg #[.int .i64 E.nx, .int .i64 E.ck, .slice a E.p cap, .slice a' E.q cap'], .int .i64 id] w fun e w' => e = .returned (.tuple #[.int .i64 (askP E id), .int .i64 (askC E id)]) ∧ Below w.heap.size w w' := by
  have HX : Hid (EngAt w a a' E) := h
  have HS : Hid (SmallE E) := hs
  have hmf : ∀ (fn : Fn) (first cap : Array Value) (w : World), (Instr.makeFunc fn first cap).run Tryz.prog w = .ok (.func fn first cap) w := fun _ _ _ _ => rfl
  clear h hs
  have HW : Hid (∀ o1 o2 : Obj, Below w.heap.size w ((w.alloc o1).alloc o2)) := fun o1 o2 => (((Below.refl _ _).alloc (Nat.le_refl _) _).alloc (by simp) _)
  have HBX : Hid (∀ o1 o2 : Obj, o1 = .cells #[.int .i64 E.nx, .int .i64 E.ck, .slice a E.p cap, .slice a' E.q cap'] 30 → o2 = .cells #[.int .i64 id] 2 →
      Box4 ((w.alloc o1).alloc o2) w.heap.size (.int .i64 E.nx) (.int .i64 E.ck) (.slice a E.p cap) (.slice a' E.q cap') ∧ ((w.alloc o1).alloc o2).cell? ⟨w.heap.size + 1, 0, none⟩ = some (.int .i64 id)) := by
    rintro o1 o2 rfl rfl
    exact ⟨(Box4.new w _ _ _ _ _).alloc _, by simp [go_sem]⟩
  go_enter Tryz.func97, Tryz.ntmps97
  go_wp2_with fail
  refine (implEf_any E a cap a' cap' _ HS.out (HX.out.below (HW.out _ _))).mono ?_
  rintro e w1 ⟨rfl, hb1⟩
  obtain ⟨hb4, hid⟩ := HBX.out _ _ rfl rfl
  have B4 := hb4.below hb1
  have hid1 := cell_below hid hb1
  have HB1 : Hid (Below w.heap.size w w1) := below_then (HW.out _ _) hb1
  have HX1 : Hid (EngAt w1 a a' E) := HX.out.below HB1.out
  clear hb1 hb4 hid HBX HW HX
  by_cases hc : eF E = 0
  case neg =>
    have HE : Hid (askC E id = eF E ∧ askP E id = 0) := ask_bad hc
    have hc2 : (eF E != 0) = true := by simp [hc]
    clear hc
    generalize eF E = uu at *
    go_wp2_with fail
    go_ret2
    exact ⟨by rw [HE.out.1, HE.out.2]; rfl, HB1.out⟩
  have hp20 := (eF_pq hc).1
  have HC : Hid (eF E = 0) := hc
  rw [hc]
  clear hc
  obtain ⟨b0, b1, b2, b3⟩ := B4
  go_wp2_with fail
  refine (idxOpen_any E.p E.T a cap (w.heap.size + 1) id w1 (by omega) hid1 HX1.out.1).mono ?_
  rintro e w2 ⟨rfl, hb2⟩
  have HB2 : Hid (Below w.heap.size w w2) := below_then HB1.out hb2
  have HX2 : Hid (EngAt w2 a a' E) := HX1.out.below hb2
  replace b2 := cell_below b2 hb2
  clear hb2 b0 b1 b3 hid1
  rcases fT_cases E id with h1 | ⟨j, hj, h1, -⟩
  · have HE : Hid (askC E id = 4 ∧ askP E id = 0) := ask_none HC.out h1
    rw [h1]
    clear h1
    go_wp2_with fail
    go_ret2
    exact ⟨by rw [HE.out.1, HE.out.2]; rfl, HB2.out⟩
  · have HE : Hid ((askC E id = if (E.T j).st = 1 then 0 else 10) ∧ (askP E id = if (E.T j).st = 1 then (j : Int) else 0)) := ask_some HC.out h1
    rw [h1]
    rcases HX2.out.1 with h | ⟨bb, off, rfl, hl, hcc⟩
    · omega
    obtain ⟨ti, tc, ⟨x0, x1, x2, x3, x4⟩, -, -⟩ := hcc j hj
    have hj1 : (j : Int) < (E.p : Int) := by omega
    have hj0 : (0 : Int) ≤ (j : Int) := by omega
    have hj3 : ¬ ((j : Int) < 0) := by omega
    clear hcc h1
    by_cases hst : (E.T j).st = 1
    · have hs2 : ((E.T j).st != 1) = false := by simp [hst]
      have HE2 : Hid (askC E id = 0 ∧ askP E id = (j : Int)) := ⟨HE.out.1.trans (if_pos hst), HE.out.2.trans (if_pos hst)⟩
      clear hst HE
      go_wp2_with fail
      go_ret2
      exact ⟨by rw [HE2.out.1, HE2.out.2]; rfl, HB2.out⟩
    · have hs2 : ((E.T j).st != 1) = true := by simp [hst]
      have HE2 : Hid (askC E id = 10 ∧ askP E id = 0) := ⟨HE.out.1.trans (if_neg hst), HE.out.2.trans (if_neg hst)⟩
      clear hst HE
      go_wp2_with fail
      go_ret2
      exact ⟨by rw [HE2.out.1, HE2.out.2]; rfl, HB2.out⟩
end Go.Proofs.YtjdodbiphijjgaaGreat
