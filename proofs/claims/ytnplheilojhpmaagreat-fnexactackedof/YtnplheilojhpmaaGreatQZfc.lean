/- impl.StoreFault. -/
import Derived.Test.YtnplheilojhpmaaGreatQZfb
import Derived.Test.YtnplheilojhpmaaGreatQZsa
import Derived.Test.YtnplheilojhpmaaGreatQDf
import Derived.Test.YtnplheilojhpmaaGreatQLh
namespace Go.Proofs.YtnplheilojhpmaaGreat
open Go.RowKit Go.Deep
set_option linter.unusedVariables false
set_option maxRecDepth 20000

/-- The fault of a store. -/
def stF (t : Sto) : Int :=
  if inB t.nx 1 999 = true then (if t.pn = 4 then (if psF t.pT t.pn 0 = 0 then (if df t.d = 0 then (if t.d.n = 4 then (if lgC t.g = 0 then (if onF t.nx t.oF t.on 0 = 0 then hdF (ivL t.oF t.on) t.hK t.hV t.hn 0 else onF t.nx t.oF t.on 0) else lgC t.g) else 1) else df t.d) else psF t.pT t.pn 0) else 1) else 3
/-- A store's box. -/
def BoxS (w : World) (B : Nat) (c0 c1 c2 c3 c4 c5 c6 c7 : Value) : Prop := w.cell? ⟨B, 0, none⟩ = some c0 ∧ w.cell? ⟨B, 1, none⟩ = some c1 ∧ w.cell? ⟨B, 2, none⟩ = some c2 ∧ w.cell? ⟨B, 3, none⟩ = some c3 ∧ w.cell? ⟨B, 4, none⟩ = some c4 ∧ w.cell? ⟨B, 5, none⟩ = some c5 ∧ w.cell? ⟨B, 6, none⟩ = some c6 ∧ w.cell? ⟨B, 7, none⟩ = some c7
theorem BoxS.alloc {w : World} {B : Nat} {c0 c1 c2 c3 c4 c5 c6 c7 : Value} (h : BoxS w B c0 c1 c2 c3 c4 c5 c6 c7) (x : Obj) : BoxS (w.alloc x) B c0 c1 c2 c3 c4 c5 c6 c7 :=
  ⟨cell_alloc h.1 x, cell_alloc h.2.1 x, cell_alloc h.2.2.1 x, cell_alloc h.2.2.2.1 x, cell_alloc h.2.2.2.2.1 x, cell_alloc h.2.2.2.2.2.1 x, cell_alloc h.2.2.2.2.2.2.1 x, cell_alloc h.2.2.2.2.2.2.2 x⟩
theorem BoxS.below {w w' : World} {B : Nat} {c0 c1 c2 c3 c4 c5 c6 c7 : Value} (h : BoxS w B c0 c1 c2 c3 c4 c5 c6 c7) (x : Below w.heap.size w w') : BoxS w' B c0 c1 c2 c3 c4 c5 c6 c7 :=
  ⟨cell_below h.1 x, cell_below h.2.1 x, cell_below h.2.2.1 x, cell_below h.2.2.2.1 x, cell_below h.2.2.2.2.1 x, cell_below h.2.2.2.2.2.1 x, cell_below h.2.2.2.2.2.2.1 x, cell_below h.2.2.2.2.2.2.2 x⟩
theorem BoxS.writes {w w' : World} {lo hi B : Nat} {c0 c1 c2 c3 c4 c5 c6 c7 : Value} (h : BoxS w B c0 c1 c2 c3 c4 c5 c6 c7) (x : Writes lo hi w w') (d : B < lo ∨ hi ≤ B) : BoxS w' B c0 c1 c2 c3 c4 c5 c6 c7 :=
  ⟨cell_writes h.1 x d, cell_writes h.2.1 x d, cell_writes h.2.2.1 x d, cell_writes h.2.2.2.1 x d, cell_writes h.2.2.2.2.1 x d, cell_writes h.2.2.2.2.2.1 x d, cell_writes h.2.2.2.2.2.2.1 x d, cell_writes h.2.2.2.2.2.2.2 x d⟩
theorem BoxS.new (w : World) (c0 c1 c2 c3 c4 c5 c6 c7 : Value) (t : TypeId) : BoxS (w.alloc (.cells #[c0, c1, c2, c3, c4, c5, c6, c7] t)) w.heap.size c0 c1 c2 c3 c4 c5 c6 c7 := by simp [BoxS]
set_option maxHeartbeats 8000000 in
theorem implStf_any (t : Sto) (a0 : Option Addr) (c0 : Nat) (a1 : Option Addr) (c1 : Nat) (a2 : Option Addr) (c2 : Nat) (a3 : Option Addr) (c3 : Nat) (a4 : Option Addr) (c4 : Nat) (a5 : Option Addr) (c5 : Nat) (a6 : Option Addr) (c6 : Nat) (w : World) (hS : SmSt t) (hby : LogByt t.g) (h : InSt w a0 a1 a2 a3 a4 a5 a6 t) :
    Calls Tryz.prog 26 #[.agg #[.int .i64 t.nx, .slice a0 t.pn c0, .slice a1 t.d.n c1, .slice a2 t.d.m c2, .slice a3 t.g.n1 c3, .slice a4 t.g.n2 c4, .slice a5 t.hn c5, .slice a6 t.on c6]] w fun e w' => e = .returned (.int .i64 (stF t)) ∧ Below w.heap.size w w' := by
  have HA : Hid (InSt w a0 a1 a2 a3 a4 a5 a6 t) := h
  obtain ⟨⟨hS0, hS1, hS2⟩, hSd, ⟨hSg, hSg'⟩, hSh, hSo⟩ := hS
  have HSP : Hid (∀ i, i < t.pn → SmPg (t.pT i)) := hS1
  have HE : Hid (stF t = if inB t.nx 1 999 = true then (if t.pn = 4 then (if psF t.pT t.pn 0 = 0 then (if df t.d = 0 then (if t.d.n = 4 then (if lgC t.g = 0 then (if onF t.nx t.oF t.on 0 = 0 then hdF (ivL t.oF t.on) t.hK t.hV t.hn 0 else onF t.nx t.oF t.on 0) else lgC t.g) else 1) else df t.d) else psF t.pT t.pn 0) else 1) else 3) := rfl
  generalize stF t = C at *
  have hb0 := fun o => below_new w o
  clear h hS1 hS2
  go_enter Tryz.func26, Tryz.ntmps26
  obtain k1 | k1 := boolor (inB t.nx 1 999)
  case inr =>
    replace HE : Hid (C = 3) := HE.out.trans (if_neg (by simp [k1]))
    go_wp2_with (first | (go_at_call 59; refine (isTxn_any _ _).mono ?_; rintro e w' ⟨rfl, rfl⟩; rw [k1]))
    go_ret
    exact ⟨ret_int HE.out.symm, below_new _ _⟩
  replace HE : Hid (C = _) := HE.out.trans (if_pos k1)
  by_cases k2 : t.pn = 4
  case neg =>
    replace HE : Hid (C = 1) := HE.out.trans (if_neg k2)
    have k3 : ((t.pn : Int) != 4) = true := by simp; omega
    clear k2
    go_wp2_with (first | (go_at_call 59; refine (isTxn_any _ _).mono ?_; rintro e w' ⟨rfl, rfl⟩; rw [k1]))
    go_ret
    exact ⟨ret_int HE.out.symm, below_new _ _⟩
  replace HE : Hid (C = _) := HE.out.trans (if_pos k2)
  have k3 : ((t.pn : Int) != 4) = false := by simp; omega
  have HP4 : Hid (t.pn = 4) := k2
  clear k2
  go_wp2_with (first | (go_at_call 59; refine (isTxn_any _ _).mono ?_; rintro e w' ⟨rfl, rfl⟩; rw [k1]))
  have hbx := BoxS.new w (.int .i64 t.nx) (.slice a0 t.pn c0) (.slice a1 t.d.n c1) (.slice a2 t.d.m c2) (.slice a3 t.g.n1 c3) (.slice a4 t.g.n2 c4) (.slice a5 t.hn c5) (.slice a6 t.on c6) 45
  go_loopw [3, 4, 5, 20] (fun _ _ _ i wr => ∃ k : Nat, k ≤ t.pn ∧ i = .int .i64 k ∧ Hid (psF t.pT t.pn 0 = psF t.pT (t.pn - k) k) ∧ Hid (Below w.heap.size w wr) ∧ Hid (BoxS wr w.heap.size (.int .i64 t.nx) (.slice a0 t.pn c0) (.slice a1 t.d.n c1) (.slice a2 t.d.m c2) (.slice a3 t.g.n1 c3) (.slice a4 t.g.n2 c4) (.slice a5 t.hn c5) (.slice a6 t.on c6))) (fun _ _ _ i _ => t.pn - (intOf i).toNat)
  case atStart => exact ⟨0, Nat.zero_le _, rfl, rfl, below_new _ _, hbx⟩
  case round =>
    clear hbx
    obtain ⟨k, hk, rfl, HC, HB, HX⟩ := hrel
    by_cases hlt : k < t.pn
    · have hlt' : (k : Int) < (t.pn : Int) := by omega
      have hk0 : (0 : Int) ≤ (k : Int) := by omega
      rcases HA.out.1.below HB.out with h | ⟨b, off, rfl, hl, hc⟩
      · omega
      obtain ⟨pa, pc, ⟨q0, q1, q2⟩, ⟨hI, -⟩, -⟩ := hc k hlt
      have HI : Hid (CellsAt wr pa (t.pT k).cn (t.pT k).cK (t.pT k).cV) := hI
      have HSk : Hid ((t.pT k).cn ≤ 1048576) := (HSP.out k hlt).1
      have HD : Hid (psF t.pT t.pn 0 = _) := HC.out.trans (psF_at hlt)
      clear hc hI HC
      go_wp2_with fail
      refine (storePageFault_any (t.pT k) k pa pc _ HSk.out (HI.out.below (below_new _ _))).mono ?_
      rintro e w1 ⟨rfl, hb⟩
      replace HB : Hid (Below w.heap.size w w1) := below_then HB.out (below_then (below_new _ _) hb)
      replace HX : Hid (BoxS w1 w.heap.size (.int .i64 t.nx) (.slice (some ⟨b, off, none⟩) t.pn c0) (.slice a1 t.d.n c1) (.slice a2 t.d.m c2) (.slice a3 t.g.n1 c3) (.slice a4 t.g.n2 c4) (.slice a5 t.hn c5) (.slice a6 t.on c6)) := (HX.out.alloc _).below hb
      clear hb q0 q1 q2
      generalize pgF (t.pT k) k = c at *
      by_cases h0 : c = 0
      · subst h0
        replace HD : Hid (psF t.pT t.pn 0 = psF t.pT (t.pn - (k + 1)) (k + 1)) := HD.out.trans (if_pos rfl)
        go_wp2_with fail
        go_roundw
        case rel => exact ⟨k + 1, hlt, by go_num, HD, HB, HX⟩
        case measure => simp [intOf]; omega
      · replace HD : Hid (psF t.pT t.pn 0 = c) := HD.out.trans (if_neg h0)
        replace HE : Hid (C = c) := HE.out.trans ((if_neg (by rw [HD.out]; exact h0)).trans HD.out)
        have h0' : (c != 0) = true := by simp [h0]
        clear h0
        go_wp2_with fail
        go_ret
        exact ⟨ret_int HE.out.symm, HB.out⟩
    · have hnl : ¬ ((k : Int) < (t.pn : Int)) := by omega
      replace HE : Hid (C = _) := HE.out.trans (if_pos (HC.out.trans (psF_end hlt)))
      have HX2 := HX.out
      obtain ⟨x0, x1, x2, x3, x4, x5, x6, x7⟩ := HX2
      clear HC
      go_wp2_with fail
      refine (implDf_any t.d a1 a2 c1 c2 _ hSd (HA.out.2.1.below HB.out)).mono ?_
      rintro e w1 ⟨rfl, hb⟩
      replace HB : Hid (Below w.heap.size w w1) := below_then HB.out hb
      replace HX := HX.out.below hb
      clear hb x0 x1 x2 x3 x4 x5 x6 x7
      obtain ⟨x0, x1, x2, x3, x4, x5, x6, x7⟩ := HX
      by_cases h0 : df t.d = 0
      case neg =>
        replace HE : Hid (C = df t.d) := HE.out.trans (if_neg h0)
        generalize df t.d = c at *
        have h0' : (c != 0) = true := by simp [h0]
        clear h0
        go_wp2_with fail
        go_ret
        exact ⟨ret_int HE.out.symm, HB.out⟩
      replace HE : Hid (C = _) := HE.out.trans (if_pos h0)
      rw [h0]
      clear h0
      by_cases h1 : t.d.n = 4
      case neg =>
        replace HE : Hid (C = 1) := HE.out.trans (if_neg h1)
        have h0' : ((t.d.n : Int) != 4) = true := by simp; omega
        clear h1
        go_wp2_with fail
        go_ret
        exact ⟨ret_int HE.out.symm, HB.out⟩
      replace HE : Hid (C = _) := HE.out.trans (if_pos h1)
      have h0' : ((t.d.n : Int) != 4) = false := by simp; omega
      clear h1
      go_wp2_with fail
      refine (implLf_any t.g a3 a4 c3 c4 _ hSg hSg' hby (HA.out.2.2.1.below HB.out)).mono ?_
      rintro e w2 ⟨rfl, hb⟩
      replace HB : Hid (Below w.heap.size w w2) := below_then HB.out hb
      replace x0 := cell_below x0 hb
      replace x1 := cell_below x1 hb
      replace x2 := cell_below x2 hb
      replace x3 := cell_below x3 hb
      replace x4 := cell_below x4 hb
      replace x5 := cell_below x5 hb
      replace x6 := cell_below x6 hb
      replace x7 := cell_below x7 hb
      clear hb
      by_cases h2 : lgC t.g = 0
      case neg =>
        replace HE : Hid (C = lgC t.g) := HE.out.trans (if_neg h2)
        generalize lgC t.g = c at *
        have h0' : (c != 0) = true := by simp [h2]
        clear h2
        go_wp2_with fail
        go_ret
        exact ⟨ret_int HE.out.symm, HB.out⟩
      replace HE : Hid (C = _) := HE.out.trans (if_pos h2)
      rw [h2]
      clear h2
      go_wp2_with fail
      refine (openFault_any t.nx (.slice a0 t.pn c0) (.slice a1 t.d.n c1) (.slice a2 t.d.m c2) (.slice a3 t.g.n1 c3) (.slice a4 t.g.n2 c4) (.slice a5 t.hn c5) t.on t.oF a6 c6 _ (inB_iff.1 k1) hSo (HA.out.2.2.2.2.below HB.out)).mono ?_
      rintro e w3 ⟨rfl, hb⟩
      replace HB : Hid (Below w.heap.size w w3) := below_then HB.out hb
      replace x0 := cell_below x0 hb
      replace x1 := cell_below x1 hb
      replace x2 := cell_below x2 hb
      replace x3 := cell_below x3 hb
      replace x4 := cell_below x4 hb
      replace x5 := cell_below x5 hb
      replace x6 := cell_below x6 hb
      replace x7 := cell_below x7 hb
      clear hb
      by_cases h3 : onF t.nx t.oF t.on 0 = 0
      case neg =>
        replace HE : Hid (C = onF t.nx t.oF t.on 0) := HE.out.trans (if_neg h3)
        generalize onF t.nx t.oF t.on 0 = c at *
        have h0' : (c != 0) = true := by simp [h3]
        clear h3
        go_wp2_with fail
        go_ret
        exact ⟨ret_int HE.out.symm, HB.out⟩
      replace HE : Hid (C = _) := HE.out.trans (if_pos h3)
      have HF : Hid (t.on ≤ 998) := onF_few (inB_iff.1 k1).2 h3
      rw [h3]
      clear h3
      go_wp2_with fail
      refine (heldFault_any (.int .i64 t.nx) (.slice a0 t.pn c0) (.slice a1 t.d.n c1) (.slice a2 t.d.m c2) (.slice a3 t.g.n1 c3) (.slice a4 t.g.n2 c4) t.hn t.hK t.hV a5 c5 t.on t.oF a6 c6 _ hSh (by have := HF.out; omega) (HA.out.2.2.2.1.below HB.out) (HA.out.2.2.2.2.below HB.out)).mono ?_
      rintro e w4 ⟨rfl, hb⟩
      go_wp2_with fail
      go_ret
      exact ⟨ret_int HE.out.symm, below_then HB.out hb⟩
end Go.Proofs.YtnplheilojhpmaaGreat
