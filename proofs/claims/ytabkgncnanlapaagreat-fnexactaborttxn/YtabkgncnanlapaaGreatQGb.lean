/- The fault of an engine, by the program: searches by functions. -/
import Derived.Test.YtabkgncnanlapaaGreatQGa
import Derived.Test.YtabkgncnanlapaaGreatQVg
import Derived.Deep.RegionLaw
namespace Go.Proofs.YtabkgncnanlapaaGreat
open Go.RowKit Go.Deep
set_option linter.unusedVariables false
set_option maxRecDepth 20000

theorem hasU_fi (U : Nat → Ud) (key : Int) (n : Nat) : hasU U key n = decide (0 ≤ fi (fun i => (U i).k == key) n 0) := by
  rcases fi_cases (fun i => (U i).k == key) n with ⟨h1, h2⟩ | ⟨j, h1, h2, h3, h4⟩
  · rw [h1]
    cases e : hasU U key n with
    | false => rfl
    | true =>
      obtain ⟨i, hi, hk⟩ := (hasU_iff U key n).1 e
      have := h2 i hi
      simp [hk] at this
  · rw [h2, hasU_true h1 (by simpa using h3)]
    simp
theorem hasUndo1_any (u : Ud) (B : Nat) (key : Int) (w : World) (hc : w.cell? ⟨B, 0, none⟩ = some (.int .i64 key)) :
    Calls Tryz.prog 136 #[.agg #[.int .i64 u.k, .bool u.h, .bool u.g, .int .i64 u.v], .pointer (some ⟨B, 0, none⟩)] w fun e w' => e = .returned (.bool (u.k == key)) ∧ Below w.heap.size w w' := by
  have h2 := fun o : Obj => cell_alloc hc o
  go_enter Tryz.func136, Tryz.ntmps136
  go_wp2_with fail
  go_ret
  exact ⟨rfl, below_new _ _⟩
set_option maxHeartbeats 1000000 in
theorem idxUndo_any (n : Nat) (U : Nat → Ud) (a : Option Addr) (cap : Nat) (B : Nat) (key : Int) (w : World) (hn : n ≤ 1048576) (hc : w.cell? ⟨B, 0, none⟩ = some (.int .i64 key)) (h : UndsAt w a n U) :
    Calls Tryz.prog 140 #[.slice a n cap, .func (.func 136) #[] #[.pointer (some ⟨B, 0, none⟩)]] w fun e w' => e = .returned (.int .i64 (fi (fun i => (U i).k == key) n 0)) ∧ Below w.heap.size w w' := by
  have HA : Hid (UndsAt w a n U) := h
  have HC0 : Hid (w.cell? ⟨B, 0, none⟩ = some (.int .i64 key)) := hc
  generalize hC : fi (fun i => (U i).k == key) n 0 = C
  clear h hc
  go_enter Tryz.func140, Tryz.ntmps140
  go_wp2_with fail
  go_loopw [5, 8] (fun _ i wr => ∃ k : Nat, k ≤ n ∧ i = .int .i64 k ∧ Hid (C = fi (fun i => (U i).k == key) (n - k) k) ∧ Hid (Below w.heap.size w wr)) (fun _ i _ => n - (intOf i).toNat)
  case atStart => exact ⟨0, Nat.zero_le _, rfl, hC.symm, Below.refl _ _⟩
  case round =>
    obtain ⟨k, hk, rfl, HC, HB⟩ := hrel
    by_cases hlt : k < n
    · have hlt' : (k : Int) < (n : Int) := by omega
      have hk0 : (0 : Int) ≤ (k : Int) := by omega
      rcases HA.out.below HB.out with h | ⟨bb, off, rfl, hl, hcc⟩
      · omega
      obtain ⟨x0, x1, x2, x3⟩ := hcc k hlt
      have HE0 := HC.out.trans (fi_at _ hlt)
      have HCW : Hid (wr.cell? ⟨B, 0, none⟩ = some (.int .i64 key)) := cell_below HC0.out HB.out
      clear hcc HC hC
      go_wp2_with fail
      refine (hasUndo1_any (U k) B key wr HCW.out).mono ?_
      rintro e w1 ⟨rfl, hb1⟩
      have HB1 : Hid (Below w.heap.size w w1) := below_then HB.out hb1
      clear hb1 x0 x1 x2 x3 HCW
      obtain hq | hq := bool_or2 ((U k).k == key)
      · have HE : Hid (C = k) := by rw [if_pos hq] at HE0; exact HE0
        clear HE0
        rw [hq]
        go_wp2_with fail
        go_ret
        exact ⟨ret_int HE.out.symm, HB1.out⟩
      · have HE : Hid (C = fi (fun i => (U i).k == key) (n - (k + 1)) (k + 1)) := by rw [if_neg (by simpa using hq)] at HE0; exact HE0
        clear HE0
        rw [hq]
        go_wp2_with fail
        go_roundw
        case rel => exact ⟨k + 1, hlt, by go_num, HE, HB1⟩
        case measure => simp [intOf]; omega
    · have HE : Hid (C = -1) := by
        have h := HC.out
        rw [show n - k = 0 by omega] at h
        exact h
      clear HC hC
      have hnl : ¬ ((k : Int) < (n : Int)) := by omega
      go_wp2_with fail
      go_ret
      exact ⟨ret_int HE.out.symm, HB.out⟩
theorem hasUndo_any (n : Nat) (U : Nat → Ud) (a : Option Addr) (cap : Nat) (key : Int) (w : World) (hn : n ≤ 1048576) (h : UndsAt w a n U) :
    Calls Tryz.prog 116 #[.slice a n cap, .int .i64 key] w fun e w' => e = .returned (.bool (hasU U key n)) ∧ Below w.heap.size w w' := by
  have HA : Hid (∀ o : Obj, UndsAt (w.alloc o) a n U) := fun o => h.below (below_new _ _)
  have hmf : ∀ (fn : Fn) (first cap : Array Value) (w : World), (Instr.makeFunc fn first cap).run Tryz.prog w = .ok (.func fn first cap) w := fun _ _ _ _ => rfl
  have HF : Hid (hasU U key n = decide (0 ≤ fi (fun i => (U i).k == key) n 0)) := hasU_fi U key n
  have HQ : Hid (∀ o : Obj, o = .cells #[.int .i64 key] 2 → Calls Tryz.prog 135 #[.slice a n cap, .func (.func 136) #[] #[.pointer (some ⟨w.heap.size, 0, none⟩)]] (w.alloc o) fun e w' => e = .returned (.bool (hasU U key n)) ∧ Below w.heap.size w w') := by
    rintro o rfl
    have hcell : (w.alloc (.cells #[.int .i64 key] 2)).cell? ⟨w.heap.size, 0, none⟩ = some (.int .i64 key) := by simp [go_sem]
    have HAA := HA.out (.cells #[.int .i64 key] 2)
    have HBB : Hid (Below w.heap.size w (w.alloc (.cells #[.int .i64 key] 2))) := below_new _ _
    have hBW : w.heap.size ≤ (w.alloc (.cells #[.int .i64 key] 2)).heap.size := HBB.out.size
    clear hmf HA
    generalize w.alloc (.cells #[.int .i64 key] 2) = W at *
    generalize w.heap.size = B at *
    go_enter Tryz.func135, Tryz.ntmps135
    go_wp2_with fail
    refine (idxUndo_any n U a cap B key W hn hcell HAA).mono ?_
    rintro e w1 ⟨rfl, hb1⟩
    have HB1 : Hid (Below B w w1) := HBB.out.trans (hb1.mono hBW)
    clear hb1 hcell HAA
    generalize fi (fun i => (U i).k == key) n 0 = C at *
    go_wp2_with fail
    go_ret
    exact ⟨ret_bool HF.out.symm, HB1.out⟩
  clear h
  go_enter Tryz.func116, Tryz.ntmps116
  go_wp2_with fail
  refine (HQ.out _ rfl).mono ?_
  rintro e w1 ⟨rfl, hb1⟩
  have HB1 : Hid (Below w.heap.size w w1) := hb1
  clear HQ HA HF hb1
  go_wp2_with fail
  go_ret
  exact ⟨rfl, HB1.out⟩
end Go.Proofs.YtabkgncnanlapaaGreat
