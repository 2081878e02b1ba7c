/- ChainBack: the code; spec.ChainBack. -/
import Derived.Test.YtppckjecidcflaaCbb
import Derived.Test.YtppckjecidcflaaSri
namespace Go.Proofs.Ytppckjecidcflaa
open Go.RowKit Go.Deep
set_option linter.unusedVariables false
set_option maxRecDepth 20000

def rcF (r : Rc) : Int := rf r.k r.t r.key r.hd r.old r.hs r.nw r.bk
/-- The first fault of the first n records. -/
def rsF (R : Nat → Rc) : Nat → Int
  | 0 => 0
  | n + 1 => if rsF R n = 0 then rcF (R n) else rsF R n
theorem rsF_mono {R : Nat → Rc} {k : Nat} (h : rsF R k ≠ 0) : ∀ n, k ≤ n → rsF R n = rsF R k
  | 0, hk => by have : k = 0 := by omega
                subst this; rfl
  | n + 1, hk => by
    by_cases e : k = n + 1
    · subst e; rfl
    · have := rsF_mono h n (by omega)
      simp only [rsF, this, if_neg h]
def cbC (R : Nat → Rc) (txn : Int) (n : Nat) : Int := if 400 < n then 2 else if rsF R n = 0 then (if inB txn 1 999 = true then 0 else 3) else rsF R n
theorem cb_many {R : Nat → Rc} {txn : Int} {n : Nat} (h : 400 < n) : cbC R txn n = 2 := if_pos h
theorem cb_rec {R : Nat → Rc} {txn : Int} {n : Nat} (h : ¬ 400 < n) (hr : rsF R n ≠ 0) : cbC R txn n = rsF R n := by unfold cbC; rw [if_neg h, if_neg hr]
theorem cb_txn {R : Nat → Rc} {txn : Int} {n : Nat} (h : ¬ 400 < n) (hr : rsF R n = 0) (ht : inB txn 1 999 = false) : cbC R txn n = 3 := by unfold cbC; rw [if_neg h, if_pos hr, if_neg (by simp [ht])]
theorem cb_ok {R : Nat → Rc} {txn : Int} {n : Nat} (h : ¬ 400 < n) (hr : rsF R n = 0) (ht : inB txn 1 999 = true) : cbC R txn n = 0 := by unfold cbC; rw [if_neg h, if_pos hr, if_pos ht]
theorem bool_or4 (b : Bool) : b = true ∨ b = false := by cases b <;> simp
theorem l3Txn_q (v : Int) (w : World) : Calls Try.prog 40 #[.int .i64 v] w fun e w' => e = .returned (.bool (inB v 1 999)) ∧ w' = w := by
  go_enter Try.func40, Try.ntmps40
  go_wp2_with (first | (go_at_call 57; refine (l1In_any _ _ _ _).mono ?_; rintro e w' ⟨rfl, rfl⟩))
  go_ret
  exact ⟨rfl, rfl⟩
set_option maxHeartbeats 8000000 in
theorem specCb_any (n : Nat) (R : Nat → Rc) (a : Option Addr) (cap : Nat) (txn : Int) (w : World) (hn : n ≤ 1048576) (h : RecsAt w a n R) :
    Calls Try.prog 17 #[.slice a n cap, .int .i64 txn] w (IRes (cbC R txn n) (bkL R txn n n) w) := by
  have HA : Hid (RecsAt w a n R) := h
  have HBX : Hid (∀ o1 : Obj, o1 = .cells #[.int .i64 0, .slice none 0 0] 44 → Box2 (w.alloc o1) w.heap.size (.int .i64 0) (.slice none 0 0) ∧ ∀ i, (w.alloc o1).frozen? ⟨w.heap.size, i, none⟩ = false) := by
    rintro o1 rfl
    exact ⟨⟨by simp [go_sem], by simp [go_sem]⟩, fun i => by simp [go_sem]⟩
  clear h
  by_cases hm : 400 < n
  · have hm1 : (400 : Int) < (n : Int) := by omega
    have HX : Hid (∀ w', Below w.heap.size w w' → IRes (cbC R txn n) (bkL R txn n n) w (.returned (.agg #[.int .i64 2, .slice none 0 0])) w') := fun w' hb => by
      rw [cb_many hm]; exact ires_bad hb (by omega)
    clear hm
    go_enter Try.func17, Try.ntmps17
    go_wp2_with fail
    refine bodyPost_ret (v := .agg #[.int .i64 2, .slice none 0 0]) (by simp [results, Try.results17, go_sem]) rfl ?_
    refine HX.out _ ?_
    repeat (first | with_reducible exact Below.refl _ _ | with_reducible refine Below.setCell ?_ (by first | omega | (simp <;> omega)) _ | with_reducible refine Below.alloc ?_ (by first | omega | (simp <;> omega)) _)
  have hm1 : ¬ ((400 : Int) < (n : Int)) := by omega
  have HMN : Hid (¬ 400 < n) := hm
  have hn4 : n ≤ 400 := by omega
  clear hm
  go_enter Try.func17, Try.ntmps17
  go_wp2_with fail
  obtain ⟨hb2, hbf⟩ := HBX.out _ rfl
  have HB2 : Hid (Box2 _ w.heap.size (.int .i64 0) (.slice none 0 0) ∧ ∀ i, World.frozen? _ ⟨w.heap.size, i, none⟩ = false) := ⟨hb2, hbf⟩
  obtain ⟨W0, hW0⟩ : ∃ y, y = w.alloc (.cells #[.int .i64 0, .slice none 0 0] 44) := ⟨_, rfl⟩
  rw [← hW0]
  rw [← hW0] at hb2 hbf
  have HB0 : Hid (Below w.heap.size w W0) := by rw [hW0]; exact below_new _ _
  have hz0 : W0.heap.size = w.heap.size + 1 := by rw [hW0]; exact World.size_alloc _ _
  have HR : Hid (Box2 W0 w.heap.size (.int .i64 0) (.slice none 0 0)) := hb2
  have HRF : Hid (∀ i, W0.frozen? ⟨w.heap.size, i, none⟩ = false) := hbf
  clear hW0 hb2 hbf HB2 HBX
  go_loopw [5, 6] (fun i _ wr => ∃ k : Nat, k ≤ n ∧ i = .int .i64 k ∧ Hid (Below W0.heap.size W0 wr) ∧ Hid (rsF R k = 0)) (fun i _ _ => n - (intOf i).toNat)
  case atStart => exact ⟨0, Nat.zero_le _, rfl, Below.refl _ _, rfl⟩
  case round =>
    obtain ⟨k, hk, rfl, HB, HZ⟩ := hrel
    obtain ⟨r0, r1⟩ := HR.out.below HB.out
    have rfz : ∀ i, wr.frozen? ⟨w.heap.size, i, none⟩ = false := fun i => (HB.out.frozen (p := ⟨w.heap.size, i, none⟩) (by show w.heap.size < W0.heap.size; omega)).trans (HRF.out i)
    by_cases hlt : k < n
    · have hlt' : (k : Int) < (n : Int) := by omega
      have hk0 : (0 : Int) ≤ (k : Int) := by omega
      rcases HA.out.below (below_then HB0.out HB.out) with h | ⟨b, off, rfl, hl, hc⟩
      · omega
      obtain ⟨x0, x1, x2, x3, x4, x5, x6, x7⟩ := hc k hlt
      have HS : Hid (rsF R (k + 1) = rcF (R k)) := by show rsF R (k + 1) = _; simp only [rsF, HZ.out, if_true]
      have HLT : Hid (k < n) := hlt
      clear hc
      generalize R k = r at *
      go_wp2_with fail
      refine (specRf_any r.k r.t r.key r.hd r.old r.hs r.nw r.bk wr).mono ?_
      rintro e w2 ⟨rfl, hb2⟩
      have HB2 : Hid (Below W0.heap.size W0 w2) := below_then HB.out hb2
      replace rfz : ∀ i, w2.frozen? ⟨w.heap.size, i, none⟩ = false := fun i => (hb2.frozen (p := ⟨w.heap.size, i, none⟩) (by have := HB.out.size; show w.heap.size < wr.heap.size; omega)).trans (rfz i)
      replace r0 := cell_below r0 hb2
      replace r1 := cell_below r1 hb2
      clear hb2 x0 x1 x2 x3 x4 x5 x6 x7
      have hcf : rf r.k r.t r.key r.hd r.old r.hs r.nw r.bk = rcF r := rfl
      rw [hcf]
      clear hcf
      by_cases hf : rcF r = 0
      · have HZ2 : Hid (rsF R (k + 1) = 0) := HS.out.trans hf
        rw [hf]
        clear hf HS
        go_wp2_with fail
        go_roundw
        case rel => exact ⟨k + 1, HLT.out, by go_num, HB2, HZ2⟩
        case measure => simp [intOf]; omega
      · have hf2 : (rcF r != 0) = true := by simpa using hf
        have HX : Hid (∀ w', Below w.heap.size w w' → IRes (cbC R txn n) (bkL R txn n n) w (.returned (.agg #[.int .i64 (rcF r), .slice none 0 0])) w') := fun w' hb => by
          have h1 : rsF R (k + 1) ≠ 0 := by rw [HS.out]; exact hf
          have h2 := rsF_mono h1 n (by omega)
          rw [cb_rec HMN.out (by rw [h2]; exact h1), h2, HS.out]
          exact ires_bad hb hf
        have HBB : Hid (Below w.heap.size w w2) := below_then HB0.out HB2.out
        clear hf HS
        generalize rcF r = c at *
        go_wp2_with fail
        refine bodyPost_ret (v := .agg #[.int .i64 c, .slice none 0 0]) (by simp [results, Try.results17, go_sem, r0, r1]) rfl ?_
        refine HX.out _ ?_
        repeat (first | with_reducible exact HBB.out | with_reducible refine Below.setCell ?_ (by first | omega | (simp <;> omega)) _)
    · have hkn : k = n := by omega
      have hnl : ¬ ((k : Int) < (n : Int)) := by omega
      have HZN : Hid (rsF R n = 0) := by rw [← hkn]; exact HZ.out
      have HBB : Hid (Below w.heap.size w wr) := below_then HB0.out HB.out
      obtain ht | ht := bool_or4 (inB txn 1 999)
      · have HC : Hid (cbC R txn n = 0) := cb_ok HMN.out HZN.out ht
        go_wp2_with (first | (go_at_call 40; refine (l3Txn_q _ _).mono ?_; rintro e w' ⟨rfl, hw'⟩; rw [hw', ht]; clear hw'))
        refine (l3Back_any n R a cap txn wr hn4 (HA.out.below HBB.out)).mono ?_
        rintro e w3 ⟨v, rfl, hb3, ho3⟩
        obtain ⟨va, vc, rfl, -⟩ := rowI_shape ho3
        have hzr := HB.out.size
        have HX : Hid (∀ w', Writes w.heap.size (w.heap.size + 1) w3 w' → w'.heap.size = w3.heap.size → IRes (cbC R txn n) (bkL R txn n n) w (.returned (.agg #[.int .i64 0, .slice va (bkL R txn n n).length vc])) w') := fun w' hw hs =>
          ires_ok HC.out (below_then HBB.out hb3) (Nat.le_refl _) (by omega) (by omega) ho3 hw hs
        replace rfz : ∀ i, w3.frozen? ⟨w.heap.size, i, none⟩ = false := fun i => (hb3.frozen (p := ⟨w.heap.size, i, none⟩) (by show w.heap.size < wr.heap.size; omega)).trans (rfz i)
        replace r0 := cell_below r0 hb3
        replace r1 := cell_below r1 hb3
        clear hb3 ho3
        generalize (bkL R txn n n).length = len at *
        go_wp2_with fail
        refine bodyPost_ret (v := .agg #[.int .i64 0, .slice va len vc]) (by simp [results, Try.results17, go_sem, r0, r1]) rfl ?_
        refine HX.out _ ?_ (by simp [World.setCell])
        repeat (first | with_reducible exact Writes.refl _ _ _ | with_reducible refine Writes.setCell ?_ (by first | omega | (simp <;> omega)) (by first | omega | (simp <;> omega)) _)
      · have HX : Hid (∀ w', Below w.heap.size w w' → IRes (cbC R txn n) (bkL R txn n n) w (.returned (.agg #[.int .i64 3, .slice none 0 0])) w') := fun w' hb => by
          rw [cb_txn HMN.out HZN.out ht]; exact ires_bad hb (by omega)
        go_wp2_with (first | (go_at_call 40; refine (l3Txn_q _ _).mono ?_; rintro e w' ⟨rfl, hw'⟩; rw [hw', ht]; clear hw'))
        refine bodyPost_ret (v := .agg #[.int .i64 3, .slice none 0 0]) (by simp [results, Try.results17, go_sem, r0, r1]) rfl ?_
        refine HX.out _ ?_
        repeat (first | with_reducible exact HBB.out | with_reducible refine Below.setCell ?_ (by first | omega | (simp <;> omega)) _)
end Go.Proofs.Ytppckjecidcflaa
