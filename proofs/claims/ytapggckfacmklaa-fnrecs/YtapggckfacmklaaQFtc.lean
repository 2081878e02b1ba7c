/- FnTails: contracts as the law uses them. -/
import Derived.Test.YtapggckfacmklaaQDlj
import Derived.Test.YtapggckfacmklaaQTlp
namespace Go.Proofs.Ytapggckfacmklaa
open Go.RowKit Go.Deep
set_option linter.unusedVariables false
set_option linter.unusedSimpArgs false
set_option maxRecDepth 20000

theorem crash_bad_i {L : Lo} {x : Int} (hC : clC L x ≠ 0) (a1 a2 : Option Addr) (c1 c2 : Nat) (w : World) (hn1 : L.n1 ≤ 1048576) (hn2 : L.n2 ≤ 1048576) (hcap : L.n2 ≤ c2) (hby : LogByt L) (h : LogAt w a1 a2 L) :
    Calls Try.prog 7 #[.agg #[.slice a1 L.n1 c1, .slice a2 L.n2 c2], .int .i64 x] w fun e w' => ∃ r1 d1 r2 d2, e = .returned (.agg #[.int .i64 (clC L x), .int .i64 0, .slice r1 0 d1, .slice r2 0 d2]) ∧ Below w.heap.size w w' := by
  refine (implCl_any L a1 a2 c1 c2 x w hn1 hn2 hcap hby h).mono ?_
  have e1 : clS L x = 0 := if_neg hC
  have e2 : clL L x = ⟨0, fun _ => 0, 0, fun _ => 0⟩ := if_neg hC
  rw [e1, e2]
  rintro e w' ⟨r1, r2, d1, d2, rfl, hb, -⟩
  exact ⟨r1, d1, r2, d2, rfl, hb⟩
theorem crash_bad_s {L : Lo} {x : Int} (hC : clC L x ≠ 0) (a1 a2 : Option Addr) (c1 c2 : Nat) (w : World) (hn1 : L.n1 ≤ 1048576) (hn2 : L.n2 ≤ 1048576) (hcap : L.n2 ≤ c2) (hby : LogByt L) (h : LogAt w a1 a2 L) :
    Calls Try.prog 8 #[.agg #[.slice a1 L.n1 c1, .slice a2 L.n2 c2], .int .i64 x] w fun e w' => ∃ r1 d1 r2 d2, e = .returned (.agg #[.int .i64 (clC L x), .int .i64 0, .slice r1 0 d1, .slice r2 0 d2]) ∧ Below w.heap.size w w' := by
  refine (specCl_any L a1 a2 c1 c2 x w hn1 hn2 hcap hby h).mono ?_
  have e1 : clS L x = 0 := if_neg hC
  have e2 : clL L x = ⟨0, fun _ => 0, 0, fun _ => 0⟩ := if_neg hC
  rw [e1, e2]
  rintro e w' ⟨r1, r2, d1, d2, rfl, hb, -⟩
  exact ⟨r1, d1, r2, d2, rfl, hb⟩
theorem crash_ok_i {L : Lo} {k : Nat} (hg : lgC L = 0) (hk : k ≤ L.n2) (a1 a2 : Option Addr) (c1 c2 : Nat) (w : World) (hn1 : L.n1 ≤ 1048576) (hn2 : L.n2 ≤ 1048576) (hcap : L.n2 ≤ c2) (hby : LogByt L) (h : LogAt w a1 a2 L) :
    Calls Try.prog 7 #[.agg #[.slice a1 L.n1 c1, .slice a2 L.n2 c2], .int .i64 (k : Int)] w fun e w' => ∃ r1 d1 r2 d2, e = .returned (.agg #[.int .i64 0, .int .i64 (clM L k : Int), .slice r1 (13 * clM L k) d1, .slice r2 0 d2]) ∧ Below w.heap.size w w' ∧ LogAt w' r1 r2 ⟨13 * clM L k, aZ (cutL L k), 0, fun _ => 0⟩ := by
  refine (implCl_any L a1 a2 c1 c2 k w hn1 hn2 hcap hby h).mono ?_
  obtain ⟨e0, e1, e2⟩ := cl_ok hg (inB_iff.2 ⟨by omega, by omega⟩ : inB (k : Int) 0 (L.n2 : Int) = true)
  rw [e0, e1, e2]
  rintro e w' ⟨r1, r2, d1, d2, rfl, hb, ho⟩
  exact ⟨r1, d1, r2, d2, rfl, hb, ho.at⟩
theorem crash_ok_s {L : Lo} {k : Nat} (hg : lgC L = 0) (hk : k ≤ L.n2) (a1 a2 : Option Addr) (c1 c2 : Nat) (w : World) (hn1 : L.n1 ≤ 1048576) (hn2 : L.n2 ≤ 1048576) (hcap : L.n2 ≤ c2) (hby : LogByt L) (h : LogAt w a1 a2 L) :
    Calls Try.prog 8 #[.agg #[.slice a1 L.n1 c1, .slice a2 L.n2 c2], .int .i64 (k : Int)] w fun e w' => ∃ r1 d1 r2 d2, e = .returned (.agg #[.int .i64 0, .int .i64 (clM L k : Int), .slice r1 (13 * clM L k) d1, .slice r2 0 d2]) ∧ Below w.heap.size w w' ∧ LogAt w' r1 r2 ⟨13 * clM L k, aZ (cutL L k), 0, fun _ => 0⟩ := by
  refine (specCl_any L a1 a2 c1 c2 k w hn1 hn2 hcap hby h).mono ?_
  obtain ⟨e0, e1, e2⟩ := cl_ok hg (inB_iff.2 ⟨by omega, by omega⟩ : inB (k : Int) 0 (L.n2 : Int) = true)
  rw [e0, e1, e2]
  rintro e w' ⟨r1, r2, d1, d2, rfl, hb, ho⟩
  exact ⟨r1, d1, r2, d2, rfl, hb, ho.at⟩
theorem recs_ok_i {L : Lo} (hg : lgC L = 0) {m : Nat} (hm : cnt (aZ L) (L.n1 + L.n2) = m) {R : Nat → Rc} (hR : ∀ i, i < m → zRs (aZ L) i = R i) (a1 a2 : Option Addr) (c1 c2 : Nat) (w : World) (hn1 : L.n1 ≤ 1048576) (hn2 : L.n2 ≤ 1048576) (hby : LogByt L) (h : LogAt w a1 a2 L) :
    Calls Try.prog 9 #[.agg #[.slice a1 L.n1 c1, .slice a2 L.n2 c2]] w fun e w' => ∃ u a cap, e = .returned (.agg #[.int .i64 0, .int .i64 u, .slice a m cap]) ∧ Below w.heap.size w w' ∧ RecsAt w' a m R := by
  refine (implRo_any L a1 a2 c1 c2 w hn1 hn2 hby h).mono ?_
  rintro e w' ⟨a, cap, u, m', rfl, hmm, hb, ho⟩
  have e1 := hmm.out.1
  rw [if_pos hg, hm] at e1
  subst e1
  rw [hg]
  refine ⟨u, a, cap, rfl, hb, ?_⟩
  rcases ho.at with h | ⟨b, off, ha, hl, hc⟩
  · exact .inl h
  · exact .inr ⟨b, off, ha, hl, fun i hi => by rw [← hR i hi]; exact hc i hi⟩
theorem recs_ok_s {L : Lo} (hg : lgC L = 0) {m : Nat} (hm : cnt (aZ L) (L.n1 + L.n2) = m) {R : Nat → Rc} (hR : ∀ i, i < m → zRs (aZ L) i = R i) (a1 a2 : Option Addr) (c1 c2 : Nat) (w : World) (hn1 : L.n1 ≤ 1048576) (hn2 : L.n2 ≤ 1048576) (hby : LogByt L) (h : LogAt w a1 a2 L) :
    Calls Try.prog 11 #[.agg #[.slice a1 L.n1 c1, .slice a2 L.n2 c2]] w fun e w' => ∃ u a cap, e = .returned (.agg #[.int .i64 0, .int .i64 u, .slice a m cap]) ∧ Below w.heap.size w w' ∧ RecsAt w' a m R := by
  refine (specRo_any L a1 a2 c1 c2 w hn1 hn2 hby h).mono ?_
  rintro e w' ⟨a, cap, u, m', rfl, hmm, hb, ho⟩
  have e1 := hmm.out.1
  rw [if_pos hg, hm] at e1
  subst e1
  rw [hg]
  refine ⟨u, a, cap, rfl, hb, ?_⟩
  rcases ho.at with h | ⟨b, off, ha, hl, hc⟩
  · exact .inl h
  · exact .inr ⟨b, off, ha, hl, fun i hi => by rw [← hR i hi]; exact hc i hi⟩
theorem clC_zero {L : Lo} {x : Int} (h : clC L x = 0) : lgC L = 0 ∧ ∃ k : Nat, x = (k : Int) ∧ k ≤ L.n2 := by
  by_cases hg : lgC L = 0
  · refine ⟨hg, ?_⟩
    cases hx : inB x 0 (L.n2 : Int) with
    | false => rw [(cl_range hg hx).1] at h; omega
    | true =>
      have := inB_iff.1 hx
      exact ⟨x.toNat, by omega, by omega⟩
  · rw [(cl_bad hg).1] at h
    exact absurd h hg
theorem tail_byt {L : Lo} {k : Nat} (hk : k ≤ L.n2) (h : LogByt L) : LogByt ⟨13 * clM L k, aZ (cutL L k), 0, fun _ => 0⟩ :=
  ⟨fun i hi => aZ_byt (h.cut hk) i (by have := clM_le L k; have : i < 13 * clM L k := hi; show i < L.n1 + k; omega), fun i hi => absurd hi (Nat.not_lt_zero _)⟩
end Go.Proofs.Ytapggckfacmklaa
