/- The fault of an engine, by the model: rows. -/
import Derived.Test.YtjdodbiphijjgaaGreatQFc
import Derived.Test.YtjdodbiphijjgaaGreatQVf
namespace Go.Proofs.YtjdodbiphijjgaaGreat
open Go.RowKit Go.Deep
set_option linter.unusedVariables false
set_option maxRecDepth 20000

theorem l6Wrote_q (n : Nat) (U : Nat → Ud) (b o : Nat) (ai : Option Addr) (ci : Nat) (key : Int) (w : World) (hn : n ≤ 1048576) (hc : w.cell? ⟨b, o + 4, none⟩ = some (.slice ai n ci)) (h : UndsAt w ai n U) :
    Calls Tryz.prog 223 #[.pointer (some ⟨b, o, none⟩), .int .i64 key] w fun e w' => e = .returned (.bool (hasU U key n)) ∧ ∃ m, w' = w.drewN m := by
  refine (l6Wrote_any n U b o ai ci key w hn hc h).mono ?_
  rintro e w' ⟨rfl, rfl⟩
  exact ⟨rfl, 0, rfl⟩
theorem opB_0 {p : Nat} {T : Nat → Tx} {r : Rw} (h : wrt r.n r.U = 0) : opB p T r = true := by simp [opB, h]
theorem opB_none {p : Nat} {T : Nat → Tx} {r : Rw} (h : wrt r.n r.U ≠ 0) (h2 : fT p T (wrt r.n r.U) = -1) : opB p T r = false := by
  simp [opB, h, h2]
theorem opB_some {p : Nat} {T : Nat → Tx} {r : Rw} {j : Nat} (h : wrt r.n r.U ≠ 0) (h2 : fT p T (wrt r.n r.U) = j) : opB p T r = ((T j).st == 1 && hasU (T j).U r.key (T j).n) := by
  have e : (wrt r.n r.U == 0) = false := by simp [h]
  simp only [opB, e, h2, Int.toNat_natCast, Bool.false_or]
  rw [show decide ((0 : Int) ≤ (j : Int)) = true by simp]
  rfl
set_option maxHeartbeats 4000000 in
theorem l6Open_any (E : En) (B : Nat) (a : Option Addr) (cap : Nat) (a' : Option Addr) (cap' : Nat) (r : Rw) (bb o : Nat) (ai : Option Addr) (ci : Nat) (w : World) (hp : E.p ≤ 20) (hsm : ∀ i, i < E.p → (E.T i).n ≤ 1048576) (h : EBox w B a cap a' cap' E) (hC : CRw w bb o r ai ci) (hV : VersAt w ai r.n r.U) :
    Calls Tryz.prog 189 #[.pointer (some ⟨B, 0, none⟩), .pointer (some ⟨bb, o, none⟩)] w fun e w' => e = .returned (.bool (opB E.p E.T r)) ∧ ∃ m, w' = w.drewN m := by
  have HX : Hid (EBox w B a cap a' cap' E) := h
  have HS : Hid (∀ i, i < E.p → (E.T i).n ≤ 1048576) := hsm
  have HV : Hid (VersAt w ai r.n r.U) := hV
  clear h hsm hV
  obtain ⟨nx, ck, p, T, q, R⟩ := E
  dsimp only at *
  obtain ⟨⟨b0, b1, b2, b3⟩, hTA, -⟩ := HX.out
  dsimp only at b0 b1 b2 b3 hTA
  have HTA : Hid (TxsAt w a p T) := hTA
  obtain ⟨y0, y1⟩ := hC
  clear hTA b0 b1 b3 HX
  go_enter Tryz.func189, Tryz.ntmps189
  go_wp2_with fail
  refine (l5Writer_any r.n r.U ai ci w HV.out).mono ?_
  rintro e w1 ⟨rfl, hw1⟩
  have hw2 := hw1.symm
  clear hw1
  subst hw2
  by_cases h0 : wrt r.n r.U = 0
  · have HE : Hid (opB p T r = true) := opB_0 h0
    rw [h0]
    go_wp2_with fail
    go_ret
    exact ⟨ret_bool HE.out.symm, 0, rfl⟩
  have h0' : (wrt r.n r.U == 0) = false := by simp [h0]
  have HF := fi_cases (fun i => (T i).id == wrt r.n r.U) p
  have HF2 : Hid ((fT p T (wrt r.n r.U) = -1) ∨ ∃ j, j < p ∧ fT p T (wrt r.n r.U) = (j : Int)) := by
    rcases HF with ⟨h1, -⟩ | ⟨j, h1, h2, -⟩
    · exact .inl h1
    · exact .inr ⟨j, h1, h2⟩
  have HN : Hid (wrt r.n r.U ≠ 0) := h0
  have HO1 : Hid (fT p T (wrt r.n r.U) = -1 → opB p T r = false) := fun h => opB_none h0 h
  have HO2 : Hid (∀ j : Nat, fT p T (wrt r.n r.U) = j → opB p T r = ((T j).st == 1 && hasU (T j).U r.key (T j).n)) := fun j h => opB_some h0 h
  clear HF h0
  generalize wrt r.n r.U = wv at *
  go_wp2_with fail
  refine (l6Txn_any p T B a cap wv w (by omega) b2 HTA.out).mono ?_
  rintro e w1 ⟨rfl, hw1⟩
  have hw2 := hw1.symm
  clear hw1
  subst hw2
  rcases HF2.out with h1 | ⟨j, hj, h1⟩
  · have HE : Hid (opB p T r = false) := HO1.out h1
    rw [h1]
    clear HO1 HO2 HF2 h1
    go_wp2_with fail
    go_quiet (fail)
    go_wp2_with fail
    go_ret
    exact ⟨ret_bool HE.out.symm, _, rfl⟩
  · have HE : Hid (opB p T r = ((T j).st == 1 && hasU (T j).U r.key (T j).n)) := HO2.out j h1
    rw [h1]
    clear HO1 HO2 HF2 h1
    rcases HTA.out with h | ⟨tb, tof, rfl, hl, hcc⟩
    · omega
    obtain ⟨ti, tc, ⟨x0, x1, x2, x3, x4⟩, hun, -⟩ := hcc j hj
    have HUN : Hid (UndsAt w ti (T j).n (T j).U) := hun
    have HSJ : Hid ((T j).n ≤ 1048576) := HS.out j hj
    have hj1 : (j : Int) < (p : Int) := by omega
    have hj0 : (0 : Int) ≤ (j : Int) := by omega
    clear hcc hun
    obtain hs | hs := bool_or ((T j).st == 1)
    · rw [hs] at HE
      go_wp2_with fail
      go_quiet (first | (go_at_call 223; exact Calls.quiet_of (l6Wrote_q (T j).n (T j).U tb (tof + j * 5) ti tc r.key _ HSJ.out (cell_below x4 (below_drewN (Below.refl _ _) _)) (HUN.out.below (below_drewN (Below.refl _ _) _)))))
      go_wp2_with fail
      go_ret
      exact ⟨ret_bool (by rw [HE.out]; rfl), _, rfl⟩
    · rw [hs] at HE
      go_wp2_with fail
      go_quiet (fail)
      go_wp2_with fail
      go_ret
      exact ⟨ret_bool (by rw [HE.out]; rfl), _, rfl⟩
end Go.Proofs.YtjdodbiphijjgaaGreat
