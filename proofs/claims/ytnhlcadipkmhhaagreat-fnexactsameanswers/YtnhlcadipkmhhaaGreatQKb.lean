/- What a view reads of a key: the model. -/
import Derived.Test.YtnhlcadipkmhhaaGreatQKa
import Derived.Test.YtnhlcadipkmhhaaGreatQVn
namespace Go.Proofs.YtnhlcadipkmhhaaGreat
open Go.RowKit Go.Deep
set_option linter.unusedVariables false
set_option maxRecDepth 20000

/-- Can a view read a key, and what? -/
def rdB (q : Nat) (R : Nat → Rw) (x o key : Int) : Bool := decide (0 ≤ fR q R key) && told (R (fR q R key).toNat).n (R (fR q R key).toNat).U x o
def rdV (q : Nat) (R : Nat → Rw) (x o key : Int) : Int := if rdB q R x o key = true then ((R (fR q R key).toNat).U (pS (R (fR q R key).toNat).n (R (fR q R key).toNat).U x o)).v else 0
theorem fR_cases (q : Nat) (R : Nat → Rw) (key : Int) : fR q R key = -1 ∨ ∃ j, j < q ∧ fR q R key = (j : Int) := by
  rcases fi_cases (fun i => (R i).key == key) q with ⟨h1, -⟩ | ⟨j, h1, h2, -⟩
  · exact .inl h1
  · exact .inr ⟨j, h1, h2⟩
theorem rd_none {q : Nat} {R : Nat → Rw} {x o key : Int} (h : fR q R key = -1) : rdB q R x o key = false ∧ rdV q R x o key = 0 := by
  have e : rdB q R x o key = false := by simp [rdB, h]
  exact ⟨e, if_neg (by simp [e])⟩
theorem rd_some {q : Nat} {R : Nat → Rw} {x o key : Int} {j : Nat} (h : fR q R key = (j : Int)) : rdB q R x o key = told (R j).n (R j).U x o ∧ rdV q R x o key = if told (R j).n (R j).U x o = true then ((R j).U (pS (R j).n (R j).U x o)).v else 0 := by
  have e : rdB q R x o key = told (R j).n (R j).U x o := by
    simp only [rdB, h, Int.toNat_natCast]
    rw [show decide ((0 : Int) ≤ (j : Int)) = true by simp]; rfl
  refine ⟨e, ?_⟩
  unfold rdV
  rw [e, h, Int.toNat_natCast]
theorem sS_told {n : Nat} {R : Nat → Vr} {x o : Int} : (told n R x o = true → sS n R x o = (pS n R x o : Int) ∧ pS n R x o < n) ∧ (told n R x o = false → sS n R x o = -1) := by
  constructor
  · intro h
    have h1 := told_iff.1 h
    exact ⟨if_pos h1, h1.1⟩
  · intro h
    refine if_neg fun h1 => ?_
    rw [told_iff.2 h1] at h
    cases h
theorem l6View_any (t : Tx) (bb o : Nat) (ai : Option Addr) (ci : Nat) (w : World) (hC : CTx w bb o t ai ci) :
    Calls Tryz.prog 31 #[.pointer (some ⟨bb, o, none⟩)] w fun e w' => e = .returned (.agg #[.int .i64 t.am, .int .i64 t.id]) ∧ Below w.heap.size w w' := by
  obtain ⟨x0, x1, -⟩ := hC
  have y0 := fun ob : Obj => cell_alloc x0 ob
  have y1 := fun ob : Obj => cell_alloc x1 ob
  go_enter Tryz.func31, Tryz.ntmps31
  go_wp2_with fail
  go_region
  all_goals
    go_wp2_with fail
    refine bodyPost_ret (v := .agg #[.int .i64 t.am, .int .i64 t.id]) (by simp [results, Tryz.results31, go_sem]) rfl ⟨rfl, ?_⟩
    repeat (first | with_reducible exact Below.refl _ _ | with_reducible apply Below.drew | with_reducible refine Below.setCell ?_ (by first | omega | (simp <;> omega)) _ | with_reducible refine Below.alloc ?_ (by first | omega | (simp <;> omega)) _)
set_option maxHeartbeats 4000000 in
theorem l6Read_any (E : En) (B : Nat) (a : Option Addr) (cap : Nat) (a' : Option Addr) (cap' : Nat) (x o key : Int) (w : World) (hq : E.q ≤ 32) (hr : ∀ i, i < E.q → (E.R i).n ≤ 12) (h : EBox w B a cap a' cap' E) :
    Calls Tryz.prog 68 #[.pointer (some ⟨B, 0, none⟩), .agg #[.int .i64 x, .int .i64 o], .int .i64 key] w fun e w' => e = .returned (.tuple #[.int .i64 (rdV E.q E.R x o key), .bool (rdB E.q E.R x o key)]) ∧ Below w.heap.size w w' := by
  have HX : Hid (EBox w B a cap a' cap' E) := h
  have HR : Hid (∀ i, i < E.q → (E.R i).n ≤ 12) := hr
  have HXA : Hid (∀ ob : Obj, EBox (w.alloc ob) B a cap a' cap' E) := fun ob => h.below (below_new _ _)
  have HBX : Hid (∀ ob : Obj, ob = .cells #[.int .i64 x, .int .i64 o] 59 → Box2 (w.alloc ob) w.heap.size (.int .i64 x) (.int .i64 o)) := by
    rintro ob rfl
    exact Box2.new w _ _ _
  clear h hr
  go_enter Tryz.func68, Tryz.ntmps68
  go_wp2_with fail
  refine (l6Row_any E.q E.R B a' cap' key _ (by omega) (HXA.out _).1.2.2.2 (HXA.out _).2.2).mono ?_
  rintro e w1 ⟨rfl, hw1⟩
  have HX1 : Hid (EBox w1 B a cap a' cap' E) := by rw [hw1]; exact HXA.out _
  have HB1 : Hid (Below w.heap.size w w1) := by rw [hw1]; exact below_new _ _
  have HV1 : Hid (Box2 w1 w.heap.size (.int .i64 x) (.int .i64 o)) := by rw [hw1]; exact HBX.out _ rfl
  clear hw1 HXA HBX
  rcases fR_cases E.q E.R key with h1 | ⟨j, hj, h1⟩
  · have HE : Hid (rdB E.q E.R x o key = false ∧ rdV E.q E.R x o key = 0) := rd_none h1
    rw [h1]
    clear h1
    go_wp2_with fail
    go_ret2
    exact ⟨by rw [HE.out.1, HE.out.2]; rfl, HB1.out⟩
  have HE : Hid (rdB E.q E.R x o key = told (E.R j).n (E.R j).U x o ∧ rdV E.q E.R x o key = if told (E.R j).n (E.R j).U x o = true then ((E.R j).U (pS (E.R j).n (E.R j).U x o)).v else 0) := rd_some h1
  rw [h1]
  obtain ⟨⟨b0, b1, b2, b3⟩, -, hRA⟩ := HX1.out
  rcases hRA with h | ⟨rb, ro, rfl, hrl, hrc⟩
  · omega
  obtain ⟨ri, rcp, ⟨z0, z1⟩, hrv, -⟩ := hrc j hj
  have HRV : Hid (VersAt w1 ri (E.R j).n (E.R j).U) := hrv
  have HN : Hid ((E.R j).n ≤ 12) := HR.out j hj
  have hj1 : (j : Int) < (E.q : Int) := by omega
  have hj0 : (0 : Int) ≤ (j : Int) := by omega
  have hj3 : ¬ ((j : Int) < 0) := by omega
  obtain ⟨v0, v1⟩ := HV1.out
  have hb0 : Below w1.heap.size w1 w1.drew := (Below.refl _ _).drew
  clear hrc hrv h1 b0 b1 b2 z0
  go_upto_region 4 with fail
  go_cut [9] (fun cc wx => cc = .int .i64 (sS (E.R j).n (E.R j).U x o) ∧ Hid (Below w1.heap.size w1 wx))
  case first =>
    go_region_held3 (fun w' => Below w1.heap.size w1 w' ∧ w'.cell? ⟨B, 3, none⟩ = some (.slice (some ⟨rb, ro, none⟩) E.q cap') ∧ w'.cell? ⟨rb, ro + j * 2 + 1, none⟩ = some (.slice ri (E.R j).n rcp) ∧ w'.cell? ⟨w.heap.size, 0, none⟩ = some (.int .i64 x) ∧ w'.cell? ⟨w.heap.size, 1, none⟩ = some (.int .i64 o)) (go_keep)
      (first | (go_at_call 114; refine (l5Seen_any (E.R j).n (E.R j).U ri rcp x o _ HN.out (HRV.out.below (by simp [*]))).mono ?_; rintro e wq ⟨rfl, hbq⟩; have hU := below_then (w := w1) (by simp [*]) hbq; have hU0 := cell_below (B := B) (o := 3) (v := .slice (some ⟨rb, ro, none⟩) E.q cap') (by simp [*]) hbq; have hU1 := cell_below (B := rb) (o := ro + j * 2 + 1) (v := .slice ri (E.R j).n rcp) (by simp [*]) hbq; have hU2 := cell_below (B := w.heap.size) (o := 0) (v := .int .i64 x) (by simp [*]) hbq; have hU3 := cell_below (B := w.heap.size) (o := 1) (v := .int .i64 o) (by simp [*]) hbq))
    go_wp2_with fail
    go_meet
    exact ⟨rfl, by assumption⟩
  case rest =>
    obtain ⟨rfl, HBX⟩ := hcut
    have HB2 : Hid (Below w.heap.size w wc) := below_then HB1.out HBX.out
    replace b3 := cell_below b3 HBX.out
    replace z1 := cell_below z1 HBX.out
    have HRV2 := HRV.out.below HBX.out
    clear v0 v1 HBX hb0 hrl
    obtain ht | ht := bool_or2 (told (E.R j).n (E.R j).U x o)
    · obtain ⟨hs1, hs2⟩ := sS_told.1 ht
      have HE2 : Hid (rdB E.q E.R x o key = true ∧ rdV E.q E.R x o key = ((E.R j).U (pS (E.R j).n (E.R j).U x o)).v) := ⟨HE.out.1.trans ht, HE.out.2.trans (if_pos ht)⟩
      rw [hs1]
      clear hs1 HE ht
      generalize hps : pS (E.R j).n (E.R j).U x o = ps at *
      rcases HRV2 with h | ⟨vb, vo, rfl, hvl, hvc⟩
      · omega
      obtain ⟨-, -, -, q3⟩ := hvc ps hs2
      have hp1 : (ps : Int) < ((E.R j).n : Int) := by omega
      have hp0 : (0 : Int) ≤ (ps : Int) := by omega
      have hp3 : ¬ ((ps : Int) < 0) := by omega
      clear hvc
      go_wp2_with fail
      go_ret2
      exact ⟨by rw [HE2.out.1, HE2.out.2]; rfl, HB2.out⟩
    · have HE2 : Hid (rdB E.q E.R x o key = false ∧ rdV E.q E.R x o key = 0) := ⟨HE.out.1.trans ht, HE.out.2.trans (if_neg (by simp [ht]))⟩
      rw [sS_told.2 ht]
      clear HE ht HRV2
      go_wp2_with fail
      go_ret2
      exact ⟨by rw [HE2.out.1, HE2.out.2]; rfl, HB2.out⟩
end Go.Proofs.YtnhlcadipkmhhaaGreat
