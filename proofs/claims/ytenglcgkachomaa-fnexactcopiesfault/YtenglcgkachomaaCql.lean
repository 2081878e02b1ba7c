/- FnExactCopiesFault: the walk of the law. -/
import Derived.Test.YtenglcgkachomaaCqb
import Derived.Test.YtenglcgkachomaaCqc
namespace Go.Proofs.Ytenglcgkachomaa
open Go.ChangeShapes Go.WideShapes Go.ChangeAt Go.RowKit Go.Deep Go.Joins
set_option linter.unusedVariables false
set_option maxRecDepth 20000

theorem smallCs {t : Cs} (h : 0 ≤ (1048576 : Int) - szCs t) : SmCs t := by
  unfold szCs at h
  refine ⟨by omega, by omega, by omega, fun i hi => ?_⟩
  have := smf_ge (fun i => szCd (t.tT i)) t.tn i hi
  unfold smCd at h
  unfold szCd at *
  exact ⟨by omega, by omega, by omega⟩
theorem cellsCopies : Try.prog.cellsOf 45 = 5 := by kernel_rfl
theorem cellsCopiedS : Try.prog.cellsOf 43 = 1 := by kernel_rfl
theorem openCopies {H : Type} {enc : TypeId × Value → H} {W : World} {r : Reach} {b0 : Nat} {v : Value} {d : DataW H} {p : List MemPlace}
    (hv : Value.okWide Try.prog W r b0 45 v) (h : DataW.Trod enc Try.prog W 0 (fun _ => true) true 45 v d p) :
    ∃ (t : Cs) (a0 : Option Addr) (c0 : Nat) (a1 : Option Addr) (c1 : Nat) (a2 : Option Addr) (c2 : Nat), v = .agg #[.int .i64 t.nx, .int .i64 t.ck, .slice a0 t.wn c0, .slice a1 t.ln c1, .slice a2 t.tn c2] ∧ BigCs t ∧ InCs W a0 a1 a2 t := by
  obtain ⟨cs, rfl, hsz⟩ := okWide_struct Try.underlying45 hv
  obtain ⟨fuel, hf0⟩ := h
  obtain ⟨xs, n, _, _, hl, hlen, hf⟩ := DataW.trod_struct Try.underlying45 hf0
  rw [cellsCopies] at hsz
  obtain ⟨l⟩ := cs
  match l, hsz, xs, hlen with
  | [v0, v1, v2, v3, v4], _, [y0, y1, y2, y3, y4], _ =>
    have g0 := hf 0 _ rfl
    have g1 := hf 1 _ rfl
    have g2 := hf 2 _ rfl
    have g3 := hf 3 _ rfl
    have g4 := hf 4 _ rfl
    simp [Value.cells, cellsI1, cellsCd0, cellsCd2, cellsCopiedS] at g0 g1 g2 g3 g4
    obtain ⟨z0, f0, _, _⟩ := DataW.trod_int Try.underlying2 g0
    obtain ⟨z1, f1, _, _⟩ := DataW.trod_int Try.underlying2 g1
    obtain ⟨p0, n0, r0, K0, V0, f2, k0, l0, m0⟩ := openCellS g2
    obtain ⟨p1, n1, r1, Z1, f3, k1, l1, m1⟩ := openIntS g3
    obtain ⟨p2, n2, r2, Z2, f4, l2, l2', m2⟩ := openCds g4
    simp at f0 f1 f2 f3 f4
    subst f0 f1 f2 f3 f4
    exact ⟨⟨z0, z1, n0, K0, V0, n1, Z1, n2, Z2⟩, p0, r0, p1, r1, p2, r2, rfl, ⟨l0, l1, l2, l2'⟩, m0, m1, m2⟩
set_option maxHeartbeats 8000000 in
theorem copiesFaultLaw_small (t : Cs) (a0 : Option Addr) (c0 : Nat) (a1 : Option Addr) (c1 : Nat) (a2 : Option Addr) (c2 : Nat) (w : World) (hbig : BigCs t) (HA0 : InCs w a0 a1 a2 t) (c : Int)
    (HP : Hid (SmCs t → ∀ (a0 a1 a2 : Option Addr) (w : World), InCs w a0 a1 a2 t → Calls Try.prog 19 #[.agg #[.int .i64 t.nx, .int .i64 t.ck, .slice a0 t.wn t.wn, .slice a1 t.ln t.ln, .slice a2 t.tn t.tn]] w (fun e w' => e = .returned (.int .i64 c) ∧ Below w.heap.size w w')))
    (HQ : Hid (SmCs t → ∀ (a0 a1 a2 : Option Addr) (w : World), InCs w a0 a1 a2 t → Calls Try.prog 21 #[.agg #[.int .i64 t.nx, .int .i64 t.ck, .slice a0 t.wn t.wn, .slice a1 t.ln t.ln, .slice a2 t.tn t.tn]] w (fun e w' => e = .returned (.int .i64 c) ∧ Below w.heap.size w w'))) :
    Calls Try.prog 5 #[.agg #[.int .i64 t.nx, .int .i64 t.ck, .slice a0 t.wn c0, .slice a1 t.ln c1, .slice a2 t.tn c2]] w fun e w' => e = .returned (.bool true) ∧ Below w.heap.size w w' := by
  go_enter Try.func5, Try.ntmps5
  go_wp2_with fail
  refine (szCopies_any t a0 c0 a1 c1 a2 c2 1048576 _ hbig (by omega) (by omega) (HA0.below (below_new _ _))).mono ?_
  rintro e w1 ⟨hb, r, rfl, hr⟩
  have hB : Below w.heap.size w w1 := below_then (below_new _ _) hb
  rcases hr with rfl | ⟨hr0, hr1⟩
  · go_wp2_with fail
    go_ret
    exact ⟨rfl, hB⟩
  have HS : SmCs t := smallCs (by omega)
  have BA := (Box5.new w (.int .i64 t.nx) (.int .i64 t.ck) (.slice a0 t.wn c0) (.slice a1 t.ln c1) (.slice a2 t.tn c2) 45).below hb
  have HA := HA0.below hB
  have sw1 : Hid (w.heap.size < w1.heap.size) := by have hq := hb.size; simp at hq; show w.heap.size < w1.heap.size; omega
  have hneg : ¬ (r < 0) := by omega
  clear hb hr0 hr1 hbig
  have TA := BA
  obtain ⟨qA0, qA1, qA2, qA3, qA4⟩ := TA
  go_wp2_with fail
  refine (toCopies_any t a0 c0 a1 c1 a2 c2 _ HS HA).mono ?_
  rintro e w2 ⟨b10, b11, b12, rfl, hb, ho⟩
  clear qA0 qA1 qA2 qA3 qA4
  replace hB := below_then hB hb
  replace BA := BA.below hb
  replace HA := HA.below hb
  have sw2 : Hid (w1.heap.size ≤ w2.heap.size) := by have hq := hb.size; show w1.heap.size ≤ w2.heap.size; omega
  have OT := ho.wide (Nat.le_refl _) (Nat.le_refl _) (Nat.le_refl _)
  clear ho
  clear hb
  go_wp2_with fail
  refine (HP.out HS _ _ _ _ OT.at).mono ?_
  rintro e w3 ⟨rfl, hb⟩
  replace hB := below_then hB hb
  replace BA := BA.below hb
  replace OT := OT.below hb
  replace HA := HA.below hb
  have sw3 : Hid (w2.heap.size ≤ w3.heap.size) := by have hq := hb.size; show w2.heap.size ≤ w3.heap.size; omega
  clear hb
  clear OT
  have TA := BA
  obtain ⟨qA0, qA1, qA2, qA3, qA4⟩ := TA
  go_wp2_with fail
  refine (toCopies_any t a0 c0 a1 c1 a2 c2 _ HS HA).mono ?_
  rintro e w4 ⟨bx0, bx1, bx2, rfl, hb, ho⟩
  clear qA0 qA1 qA2 qA3 qA4
  replace hB := below_then hB hb
  replace BA := BA.below hb
  replace HA := HA.below hb
  have sw4 : Hid (w3.heap.size ≤ w4.heap.size) := by have hq := hb.size; show w3.heap.size ≤ w4.heap.size; omega
  have OX := ho.wide (Nat.le_refl _) (Nat.le_refl _) (Nat.le_refl _)
  clear ho
  clear hb
  go_wp2_with fail
  refine (HQ.out HS _ _ _ _ (OX.at.below (below_new _ _))).mono ?_
  rintro e w5 ⟨rfl, hb⟩
  replace hB := below_then hB (below_then (below_new _ _) hb)
  replace BA := (BA.alloc _).below hb
  have BX := (Box5.new w4 (.int .i64 t.nx) (.int .i64 t.ck) (.slice (some ⟨bx0, 0, none⟩) t.wn t.wn) (.slice (some ⟨bx1, 0, none⟩) t.ln t.ln) (.slice (some ⟨bx2, 0, none⟩) t.tn t.tn) 50).below hb
  replace OX := (OX.below (below_new _ _)).below hb
  replace HA := (HA.below (below_new _ _)).below hb
  have sw5 : Hid (w4.heap.size < w5.heap.size) := by have hq := hb.size; simp at hq; show w4.heap.size < w5.heap.size; omega
  clear hb
  have TX := BX
  obtain ⟨qX0, qX1, qX2, qX3, qX4⟩ := TX
  have TA := BA
  obtain ⟨qA0, qA1, qA2, qA3, qA4⟩ := TA
  go_wp2_with fail
  have hb0 : Below w5.heap.size w5 w5.drew := (Below.refl _ _).drew
  go_region_held3 (fun w' => Below w5.heap.size w5 w' ∧ w'.cell? ⟨w4.heap.size, 0, none⟩ = some (.int .i64 t.nx) ∧ w'.cell? ⟨w4.heap.size, 1, none⟩ = some (.int .i64 t.ck) ∧ w'.cell? ⟨w4.heap.size, 2, none⟩ = some (.slice (some ⟨bx0, 0, none⟩) t.wn t.wn) ∧ w'.cell? ⟨w4.heap.size, 3, none⟩ = some (.slice (some ⟨bx1, 0, none⟩) t.ln t.ln) ∧ w'.cell? ⟨w4.heap.size, 4, none⟩ = some (.slice (some ⟨bx2, 0, none⟩) t.tn t.tn) ∧ w'.cell? ⟨w.heap.size, 0, none⟩ = some (.int .i64 t.nx) ∧ w'.cell? ⟨w.heap.size, 1, none⟩ = some (.int .i64 t.ck) ∧ w'.cell? ⟨w.heap.size, 2, none⟩ = some (.slice a0 t.wn c0) ∧ w'.cell? ⟨w.heap.size, 3, none⟩ = some (.slice a1 t.ln c1) ∧ w'.cell? ⟨w.heap.size, 4, none⟩ = some (.slice a2 t.tn c2)) (go_keep)
    (first | (go_at_call 20; refine (toCopies_any t a0 c0 a1 c1 a2 c2 _ HS (HA.below (by simp [*]))).mono ?_; rintro e wq ⟨bq0, bq1, bq2, rfl, hbq, hoq⟩; have hU := below_then (w := w5) (by simp [*]) hbq; have hU0 := cell_below (B := w4.heap.size) (o := 0) (v := .int .i64 t.nx) (by simp [*]) hbq; have hU1 := cell_below (B := w4.heap.size) (o := 1) (v := .int .i64 t.ck) (by simp [*]) hbq; have hU2 := cell_below (B := w4.heap.size) (o := 2) (v := .slice (some ⟨bx0, 0, none⟩) t.wn t.wn) (by simp [*]) hbq; have hU3 := cell_below (B := w4.heap.size) (o := 3) (v := .slice (some ⟨bx1, 0, none⟩) t.ln t.ln) (by simp [*]) hbq; have hU4 := cell_below (B := w4.heap.size) (o := 4) (v := .slice (some ⟨bx2, 0, none⟩) t.tn t.tn) (by simp [*]) hbq; have hU5 := cell_below (B := w.heap.size) (o := 0) (v := .int .i64 t.nx) (by simp [*]) hbq; have hU6 := cell_below (B := w.heap.size) (o := 1) (v := .int .i64 t.ck) (by simp [*]) hbq; have hU7 := cell_below (B := w.heap.size) (o := 2) (v := .slice a0 t.wn c0) (by simp [*]) hbq; have hU8 := cell_below (B := w.heap.size) (o := 3) (v := .slice a1 t.ln c1) (by simp [*]) hbq; have hU9 := cell_below (B := w.heap.size) (o := 4) (v := .slice a2 t.tn c2) (by simp [*]) hbq) | (go_at_call 22; refine (eqCopies_same t _ t.wn _ t.ln _ t.tn _ t.wn _ t.ln _ t.tn _ HS (OX.at.below (by simp [*])) hoq.at).mono ?_; rintro e w6 ⟨rfl, hbz⟩; have hS := below_then (w := w5) (by simp [*]) hbz; have hS0 := cell_below (B := w4.heap.size) (o := 0) (v := .int .i64 t.nx) (by simp [*]) hbz; have hS1 := cell_below (B := w4.heap.size) (o := 1) (v := .int .i64 t.ck) (by simp [*]) hbz; have hS2 := cell_below (B := w4.heap.size) (o := 2) (v := .slice (some ⟨bx0, 0, none⟩) t.wn t.wn) (by simp [*]) hbz; have hS3 := cell_below (B := w4.heap.size) (o := 3) (v := .slice (some ⟨bx1, 0, none⟩) t.ln t.ln) (by simp [*]) hbz; have hS4 := cell_below (B := w4.heap.size) (o := 4) (v := .slice (some ⟨bx2, 0, none⟩) t.tn t.tn) (by simp [*]) hbz; have hS5 := cell_below (B := w.heap.size) (o := 0) (v := .int .i64 t.nx) (by simp [*]) hbz; have hS6 := cell_below (B := w.heap.size) (o := 1) (v := .int .i64 t.ck) (by simp [*]) hbz; have hS7 := cell_below (B := w.heap.size) (o := 2) (v := .slice a0 t.wn c0) (by simp [*]) hbz; have hS8 := cell_below (B := w.heap.size) (o := 3) (v := .slice a1 t.ln c1) (by simp [*]) hbz; have hS9 := cell_below (B := w.heap.size) (o := 4) (v := .slice a2 t.tn c2) (by simp [*]) hbz))
  go_wp2
  go_ret
  exact ⟨rfl, below_then hB hS⟩
theorem copiesFaultLaw (t : Cs) (a0 : Option Addr) (c0 : Nat) (a1 : Option Addr) (c1 : Nat) (a2 : Option Addr) (c2 : Nat) (w : World) (hbig : BigCs t) (HA0 : InCs w a0 a1 a2 t) :
    Calls Try.prog 5 #[.agg #[.int .i64 t.nx, .int .i64 t.ck, .slice a0 t.wn c0, .slice a1 t.ln c1, .slice a2 t.tn c2]] w fun e w' => e = .returned (.bool true) ∧ Below w.heap.size w w' :=
  copiesFaultLaw_small t a0 c0 a1 c1 a2 c2 w hbig HA0 (csF t) (fun hs a0 a1 a2 w h => specCf_any t a0 t.wn a1 t.ln a2 t.tn w hs h) (fun hs a0 a1 a2 w h => implCf_any t a0 t.wn a1 t.ln a2 t.tn w hs h)
end Go.Proofs.Ytenglcgkachomaa
