/- EdgesOf: the program's side. -/
import Derived.Test.YtnmmnhfgkcdajaaEeg
import Derived.Test.YtnmmnhfgkcdajaaEeb
namespace Go.Proofs.Ytnmmnhfgkcdajaa
open Go.RowKit Go.Deep
set_option linter.unusedVariables false
set_option maxRecDepth 20000

/-- The numbers of an edge of a right history. -/
theorem cm_top {R : Nat → Hp} {n : Nat} (h : hiF R n = 0) : ∀ k, k ≤ n → ∀ x ∈ cmL R k, 2 ≤ x ∧ x ≤ 999
  | 0, _, x, hx => by simp [cmL] at hx
  | k + 1, hk, x, hx => by
    have hg := (hpF_zero (hop_good h (show k < n by omega))).1
    simp only [cmL] at hx
    split at hx
    · rcases List.mem_append.1 hx with q | q
      · exact cm_top h k (by omega) x q
      · rw [List.mem_singleton.1 q]
        simp only [hpIn, Bool.and_eq_true] at hg
        exact inB_iff.1 hg.1.1.2
    · exact cm_top h k (by omega) x hx
def smE (e : Ed) : Prop := (0 ≤ e.f ∧ e.f ≤ 999) ∧ (0 ≤ e.t ∧ e.t ≤ 999) ∧ (0 ≤ e.k ∧ e.k ≤ 4)
theorem smE_wf {e : Ed} (h : smE e) : wfE e := by
  obtain ⟨h1, h2, h3⟩ := h
  exact ⟨WalkArith.wf_i64 (by omega), WalkArith.wf_i64 (by omega), WalkArith.wf_i64 (by omega)⟩
theorem nxt_sub {ws : List Int} {v x : Int} (hx : x ∈ nxt ws v) : x ∈ ws := by
  unfold nxt at hx
  split at hx
  · exact hx
  · split at hx
    · simp at hx
    · exact List.mem_of_mem_drop hx
theorem eW_sm {ws : List Int} (hw : ∀ x ∈ ws, 2 ≤ x ∧ x ≤ 999) : ∀ {k : Nat} {e : Ed}, e ∈ eW ws k → k < ws.length → smE e
  | 0, e, h, _ => by simp [eW] at h
  | k + 1, e, h, hk => by
    simp only [eW, List.mem_append, List.mem_singleton] at h
    rcases h with h | rfl
    · exact eW_sm hw h (by omega)
    · have h1 := hw _ (zI_mem (show k < ws.length by omega))
      have h2 := hw _ (zI_mem hk)
      exact ⟨by simp only; omega, by simp only; omega, by simp⟩
theorem eI_sm {R : Nat → Hp} {n : Nat} (h : hiF R n = 0) : ∀ {y : Nat} {e : Ed}, e ∈ eI R n (cmL R n) y → smE e
  | 0, e, he => by simp [eI] at he
  | y + 1, e, he => by
    simp only [eI, List.mem_append] at he
    rcases he with he | he
    · exact eI_sm h he
    · have hcm := cm_top h n (Nat.le_refl _)
      have hws : ∀ x ∈ wrL R n (y : Int) (cmL R n), 2 ≤ x ∧ x ≤ 999 := fun x hx => hcm x (List.mem_filter.1 hx).1
      simp only [eA, List.mem_append] at he
      generalize wrL R n (y : Int) (cmL R n) = ws at *
      rcases he with he | he
      · by_cases hl : ws.length = 0
        · rw [hl] at he; simp [eW] at he
        · exact eW_sm hws he (by omega)
      · suffices H : ∀ k, k ≤ n → ∀ e ∈ eH R (cmL R n) ws (y : Int) k, smE e from H n (Nat.le_refl _) e he
        intro k
        induction k with
        | zero => intro _ e he; simp [eH] at he
        | succ k ih =>
          intro hk e he
          simp only [eH, List.mem_append] at he
          rcases he with he | he
          · exact ih (by omega) e he
          · have hg := (hpF_zero (hop_good h (show k < n by omega))).1
            simp only [hpIn, Bool.and_eq_true] at hg
            have ht := inB_iff.1 hg.1.1.2
            have ho := inB_iff.1 hg.2
            split at he
            · simp only [eR, List.mem_append] at he
              rcases he with he | he
              · unfold r1 at he
                split at he
                · rw [List.mem_singleton.1 he]
                  exact ⟨by simp only; omega, by simp only; omega, by simp⟩
                · simp at he
              · unfold r2 at he
                split at he
                · rename_i hc
                  simp only [Bool.and_eq_true, decide_eq_true_eq] at hc
                  have hz := hws _ (nxt_sub (zI_mem hc.1))
                  rw [List.mem_singleton.1 he]
                  exact ⟨by simp only; omega, by simp only; omega, by simp⟩
                · simp at he
            · simp at he
set_option maxHeartbeats 4000000 in
theorem implEg_any (M : Nat) (hM : M = 32) (n : Nat) (R : Nat → Hp) (a : Option Addr) (w : World) (hn : n ≤ 1048576) (hw : HpW n R) (h : HopsAt w a n R) :
    Calls Try.prog 24 #[.slice a n n] w (GRes (hsC R n) (addAll [] (eI R n (cmL R n) M)) w) := by
  have HX : Hid (HopsAt w a n R) := h
  have HW : Hid (HpW n R) := hw
  clear h hw
  go_enter Try.func24, Try.ntmps24
  go_wp2_with fail
  refine (implCm_any n R a n _ hn HW.out (HX.out.below (below_new _ _))).mono ?_
  rintro e w1 ⟨ca, cc, rfl, hb1, OC⟩
  have B2 := (Box2.new w (.int .i64 0) (.slice none 0 0) 42).below hb1
  have rf : ∀ i, w1.frozen? ⟨w.heap.size, i, none⟩ = false := fun i => ((bcell hb1).2 _ _ (by simp)).trans (by simp [go_sem])
  have HBW : Hid (Below w.heap.size w w1) := below_then (below_new _ _) hb1
  have hs1 : w.heap.size + 1 ≤ w1.heap.size := by have := hb1.size; rw [World.size_alloc] at this; exact this
  have HOC : Hid (IntsAt w1 ca (if hsC R n = 0 then cmL R n else []).length (zI (if hsC R n = 0 then cmL R n else []))) := OC.at
  clear hb1 OC
  have rfa : ∀ i, ∀ o : Obj, (w1.alloc o).frozen? ⟨w.heap.size, i, none⟩ = false := fun i o => ((bcell (below_new w1 o)).2 _ _ (by omega)).trans (rf i)
  obtain ⟨r0, r1⟩ := B2
  have r0a := fun o : Obj => cell_alloc r0 o
  have r1a := fun o : Obj => cell_alloc r1 o
  by_cases hc : hsC R n = 0
  case neg =>
    have hc2 : (hsC R n != 0) = true := by simp [hc]
    have HF : Hid (∀ w7, Below w.heap.size w w7 → GRes (hsC R n) (addAll [] (eI R n (cmL R n) M)) w (.returned (.agg #[.int .i64 (hsC R n), .slice none 0 0])) w7) := fun w7 hb => gres_bad hb hc
    clear hc HOC
    generalize (if hsC R n = 0 then cmL R n else []).length = len at *
    generalize hsC R n = uu at *
    go_wp2_with fail
    refine bodyPost_ret (v := .agg #[.int .i64 uu, .slice none 0 0]) (by simp [results, Try.results24, go_sem, *]) rfl ?_
    refine HF.out _ ?_
    repeat (first | with_reducible exact HBW.out | with_reducible refine Below.alloc ?_ (by first | omega | (simp <;> omega)) _ | with_reducible refine Below.setCell ?_ (by first | omega | (simp <;> omega)) _)
  have hn4 := hs_few hc
  have hhi : hiF R n = 0 := by rw [← hsC_few hn4]; exact hc
  simp only [if_pos hc] at *
  have HC0 : Hid (hsC R n = 0) := hc
  have HLL : Hid ((cmL R n).length ≤ 400) := Nat.le_trans (cmL_len R n) hn4
  have HEO : Hid (∀ Bh Bc wv, Bh < wv.heap.size → Bc < wv.heap.size → wv.cell? ⟨Bh, 0, none⟩ = some (.slice a n n) → wv.cell? ⟨Bc, 0, none⟩ = some (.slice ca (cmL R n).length cc) → HopsAt wv a n R → IntsAt wv ca (cmL R n).length (zI (cmL R n)) →
      Calls Try.prog 48 #[.func (.func 62) #[] #[.pointer (some ⟨Bh, 0, none⟩), .pointer (some ⟨Bc, 0, none⟩)]] wv (ERs (addAll [] (eI R n (cmL R n) M)) wv)) := fun Bh Bc wv h1 h2 h3 h4 h5 h6 =>
    eachOnce_any M hM n R (cmL R n) a ca cc Bh Bc wv hn4 hhi HLL.out (fun e he => smE_wf (eI_sm hhi he)) (by have h9 := eI_len R n (cmL R n) hn4 HLL.out M; exact Nat.le_trans h9 (by rw [hM]; decide)) h1 h2 h3 h4 h5 h6
  rw [hc]
  clear hc hhi hM
  generalize addAll [] (eI R n (cmL R n) M) = L at *
  generalize cmL R n = l at *
  obtain ⟨w2, hw2⟩ : ∃ x, x = w1.alloc (.cells #[.int .i64 0, .slice ca l.length cc] 26) := ⟨_, rfl⟩
  have hb2 : Below w1.heap.size w1 w2 := by rw [hw2]; exact below_new _ _
  have HRB : Hid (Box2 w2 w.heap.size (.int .i64 0) (.slice none 0 0) ∧ ∀ i, w2.frozen? ⟨w.heap.size, i, none⟩ = false) := ⟨⟨cell_below r0 hb2, cell_below r1 hb2⟩, fun i => ((bcell hb2).2 _ _ (by omega)).trans (rf i)⟩
  have HB2 : Hid (Below w.heap.size w w2) := below_then HBW.out hb2
  have hs2 : w.heap.size + 1 ≤ w2.heap.size := Nat.le_trans hs1 hb2.size
  have HI2 : Hid (IntsAt w2 ca l.length (zI l)) := HOC.out.below hb2
  go_wp2_with fail
  rw [← hw2]
  clear hw2 HOC hb2 r0 r1 rf hs1 HBW rfa r0a r1a
  refine (edgesIn_any a ca n n l.length cc w2).mono ?_
  rintro e w3 ⟨rfl, hw3⟩
  have hb3 : Below w2.heap.size w2 w3 := by rw [hw3]; exact below_then (below_new _ _) (below_new _ _)
  have HEE := HEO.out w2.heap.size (w2.heap.size + 1) w3 (by rw [hw3]; simp; omega) (by rw [hw3]; simp) (by rw [hw3]; simp [go_sem]) (by rw [hw3]; simp [go_sem]) (HX.out.below (below_then HB2.out hb3)) (HI2.out.below hb3)
  clear hw3 HEO
  go_wp2_with fail
  refine HEE.mono ?_
  clear HEE
  rintro e w4 ⟨v, rfl, hb4, ho4⟩
  obtain ⟨ea, ec, rfl⟩ := rowE_slice ho4
  have hb24 := below_then hb3 hb4
  have HF : Hid (∀ w7, Writes w.heap.size (w.heap.size + 1) w4 w7 → w7.heap.size = w4.heap.size → GRes (hsC R n) L w (.returned (.agg #[.int .i64 0, .slice ea L.length ec])) w7) := fun w7 hw hs7 => by
    exact gres_ok HC0.out (below_then HB2.out hb24) (Nat.le_refl _) (by omega) (Nat.le_trans hs2 hb3.size) ho4 hw hs7
  obtain ⟨⟨r0, r1⟩, rf⟩ := HRB.out
  replace rf : ∀ i, w4.frozen? ⟨w.heap.size, i, none⟩ = false := fun i => ((bcell hb24).2 _ _ (by omega)).trans (rf i)
  replace r0 := cell_below r0 hb24
  replace r1 := cell_below r1 hb24
  clear ho4 hb4 hb3 hb24 HRB
  generalize L.length = len at *
  go_wp2_with fail
  refine bodyPost_ret (v := .agg #[.int .i64 0, .slice ea len ec]) (by simp [results, Try.results24, go_sem, *]) rfl ?_
  refine HF.out _ ?_ ?_
  · repeat (first | with_reducible exact Writes.refl _ _ _ | with_reducible refine Writes.setCell ?_ (by first | omega | (simp <;> omega)) (by first | omega | (simp <;> omega)) _)
  · simp [World.setCell]
end Go.Proofs.Ytnmmnhfgkcdajaa
