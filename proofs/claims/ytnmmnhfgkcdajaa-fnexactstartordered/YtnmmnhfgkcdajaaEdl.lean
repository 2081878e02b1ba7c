/- StartOrdered: the model's side. -/
import Derived.Test.YtnmmnhfgkcdajaaEdk
import Derived.Test.YtnmmnhfgkcdajaaEdg
namespace Go.Proofs.Ytnmmnhfgkcdajaa
open Go.RowKit Go.Deep
set_option linter.unusedVariables false
set_option maxRecDepth 20000

theorem cm_mem {R : Nat → Hp} {x : Int} : ∀ {n : Nat}, x ∈ cmL R n ↔ ∃ i, i < n ∧ (R i).k = 4 ∧ (R i).t = x
  | 0 => by simp [cmL]
  | n + 1 => by
    simp only [cmL]
    split
    · rename_i h
      simp only [List.mem_append, cm_mem (n := n), List.mem_singleton]
      constructor
      · rintro (⟨i, h1, h2⟩ | rfl)
        · exact ⟨i, by omega, h2⟩
        · exact ⟨n, by omega, h, rfl⟩
      · rintro ⟨i, h1, h2, h3⟩
        by_cases q : i = n
        · subst q; exact .inr h3.symm
        · exact .inl ⟨i, by omega, h2, h3⟩
    · rename_i h
      rw [cm_mem (n := n)]
      constructor
      · rintro ⟨i, h1, h2⟩; exact ⟨i, by omega, h2⟩
      · rintro ⟨i, h1, h2, h3⟩
        by_cases q : i = n
        · subst q; exact absurd h2 h
        · exact ⟨i, by omega, h2, h3⟩
theorem plc_cm {R : Nat → Hp} {n : Nat} {x : Int} (h : x ∈ cmL R n) : 0 ≤ plc R 4 x n := by
  obtain ⟨i, h1, h2, h3⟩ := cm_mem.1 h
  unfold plc
  rcases fst0_spec (fun i => (R i).k == 4 && (R i).t == x) n with ⟨_, q⟩ | ⟨k, _, q, _⟩
  · have := q i h1; simp [h2, h3] at this
  · rw [q]; omega
def badS (R : Nat → Hp) (n : Nat) (e : Ed) : Bool := e.k != 4 && decide (plc R 1 e.t n < plc R 4 e.f n)
/-- Edges that are no overtaking lead between committed ones. -/
theorem eW_cm {ws : List Int} : ∀ {k : Nat} {e : Ed}, e ∈ eW ws k → k < ws.length → e.f ∈ ws ∧ e.t ∈ ws
  | 0, e, h, _ => by simp [eW] at h
  | k + 1, e, h, hk => by
    simp only [eW, List.mem_append, List.mem_singleton] at h
    rcases h with h | rfl
    · exact eW_cm h (by omega)
    · exact ⟨zI_mem (by omega), zI_mem hk⟩
theorem eH_cm {R : Nat → Hp} {cm ws : List Int} {y : Int} : ∀ {k : Nat} {e : Ed}, e ∈ eH R cm ws y k → e.k ≠ 4 → e.f ∈ cm ∧ e.t ∈ cm
  | 0, e, h, _ => by simp [eH] at h
  | k + 1, e, h, hk => by
    simp only [eH, List.mem_append] at h
    rcases h with h | h
    · exact eH_cm h hk
    · split at h
      · rename_i hr
        simp only [rdB, Bool.and_eq_true, decide_eq_true_eq] at hr
        simp only [eR, List.mem_append] at h
        rcases h with h | h
        · unfold r1 at h
          split at h
          · rename_i h1
            simp only [Bool.and_eq_true, decide_eq_true_eq] at h1
            rw [List.mem_singleton.1 h]
            exact ⟨h1.2, hr.2⟩
          · simp at h
        · unfold r2 at h
          split at h
          · rw [List.mem_singleton.1 h] at hk
            simp at hk
          · simp at h
      · simp at h
theorem eA_cm {R : Nat → Hp} {n : Nat} {cm : List Int} {y : Int} {e : Ed} (h : e ∈ eA R n cm y) (hk : e.k ≠ 4) : e.f ∈ cm ∧ e.t ∈ cm := by
  simp only [eA, List.mem_append] at h
  rcases h with h | h
  · by_cases hl : (wrL R n y cm).length = 0
    · rw [hl] at h; simp [eW] at h
    · have := eW_cm h (by omega)
      exact ⟨(List.mem_filter.1 this.1).1, (List.mem_filter.1 this.2).1⟩
  · exact eH_cm h hk
theorem eI_cm {R : Nat → Hp} {n : Nat} {cm : List Int} : ∀ {y : Nat} {e : Ed}, e ∈ eI R n cm y → e.k ≠ 4 → e.f ∈ cm ∧ e.t ∈ cm
  | 0, e, h, _ => by simp [eI] at h
  | y + 1, e, h, hk => by
    simp only [eI, List.mem_append] at h
    rcases h with h | h
    · exact eI_cm h hk
    · exact eA_cm h hk
theorem bad_eq {R : Nat → Hp} {n y : Nat} {e : Ed} (h : hiF R n = 0) (he : e ∈ eI R n (cmL R n) y) : badE R n e = badS R n e := by
  unfold badE badS
  by_cases hk : e.k = 4
  · simp [hk]
  · obtain ⟨hf, ht⟩ := eI_cm he hk
    have pf := plc_cm hf
    have pt := plc_cm ht
    have hle := plc_le R 4 e.f n
    congr 1
    unfold bgA
    rw [plc_hop h (Nat.le_refl _) (.inr rfl) e.f, decide_eq_true pf, Bool.true_and, began_eq h e.t pt _ (by omega), Int.toNat_of_nonneg pf]
theorem soS_eq {R : Nat → Hp} {n M : Nat} (h : hiF R n = 0) : (addAll [] (eI R n (cmL R n) M)).all (fun e => !badS R n e) = soD R n M := by
  unfold soD
  cases hq : (eI R n (cmL R n) M).all fun e => !badE R n e
  · obtain ⟨e, he, hb⟩ := List.all_eq_false.1 hq
    refine List.all_eq_false.2 ⟨e, (addAll_mem _ _ _).2 (.inr he), ?_⟩
    rw [← bad_eq h he]; exact hb
  · refine List.all_eq_true.2 fun e he => ?_
    rcases (addAll_mem _ _ _).1 he with q | q
    · simp at q
    · rw [← bad_eq h q]; exact List.all_eq_true.1 hq e q
set_option maxHeartbeats 4000000 in
theorem specSo_l (M : Nat) (hM : M = 32) (n : Nat) (R : Nat → Hp) (a : Option Addr) (w : World) (hn : n ≤ 1048576) (h : HopsAt w a n R) :
    Calls Try.prog 21 #[.slice a n n] w (BRs (soC R n M) w) := by
  have HX : Hid (HopsAt w a n R) := h
  clear h
  by_cases hc : hsC R n = 0
  case neg =>
    have HE : Hid (soC R n M = false) := by show soC R n M = false; simp [soC, hc]
    have hc2 : (hsC R n != 0) = true := by simp [hc]
    clear hc
    go_enter Try.func21, Try.ntmps21
    go_wp2_with fail
    refine (specHf_any n R a _ hn HX.out).mono ?_
    rintro e w1 ⟨rfl, hb1⟩
    go_wp2_with fail
    go_ret
    exact ⟨ret_bool HE.out.symm, hb1⟩
  have hn4 := hs_few hc
  have hhi : hiF R n = 0 := by rw [← hsC_few hn4]; exact hc
  have HSO : Hid ((addAll [] (eI R n (cmL R n) M)).all (fun e => !badS R n e) = soC R n M) := by show _ = _; rw [soS_eq hhi]; simp [soC, hc]
  have HED : Hid (∀ wv, HopsAt wv a n R → Calls Try.prog 44 #[.slice a n n] wv (ERs (addAll [] (eI R n (cmL R n) M)) wv)) := fun wv h => l11Edges_l M hM n R _ rfl a n wv hn4 hhi h
  have HEN : Hid ((addAll [] (eI R n (cmL R n) M)).length ≤ 38400) := by
    have h1 := addAll_len (eI R n (cmL R n) M) []
    have h2 := eI_len R n (cmL R n) hn4 (Nat.le_trans (cmL_len R n) hn4) M
    simp at h1
    show _ ≤ _
    rw [hM] at h1 h2 ⊢
    omega
  have HPL : Hid (∀ kd t wv, HopsAt wv a n R → Calls Try.prog 45 #[.slice a n n, .int .i64 kd, .int .i64 t] wv fun e w' => e = .returned (.int .i64 (plc R kd t n)) ∧ w' = wv) := fun kd t wv h => l10Place_any n R a n kd t wv hn h
  generalize addAll [] (eI R n (cmL R n) M) = L at *
  clear hhi
  go_enter Try.func21, Try.ntmps21
  go_wp2_with fail
  refine (specHf_any n R a _ hn HX.out).mono ?_
  rintro e w1 ⟨rfl, hb1⟩
  rw [hc]
  clear hc hM
  have HEW := HED.out w1 (HX.out.below hb1)
  go_wp2_with fail
  refine HEW.mono ?_
  clear HEW HED
  rintro e w2 ⟨v, rfl, hb2, ho2⟩
  obtain ⟨ea, ec, rfl⟩ := rowE_slice ho2
  have HB2 : Hid (Below w.heap.size w w2) := below_then hb1 hb2
  have HE2 : Hid (EdsAt w2 ea L) := ownE_at ho2
  clear hb1 hb2 ho2
  go_wp2_with fail
  go_loopw [4, 5] (fun i _ wr => ∃ k : Nat, k ≤ L.length ∧ i = .int .i64 k ∧ Hid (Below w2.heap.size w2 wr) ∧ Hid (∀ i, i < k → badS R n (eE L i) = false)) (fun i _ _ => L.length - (intOf i).toNat)
  case atStart => exact ⟨0, Nat.zero_le _, rfl, Below.refl _ _, fun i hi => by omega⟩
  case round =>
    obtain ⟨k, hk, rfl, HB, HN⟩ := hrel
    have hk9 : k ≤ 38400 := by have := HEN.out; omega
    by_cases hlt : k < L.length
    · have hlt' : (k : Int) < (L.length : Int) := by omega
      have hk0 : (0 : Int) ≤ (k : Int) := by omega
      rcases HE2.out.below HB.out with h | ⟨bb, off, rfl, hbl, hcc⟩
      · rw [h] at hlt; simp at hlt
      obtain ⟨e0, e1, e2⟩ := el_at L k hlt
      have x0 := hcc _ _ e0
      have x1 := hcc _ _ e1
      have x2 := hcc _ _ e2
      rw [← Nat.add_assoc] at x1 x2
      clear hcc e0 e1 e2
      have HY : Hid (badS R n (eE L k) = true → soC R n M = false) := fun q => by
        rw [← HSO.out]
        refine List.all_eq_false.2 ⟨eE L k, eE_mem hlt, by rw [q]; simp⟩
      have HM2 : Hid (badS R n (eE L k) = false → ∀ i, i < k + 1 → badS R n (eE L i) = false) := fun q i hi => by
        by_cases z : i = k
        · subst z; exact q
        · exact HN.out i (by omega)
      have HBS : Hid (badS R n (eE L k) = ((eE L k).k != 4 && decide (plc R 1 (eE L k).t n < plc R 4 (eE L k).f n))) := rfl
      have HBW : Hid (Below w.heap.size w wr) := below_then HB2.out HB.out
      generalize eE L k = x at *
      obtain ⟨y0, y1, y2⟩ := Bx3.new wr x 61
      have HXA : Hid (HopsAt (wr.alloc (.cells #[.int .i64 x.f, .int .i64 x.t, .int .i64 x.k] 61)) a n R) := HX.out.below (below_then HBW.out (below_new _ _))
      have HBA : Hid (Below w2.heap.size w2 (wr.alloc (.cells #[.int .i64 x.f, .int .i64 x.t, .int .i64 x.k] 61))) := below_then HB.out (below_new _ _)
      have HBV : Hid (Below w.heap.size w (wr.alloc (.cells #[.int .i64 x.f, .int .i64 x.t, .int .i64 x.k] 61))) := below_then HBW.out (below_new _ _)
      go_upto_region 8 with fail
      clear x0 x1 x2 HB HBW
      generalize wr.alloc (.cells #[.int .i64 x.f, .int .i64 x.t, .int .i64 x.k] 61) = W at *
      obtain h1 | h1 := boolor (x.k != 4)
      · obtain h2 | h2 := boolor (decide (plc R 1 x.t n < plc R 4 x.f n))
        · have HE : Hid (soC R n M = false) := HY.out (by rw [HBS.out, h1, h2]; rfl)
          clear HY HM2 HBS
          go_quiet (first | (go_at_call 45; exact Calls.quiet_of_same (HPL.out _ _ _ (HXA.out.below (below_drewN (Below.refl _ _) _)))))
          go_wp2_with fail
          go_ret
          exact ⟨ret_bool HE.out.symm, below_drewN HBV.out _⟩
        · have HE : Hid (∀ i, i < k + 1 → badS R n (eE L i) = false) := HM2.out (by rw [HBS.out, h1, h2]; rfl)
          clear HY HM2 HBS
          go_quiet (first | (go_at_call 45; exact Calls.quiet_of_same (HPL.out _ _ _ (HXA.out.below (below_drewN (Below.refl _ _) _)))))
          go_wp2_with fail
          go_roundw
          case rel => exact ⟨k + 1, hlt, by go_num, below_drewN HBA.out _, HE⟩
          case measure => simp [intOf]; omega
      · have HE : Hid (∀ i, i < k + 1 → badS R n (eE L i) = false) := HM2.out (by rw [HBS.out, h1]; rfl)
        clear HY HM2 HBS
        go_quiet (fail)
        go_wp2_with fail
        go_roundw
        case rel => exact ⟨k + 1, hlt, by go_num, below_drewN HBA.out _, HE⟩
        case measure => simp [intOf]; omega
    · have hkn : k = L.length := by omega
      have hnl : ¬ ((k : Int) < (L.length : Int)) := by omega
      have HE : Hid (soC R n M = true) := by
        show soC R n M = true
        rw [← HSO.out]
        refine List.all_eq_true.2 fun e he => ?_
        obtain ⟨i, hi, rfl⟩ := mem_eE he
        rw [HN.out i (by omega)]; rfl
      clear hkn
      go_wp2_with fail
      go_ret
      exact ⟨ret_bool HE.out.symm, below_then HB2.out HB.out⟩
end Go.Proofs.Ytnmmnhfgkcdajaa
