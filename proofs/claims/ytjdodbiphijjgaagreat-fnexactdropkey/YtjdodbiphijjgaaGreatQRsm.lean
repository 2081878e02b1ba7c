/- PutKey, DropKey: what both sides tell; the model's faces. -/
import Derived.Test.YtjdodbiphijjgaaGreatQRsl
import Derived.Test.YtjdodbiphijjgaaGreatQKa
import Derived.Test.YtjdodbiphijjgaaGreatQKc
import Derived.Test.YtjdodbiphijjgaaGreatQNb
import Derived.Test.YtjdodbiphijjgaaGreatQPgk
namespace Go.Proofs.YtjdodbiphijjgaaGreat
open Go.RowKit Go.Deep Go.Shelf
set_option linter.unusedVariables false
set_option linter.unusedSimpArgs false
set_option maxRecDepth 20000

theorem ck_cases (E : En) (key : Int) : (fR E.q E.R key = -1 ∧ ckN E key = 0) ∨ ∃ j, j < E.q ∧ fR E.q E.R key = (j : Int) ∧ ckN E key = (E.R j).n ∧ ckU E key = (E.R j).U := by
  rcases fR_cases E.q E.R key with h | ⟨i, hi, h⟩
  · exact .inl ⟨h, by unfold ckN; rw [h]; rfl⟩
  · refine .inr ⟨i, hi, h, ?_, ?_⟩
    · unfold ckN; rw [h, if_pos (by omega), Int.toNat_natCast]
    · unfold ckU; rw [h, if_pos (by omega), Int.toNat_natCast]
theorem ck_av {E : En} (h0 : eF E = 0) {j : Nat} (hj : j < E.p) (key : Int) : avC (ckN E key) (ckU E key) (E.T j).am (E.T j).id = 0 := by
  have hv := view_ok h0 hj
  have hc : chF (ckN E key) (ckU E key) = 0 := by
    rcases ck_cases E key with ⟨-, h⟩ | ⟨i, hi, -, h1, h2⟩
    · rw [h]; rfl
    · rw [h1, h2]; exact (rF_good ((eF_good h0).2.2.2 i hi)).2.2.1
  unfold avC
  rw [if_pos hc, if_pos hv]
theorem fop_fob {n : Nat} {U : Nat → Vr} {x id : Int} (hm : mayB n U x id = true) : fop n U = fob n U id := by
  unfold fop fob
  by_cases h : 0 < n
  · have hn : ¬ n = 0 := by omega
    unfold mayB at hm
    simp only [hn, decide_false, Bool.false_or] at hm
    by_cases ha : (U 0).a = 0
    · rw [if_pos ha] at hm
      rw [hm, Bool.true_and]
    · have hb : ((U 0).a == 0) = false := by simpa using ha
      rw [hb, Bool.and_false, Bool.and_false, Bool.and_false]
  · rw [show decide (0 < n) = false from decide_eq_false h, Bool.false_and, Bool.false_and]
theorem cw_ww {E : En} (h0 : eF E = 0) {j : Nat} (hj : j < E.p) {key v : Int} {g : Bool} (hv : inB v 0 9999 = true) (hg : g = true → v = 0) :
    cwC E j key v g = (if g = true ∧ rdB E.q E.R (E.T j).am (E.T j).id key = false then 4 else wwC E j key) ∧ (cwC E j key v g = 0 → wrE E j key v g = wwE E j key g v) := by
  have hav := ck_av h0 hj key
  have hse := (seen_rd h0 hj (ck_cases E key)).1
  have hid : (E.T j).id ≠ 0 := by have := id_pos ((eF_good h0).2.2.1 j hj); omega
  have hmw : mwC (ckN E key) (ckU E key) (E.T j).am (E.T j).id = if mayB (ckN E key) (ckU E key) (E.T j).am (E.T j).id = true then 0 else 9 := by unfold mwC; rw [if_pos hav, if_neg hid]
  have hgv : (g && v != 0) = false := by
    cases g with
    | false => rfl
    | true => rw [hg rfl]; rfl
  have hpv : mayB (ckN E key) (ckU E key) (E.T j).am (E.T j).id = true → pvC (ckN E key) (ckU E key) (E.T j).am (E.T j).id g v = if fob (ckN E key) (ckU E key) (E.T j).id = true then 0 else (if ckN E key = 12 then 2 else 0) := fun hm => by
    unfold pvC
    rw [if_pos hav, if_pos hv, hgv, if_neg (by decide), hmw, if_pos hm, if_pos rfl, fop_fob hm]
  have e1 : cwC E j key v g = (if g = true ∧ rdB E.q E.R (E.T j).am (E.T j).id key = false then 4 else wwC E j key) := by
    unfold cwC wwC
    rw [hse, hmw]
    by_cases hm : mayB (ckN E key) (ckU E key) (E.T j).am (E.T j).id = true
    · rw [if_pos hm, hpv hm, if_neg (show ¬ (0 : Int) ≠ 0 by decide), if_pos hm]
      cases hr : rdB E.q E.R (E.T j).am (E.T j).id key <;> cases g <;> simp
    · have hm2 : mayB (ckN E key) (ckU E key) (E.T j).am (E.T j).id = false := by simpa using hm
      rw [hm2]
      cases hr : rdB E.q E.R (E.T j).am (E.T j).id key <;> cases g <;> simp
  refine ⟨e1, fun hc => ?_⟩
  have hw : wwC E j key = 0 := by
    rw [e1] at hc
    split at hc
    · cases hc
    · exact hc
  have hm : mayB (ckN E key) (ckU E key) (E.T j).am (E.T j).id = true := by
    unfold wwC at hw
    split at hw
    · rename_i h; exact h
    · cases hw
  have hp0 : pvC (ckN E key) (ckU E key) (E.T j).am (E.T j).id g v = 0 := by
    rw [hpv hm]
    unfold wwC at hw
    rw [if_pos hm] at hw
    split at hw
    · cases hw
    · exact hw
  have hN : pvN (ckN E key) (ckU E key) (E.T j).am (E.T j).id g v = wwN E j key := by unfold pvN wwN; rw [if_pos hp0, fop_fob hm]
  have hS : pvS (ckN E key) (ckU E key) (E.T j).id g v = wwS E j key g v := by unfold pvS wwS; rw [fop_fob hm]
  unfold wwE wrE wrG
  rw [if_pos hw, hN, hS]
/-- What a write answers is small. -/
theorem ww_n60 {E : En} {j : Nat} {key : Int} (h : wwC E j key = 0) : (E.T j).n ≠ 60 ∧ wwN E j key ≤ 13 ∨ ¬ ckN E key ≤ 12 := by
  by_cases h12 : ckN E key ≤ 12
  · left
    refine ⟨fun e => ?_, ?_⟩
    · unfold wwC at h
      split at h
      · first | (rw [if_pos e] at h; cases h) | cases h
      · cases h
    · unfold wwN; split <;> omega
  · exact .inr h12
theorem smf_fewW (f : Nat → Nat) (c : Nat) : ∀ n, (∀ i, i < n → f i ≤ c) → smf f n ≤ n * c
  | 0, _ => Nat.zero_le _
  | n + 1, h => by
    have h1 := smf_fewW f c n fun i hi => h i (by omega)
    have h2 := h n (by omega)
    have e : smf f (n + 1) = smf f n + f n := rfl
    rw [e, Nat.succ_mul]
    omega
theorem small_fewW {E : En} (h1 : E.p ≤ 20) (h2 : E.q ≤ 33) (h3 : ∀ i, i < E.p → (E.T i).n ≤ 60) (h4 : ∀ i, i < E.q → (E.R i).n ≤ 13) : SmallE E := by
  have g1 := smf_fewW (fun i => (E.T i).n) 60 E.p h3
  have g2 := smf_fewW (fun i => (E.R i).n) 13 E.q h4
  have g3 : E.p * 60 ≤ 20 * 60 := Nat.mul_le_mul_right _ h1
  have g4 : E.q * 13 ≤ 33 * 13 := Nat.mul_le_mul_right _ h2
  exact ⟨by omega, by omega, fun i hi => by have := h3 i hi; omega, fun i hi => by have := h4 i hi; omega, by unfold smTx; omega, by unfold smRw; omega⟩
theorem zEn_smallW : SmallE zEn := small_fewW (by show 0 ≤ 20; omega) (by show 0 ≤ 33; omega) (fun i hi => by simp [zEn] at hi) (fun i hi => by simp [zEn] at hi)
theorem wr_small {E : En} {j : Nat} {key : Int} {m : Nat} {S : Nat → Vr} (h0 : eF E = 0) (hj : j < E.p) (hn : (E.T j).n ≠ 60) (hm : m ≤ 13) : SmallE (wrG E j key m S) := by
  have hb := eF_pq h0
  have hle : (rwL E).length = E.q := by simp [rwL]
  have hlen : (wrL E key m S).length ≤ 33 := by
    unfold wrL skL
    simp only [List.length_append, List.length_cons, List.length_take, List.length_drop]
    split <;> omega
  refine small_fewW hb.1 hlen (fun i hi => ?_) (fun i hi => ?_)
  · show (upf E.T j _ i).n ≤ 60
    by_cases e : i = j
    · subst e
      rw [upf_eq]
      have := undos60 h0 i hj
      show (E.T i).n + 1 ≤ 60
      omega
    · rw [upf_ne _ _ e]
      exact undos60 h0 i hi
  · have hi2 : i < (wrL E key m S).length := hi
    show ((wrL E key m S).getD i zRw).n ≤ 13
    rw [List.getD_eq_getElem?_getD, List.getElem?_eq_getElem hi2]
    show ((wrL E key m S)[i]).n ≤ 13
    have hmem := List.getElem_mem hi2
    generalize (wrL E key m S)[i] = r at hmem ⊢
    unfold wrL skL at hmem
    have h12 : ∀ r ∈ rwL E, r.n ≤ 12 := fun r hr => by
      obtain ⟨k, hk, rfl⟩ := List.mem_map.1 hr
      exact rows12 h0 k (List.mem_range.1 hk)
    rcases List.mem_append.1 hmem with h | h
    · have := h12 r (List.mem_of_mem_take h); omega
    · rcases List.mem_cons.1 h with rfl | h
      · exact hm
      · have := h12 r (List.mem_of_mem_drop h); omega
theorem wc_small (E : En) (id key v : Int) (g : Bool) (hg : g = true → v = 0) : SmallE (wcE E id key v g) := by
  unfold wcE
  split
  · rename_i hc
    unfold wcC at hc
    split at hc
    · rename_i ha
      split at hc
      · split at hc
        · rename_i hv
          obtain ⟨h0, j, hj, hp, -⟩ := ask_open ha
          rw [hp, Int.toNat_natCast] at hc ⊢
          have h1 := cw_ww (key := key) h0 hj hv hg
          rw [h1.2 hc]
          have hw : wwC E j key = 0 := by
            have h2 := h1.1
            rw [hc] at h2
            split at h2
            · cases h2
            · exact h2.symm
          unfold wwE
          rw [if_pos hw]
          have h12 : ckN E key ≤ 12 := by
            rcases ck_cases E key with ⟨-, h⟩ | ⟨i, hi, -, h, -⟩
            · omega
            · rw [h]; exact rows12 h0 i hi
          rcases ww_n60 hw with h3 | h3
          · exact wr_small h0 hj h3.1 h3.2
          · exact absurd h12 h3
        · cases hc
      · cases hc
    · rename_i ha; exact absurd hc ha
  · exact zEn_smallW
theorem l6Write_any (E : En) (a : Option Addr) (cap : Nat) (a' : Option Addr) (cap' : Nat) (j : Nat) (key v : Int) (g : Bool) (w : World) (h0 : eF E = 0) (hj : j < E.p) (h : EngAt w a a' E) :
    Calls Tryz.prog 63 #[.agg #[.int .i64 E.nx, .int .i64 E.ck, .slice a E.p cap, .slice a' E.q cap'], .int .i64 j, .int .i64 key, .bool g, .int .i64 v] w (ERes2 (wwC E j key) 0 (wwE E j key g v) w) := by
  have hid : (E.T j).id ≠ 0 := by have := id_pos ((eF_good h0).2.2.1 j hj); omega
  cases hF : plF E.q E.R key (plN E.R key E.q) with
  | false => exact l6Write_new E a cap a' cap' j key v g w h0 hj hid hF h
  | true => exact l6Write_old E a cap a' cap' j key v g w h0 hj hid hF h
set_option maxHeartbeats 16000000 in
theorem specPk_any (E : En) (a : Option Addr) (cap : Nat) (a' : Option Addr) (cap' : Nat) (id key v : Int) (w : World) (hs : SmallE E) (h : EngAt w a a' E) :
    Calls Tryz.prog 10 #[.agg #[.int .i64 E.nx, .int .i64 E.ck, .slice a E.p cap, .slice a' E.q cap'], .int .i64 id, .int .i64 key, .int .i64 v] w (ERes2 (wcC E id key v false) 0 (wcE E id key v false) w) := by
  have HXA : Hid (EngAt w a a' E) := h
  have HS : Hid (SmallE E) := hs
  clear h hs
  have HBX : Hid (∀ o1 o2 : Obj, o1 = .cells #[.int .i64 E.nx, .int .i64 E.ck, .slice a E.p cap, .slice a' E.q cap'] 30 → o2 = .cells #[.int .i64 0, .int .i64 0, .int .i64 0, .int .i64 0, .slice none 0 0, .slice none 0 0] 32 →
      Box4 ((w.alloc o1).alloc o2) w.heap.size (.int .i64 E.nx) (.int .i64 E.ck) (.slice a E.p cap) (.slice a' E.q cap') ∧ Box6 ((w.alloc o1).alloc o2) (w.heap.size + 1) (.int .i64 0) (.int .i64 0) (.int .i64 0) (.int .i64 0) (.slice none 0 0) (.slice none 0 0) ∧ (∀ i, ((w.alloc o1).alloc o2).frozen? ⟨w.heap.size + 1, i, none⟩ = false) ∧ Below w.heap.size w ((w.alloc o1).alloc o2) ∧ ((w.alloc o1).alloc o2).heap.size = w.heap.size + 2) := by
    rintro o1 o2 rfl rfl
    exact ⟨(Box4.new w _ _ _ _ _).alloc _, by simp [Box6, go_sem], fun i => by simp [go_sem], ((Below.refl _ _).alloc (Nat.le_refl _) _).alloc (by simp) _, by simp⟩
  go_enter Tryz.func10, Tryz.ntmps10
  go_wp2_with fail
  obtain ⟨hb4, hb2, hbf, hbw, hbs⟩ := HBX.out _ _ rfl rfl
  refine (l6Asked_any E w.heap.size a cap a' cap' id _ HS.out ⟨hb4, HXA.out.below hbw⟩).mono ?_
  rintro e W ⟨rfl, hb1⟩
  have HB4 : Hid (Box4 W w.heap.size (.int .i64 E.nx) (.int .i64 E.ck) (.slice a E.p cap) (.slice a' E.q cap')) := hb4.below hb1
  have HR6 : Hid (Box6 W (w.heap.size + 1) (.int .i64 0) (.int .i64 0) (.int .i64 0) (.int .i64 0) (.slice none 0 0) (.slice none 0 0)) := hb2.below hb1
  have HRF : Hid (∀ i, W.frozen? ⟨w.heap.size + 1, i, none⟩ = false) := fun i => ((bcell2 hb1).2 _ _ (by rw [hbs]; omega)).trans (hbf i)
  have HBW : Hid (Below w.heap.size w W) := below_then hbw hb1
  have hs1 : w.heap.size + 2 ≤ W.heap.size := by have := hb1.size; rw [hbs] at this; exact this
  clear hb1 hb4 hb2 hbf hbw hbs HBX
  by_cases hc : askC E id = 0
  case neg =>
    have HF : Hid (∀ w7, Below w.heap.size w w7 → ERes2 (wcC E id key v false) 0 (wcE E id key v false) w (.returned (.agg #[.int .i64 (askC E id), .int .i64 0, .int .i64 0, .int .i64 0, .slice none 0 0, .slice none 0 0])) w7) := fun w7 hb => by
      have hC : wcC E id key v false = askC E id := if_neg hc
      rw [wc_bad hC hc, hC]; exact eres_bad2 hb
    have hc2 : (askC E id != 0) = true := by simp [hc]
    clear hc
    generalize askC E id = uu at *
    generalize askP E id = up at *
    go_wp2_with fail
    refine (l6Bad_any uu _).mono ?_
    rintro e w9 ⟨rfl, hb9⟩
    have HB9 : Hid (Below w.heap.size w w9) := below_then HBW.out hb9
    obtain ⟨r0, r1, r2, r3, r4, r5⟩ := (HR6.out.below (Below.refl _ _)).below hb9
    have rf : ∀ i, w9.frozen? ⟨w.heap.size + 1, i, none⟩ = false := fun i => ((bcell2 hb9).2 _ _ (HR6.out.below (Below.refl _ _)).lt).trans (((bcell2 (Below.refl _ _)).2 _ _ HR6.out.lt).trans (HRF.out i))
    clear hb9
    go_wp2_with fail
    refine bodyPost_ret (v := .agg #[.int .i64 uu, .int .i64 0, .int .i64 0, .int .i64 0, .slice none 0 0, .slice none 0 0]) (by simp [results, Tryz.results10, go_sem, *]) rfl ?_
    refine HF.out _ ?_
    repeat (first | with_reducible exact HB9.out | with_reducible refine Below.setCell ?_ (by first | omega | (simp <;> omega)) _)
  obtain ⟨h0, j, hj, hp, hid⟩ := ask_open hc
  have HEX : Hid (EngAt W a a' E) := HXA.out.below HBW.out
  have HH0 : Hid (eF E = 0) := h0
  have HHC : Hid (askC E id = 0) := hc
  have HHP : Hid ((askP E id).toNat = j) := by rw [Hid, hp, Int.toNat_natCast]
  have hq32 := (eF_pq h0).2
  have HR12 : Hid (∀ i, i < E.q → (E.R i).n ≤ 12) := rows12 h0
  have hj1 : (j : Int) < (E.p : Int) := by omega
  have hj0 : (0 : Int) ≤ (j : Int) := by omega
  obtain ⟨b0, b1, b2, b3⟩ := HB4.out
  rw [hc, hp]
  clear hc hp h0 hid
  go_wp2_with fail
  refine (l1Key_any key _).mono ?_
  rintro e W2 ⟨rfl, hw2⟩
  obtain rfl := hw2.symm
  rcases (bool_orW (inB key 0 31)).symm with hk | hk
  · rw [hk]
    have HF : Hid (∀ w7, Below w.heap.size w w7 → ERes2 (wcC E id key v false) 0 (wcE E id key v false) w (.returned (.agg #[.int .i64 3, .int .i64 0, .int .i64 0, .int .i64 0, .slice none 0 0, .slice none 0 0])) w7) := fun w7 hb => by
      have hC : wcC E id key v false = 3 := by unfold wcC; rw [if_pos HHC.out, hk, if_neg (by decide)]
      rw [wc_bad hC (by first | decide | assumption), hC]; exact eres_bad2 hb
    clear hk
    go_wp2_with fail
    refine (l6Bad_any 3 _).mono ?_
    rintro e w9 ⟨rfl, hb9⟩
    have HB9 : Hid (Below w.heap.size w w9) := below_then HBW.out hb9
    obtain ⟨r0, r1, r2, r3, r4, r5⟩ := (HR6.out.below (Below.refl _ _)).below hb9
    have rf : ∀ i, w9.frozen? ⟨w.heap.size + 1, i, none⟩ = false := fun i => ((bcell2 hb9).2 _ _ (HR6.out.below (Below.refl _ _)).lt).trans (((bcell2 (Below.refl _ _)).2 _ _ HR6.out.lt).trans (HRF.out i))
    clear hb9
    go_wp2_with fail
    refine bodyPost_ret (v := .agg #[.int .i64 3, .int .i64 0, .int .i64 0, .int .i64 0, .slice none 0 0, .slice none 0 0]) (by simp [results, Tryz.results10, go_sem, *]) rfl ?_
    refine HF.out _ ?_
    repeat (first | with_reducible exact HB9.out | with_reducible refine Below.setCell ?_ (by first | omega | (simp <;> omega)) _)
  have HKY : Hid (inB key 0 31 = true) := hk
  rw [hk]
  clear hk
  go_wp2_with fail
  refine (l1Value_any v _).mono ?_
  rintro e W2 ⟨rfl, hw2⟩
  obtain rfl := hw2.symm
  rcases (bool_orW (inB v 0 9999)).symm with hk | hk
  · rw [hk]
    have HF : Hid (∀ w7, Below w.heap.size w w7 → ERes2 (wcC E id key v false) 0 (wcE E id key v false) w (.returned (.agg #[.int .i64 3, .int .i64 0, .int .i64 0, .int .i64 0, .slice none 0 0, .slice none 0 0])) w7) := fun w7 hb => by
      have hC : wcC E id key v false = 3 := by unfold wcC; rw [if_pos HHC.out, HKY.out, if_pos rfl, hk, if_neg (by decide)]
      rw [wc_bad hC (by first | decide | assumption), hC]; exact eres_bad2 hb
    clear hk
    go_wp2_with fail
    refine (l6Bad_any 3 _).mono ?_
    rintro e w9 ⟨rfl, hb9⟩
    have HB9 : Hid (Below w.heap.size w w9) := below_then HBW.out hb9
    obtain ⟨r0, r1, r2, r3, r4, r5⟩ := (HR6.out.below (Below.refl _ _)).below hb9
    have rf : ∀ i, w9.frozen? ⟨w.heap.size + 1, i, none⟩ = false := fun i => ((bcell2 hb9).2 _ _ (HR6.out.below (Below.refl _ _)).lt).trans (((bcell2 (Below.refl _ _)).2 _ _ HR6.out.lt).trans (HRF.out i))
    clear hb9
    go_wp2_with fail
    refine bodyPost_ret (v := .agg #[.int .i64 3, .int .i64 0, .int .i64 0, .int .i64 0, .slice none 0 0, .slice none 0 0]) (by simp [results, Tryz.results10, go_sem, *]) rfl ?_
    refine HF.out _ ?_
    repeat (first | with_reducible exact HB9.out | with_reducible refine Below.setCell ?_ (by first | omega | (simp <;> omega)) _)
  have HCW := cw_ww (key := key) (v := v) (g := false) HH0.out hj hk (fun h => by cases h)
  have HEQ : Hid (wcC E id key v false = wwC E j key ∧ wcE E id key v false = wwE E j key false v) := by
    have e1 : wcC E id key v false = cwC E j key v false := by unfold wcC; rw [if_pos HHC.out, HKY.out, if_pos rfl, hk, if_pos rfl, HHP.out]
    have e2 : cwC E j key v false = wwC E j key := by rw [HCW.1, if_neg (by simp)]
    refine ⟨e1.trans e2, ?_⟩
    unfold wcE
    rw [e1, HHP.out]
    by_cases hz : cwC E j key v false = 0
    · rw [if_pos hz, HCW.2 hz]
    · rw [if_neg hz]; unfold wwE; rw [if_neg (by rw [← e2]; exact hz)]
  rw [hk]
  clear hk HCW
  go_wp2_with fail
  refine (l6Write_any E a cap a' cap' j key v false _ HH0.out hj HEX.out).mono ?_
  rintro e w8 ⟨a2, c2, a3, c3, rfl, hb8, hown⟩
  have hs6 : w.heap.size + 2 ≤ W.heap.size := by exact hs1
  have HF : Hid (∀ w7, Writes (w.heap.size + 1) (w.heap.size + 2) w8 w7 → w7.heap.size = w8.heap.size → ERes2 (wcC E id key v false) 0 (wcE E id key v false) w (.returned (.agg #[.int .i64 (wwC E j key), .int .i64 0, .int .i64 (wwE E j key false v).nx, .int .i64 (wwE E j key false v).ck, .slice a2 (wwE E j key false v).p c2, .slice a3 (wwE E j key false v).q c3])) w7) := fun w7 hw hz => by
    rw [HEQ.out.1, HEQ.out.2]
    refine ⟨a2, c2, a3, c3, rfl, Writes.below (below_then HBW.out hb8) hw (by omega), ?_⟩
    exact eres_wide (hown.writes hw (.inr (by omega))) (by omega) (by have := hw.size; omega) (Nat.le_refl _)
  obtain ⟨r0, r1, r2, r3, r4, r5⟩ := HR6.out.below hb8
  have rf : ∀ i, w8.frozen? ⟨w.heap.size + 1, i, none⟩ = false := fun i => ((bcell2 hb8).2 _ _ HR6.out.lt).trans (HRF.out i)
  clear hb8 hown b0 b1 b2 b3
  generalize wwE E j key false v = GE at *
  generalize wwC E j key = c at *
  go_wp2_with fail
  refine bodyPost_ret (v := .agg #[.int .i64 c, .int .i64 0, .int .i64 GE.nx, .int .i64 GE.ck, .slice a2 GE.p c2, .slice a3 GE.q c3]) (by simp [results, Tryz.results10, go_sem, *]) rfl ?_
  refine HF.out _ ?_ (by simp [World.setCell])
  repeat (first | with_reducible exact Writes.refl _ _ _ | with_reducible refine Writes.setCell ?_ (by first | omega | (simp <;> omega)) (by first | omega | (simp <;> omega)) _)
end Go.Proofs.YtjdodbiphijjgaaGreat
