/- HistoryOf: what it answers; both. -/
import Derived.Test.YtdkpchcmjamceaaKz
import Derived.Test.YtdkpchcmjamceaaNc
import Derived.Test.YtdkpchcmjamceaaVj
namespace Go.Proofs.Ytdkpchcmjamceaa
open Go.RowKit Go.Deep
set_option linter.unusedVariables false
set_option maxRecDepth 20000

/-- The chain of a key: how long, its versions. -/
def hkN (E : En) (key : Int) : Nat := if fR E.q E.R key = -1 then 0 else (E.R (fR E.q E.R key).toNat).n
def hiC (E : En) (key : Int) : Int := if eF E = 0 then (if inB key 0 31 = true then 0 else 3) else eF E
def hiN (E : En) (key : Int) : Nat := if hiC E key = 0 then hkN E key else 0
def hiS (E : En) (key : Int) : Nat → Vr := (E.R (fR E.q E.R key).toNat).U
theorem hi_bad {E : En} {key : Int} (h : eF E ≠ 0) : hiC E key = eF E ∧ hiN E key = 0 := by
  have e : hiC E key = eF E := if_neg h
  exact ⟨e, if_neg (by rw [e]; exact h)⟩
theorem hi_key {E : En} {key : Int} (h : eF E = 0) (hk : inB key 0 31 = false) : hiC E key = 3 ∧ hiN E key = 0 := by
  have e : hiC E key = 3 := by unfold hiC; rw [if_pos h, if_neg (by simp [hk])]
  exact ⟨e, if_neg (by rw [e]; omega)⟩
theorem hi_ok {E : En} {key : Int} (h : eF E = 0) (hk : inB key 0 31 = true) : hiC E key = 0 ∧ hiN E key = hkN E key := by
  have e : hiC E key = 0 := by unfold hiC; rw [if_pos h, if_pos hk]
  exact ⟨e, if_pos e⟩
theorem cres_bad {c : Int} {S : Nat → Vr} {w w7 : World} (hb : Below w.heap.size w w7) : CRes c 0 S w (.returned (.agg #[.int .i64 c, .slice none 0 0])) w7 := ⟨none, 0, rfl, hb, Nat.le_refl _, .inl rfl⟩
theorem cres_own {c : Int} {m : Nat} {S : Nat → Vr} {w wz w7 : World} {lo l h cap : Nat} {a : Option Addr} (hb : Below w.heap.size w wz) (h1 : w.heap.size ≤ l) (h2 : h ≤ lo) (h3 : l ≤ h) (ho : Own4 wz lo wz.heap.size a m S) (hw : Writes l h wz w7) (hs : w7.heap.size = wz.heap.size) :
    CRes c m S w (.returned (.agg #[.int .i64 c, .slice a m cap])) w7 :=
  ⟨a, cap, rfl, Writes.below hb hw h1, (ho.writes hw (.inr h2)).wide (by omega) (by omega) (Nat.le_refl _)⟩
set_option maxHeartbeats 8000000 in
theorem specHi_any (E : En) (a : Option Addr) (cap : Nat) (a' : Option Addr) (cap' : Nat) (key : Int) (w : World) (hs : SmallE E) (h : EngAt w a a' E) :
    Calls Try.prog 57 #[.agg #[.int .i64 E.nx, .int .i64 E.ck, .slice a E.p cap, .slice a' E.q cap'], .int .i64 key] w (CRes (hiC E key) (hiN E key) (hiS E key) w) := by
  have HX : Hid (EngAt w a a' E) := h
  have HS : Hid (SmallE E) := hs
  clear h hs
  have HBX : Hid (∀ o1 o2 : Obj, o1 = .cells #[.int .i64 E.nx, .int .i64 E.ck, .slice a E.p cap, .slice a' E.q cap'] 47 → o2 = .cells #[.int .i64 0, .slice none 0 0] 28 →
      Box4 ((w.alloc o1).alloc o2) w.heap.size (.int .i64 E.nx) (.int .i64 E.ck) (.slice a E.p cap) (.slice a' E.q cap') ∧ Box2 ((w.alloc o1).alloc o2) (w.heap.size + 1) (.int .i64 0) (.slice none 0 0) ∧ (∀ i, ((w.alloc o1).alloc o2).frozen? ⟨w.heap.size + 1, i, none⟩ = false) ∧ Below w.heap.size w ((w.alloc o1).alloc o2) ∧ ((w.alloc o1).alloc o2).heap.size = w.heap.size + 2) := by
    rintro o1 o2 rfl rfl
    exact ⟨(Box4.new w _ _ _ _ _).alloc _, by simp [Box2, go_sem], fun i => by simp [go_sem], ((Below.refl _ _).alloc (Nat.le_refl _) _).alloc (by simp) _, by simp⟩
  go_enter Try.func57, Try.ntmps57
  go_wp2_with fail
  obtain ⟨hb4, hb2, hbf, hbw, hbs⟩ := HBX.out _ _ rfl rfl
  refine (l6Fault_any E w.heap.size a cap a' cap' _ HS.out ⟨hb4, HX.out.below hbw⟩).mono ?_
  rintro e w1 ⟨rfl, hb1⟩
  have HB4 : Hid (Box4 w1 w.heap.size (.int .i64 E.nx) (.int .i64 E.ck) (.slice a E.p cap) (.slice a' E.q cap')) := hb4.below hb1
  obtain ⟨r0, r1⟩ := hb2.below hb1
  have rf : ∀ i, w1.frozen? ⟨w.heap.size + 1, i, none⟩ = false := fun i => ((bcell2 hb1).2 _ _ (by rw [hbs]; omega)).trans (hbf i)
  have HB1 : Hid (Below w.heap.size w w1) := below_then hbw hb1
  have hs1 : w.heap.size + 2 ≤ w1.heap.size := by have := hb1.size; rw [hbs] at this; exact this
  clear hb1 hb4 hb2 hbf hbw hbs HBX
  by_cases hc : eF E = 0
  case neg =>
    have hc2 : (eF E != 0) = true := by simp [hc]
    have HF : Hid (∀ w7, Below w.heap.size w w7 → CRes (hiC E key) (hiN E key) (hiS E key) w (.returned (.agg #[.int .i64 (eF E), .slice none 0 0])) w7) := fun w7 hb => by
      rw [(hi_bad hc).1, (hi_bad hc).2]; exact cres_bad hb
    clear hc
    generalize eF E = uu at *
    go_wp2_with fail
    refine bodyPost_ret (v := .agg #[.int .i64 uu, .slice none 0 0]) (by simp [results, Try.results57, go_sem, *]) rfl (HF.out _ ?_)
    repeat (first | with_reducible exact HB1.out | with_reducible refine Below.setCell ?_ (by first | omega | (simp <;> omega)) _)
  obtain hk | hk := bool_or2 (inB key 0 31)
  case inr =>
    have HF : Hid (∀ w7, Below w.heap.size w w7 → CRes (hiC E key) (hiN E key) (hiS E key) w (.returned (.agg #[.int .i64 3, .slice none 0 0])) w7) := fun w7 hb => by
      rw [(hi_key hc hk).1, (hi_key hc hk).2]; exact cres_bad hb
    rw [hc]
    clear hc
    go_wp2_with (first | (go_at_call 85; refine (l1Key_any _ _).mono ?_; rintro e w' ⟨rfl, hw'⟩; rw [hw']; clear hw'))
    refine bodyPost_ret (v := .agg #[.int .i64 3, .slice none 0 0]) (by simp [results, Try.results57, go_sem, *]) rfl (HF.out _ ?_)
    repeat (first | with_reducible exact HB1.out | with_reducible refine Below.setCell ?_ (by first | omega | (simp <;> omega)) _)
  have HR12 : Hid (∀ i, i < E.q → (E.R i).n ≤ 12) := rows12 hc
  have h32 := (eF_pq hc).2
  have HX1 : Hid (EngAt w1 a a' E) := HX.out.below HB1.out
  have HN : Hid (hkN E key = if fR E.q E.R key = -1 then 0 else (E.R (fR E.q E.R key).toNat).n) := rfl
  have HU : Hid (hiS E key = (E.R (fR E.q E.R key).toNat).U) := rfl
  have HOK : Hid (hiC E key = 0 ∧ hiN E key = hkN E key) := hi_ok hc hk
  rw [hc]
  clear hc
  have HRow : Hid (Calls Try.prog 112 #[.pointer (some ⟨w.heap.size, 0, none⟩), .int .i64 key] w1 fun e w' => e = .returned (.int .i64 (fR E.q E.R key)) ∧ w' = w1) := l6Row_any E.q E.R w.heap.size a' cap' key w1 (by omega) HB4.out.2.2.2 HX1.out.2
  obtain ⟨b0, b1, b2, b3⟩ := HB4.out
  rcases fi_cases (fun i => (E.R i).key == key) E.q with ⟨h1, -⟩ | ⟨j, hj, h1, -⟩
  · have h1' : fR E.q E.R key = -1 := h1
    have hN : hkN E key = 0 := by rw [HN.out, if_pos h1']
    have HF : Hid (∀ w7, Below w.heap.size w w7 → CRes (hiC E key) (hiN E key) (hiS E key) w (.returned (.agg #[.int .i64 0, .slice none 0 0])) w7) := fun w7 hb => by
      rw [HOK.out.1, HOK.out.2, hN]; exact cres_bad hb
    clear HN hN h1 HU
    go_wp2_with (first | (go_at_call 85; refine (l1Key_any _ _).mono ?_; rintro e w' ⟨rfl, hw'⟩; rw [hw']; clear hw') | (go_at_call 112; refine Calls.mono HRow.out ?_; rintro e w' ⟨rfl, hw'⟩; rw [hw', h1']; clear hw'))
    refine bodyPost_ret (v := .agg #[.int .i64 0, .slice none 0 0]) (by simp [results, Try.results57, go_sem, *]) rfl (HF.out _ ?_)
    repeat (first | with_reducible exact HB1.out | with_reducible refine Below.setCell ?_ (by first | omega | (simp <;> omega)) _)
  · have h1' : fR E.q E.R key = (j : Int) := h1
    have hN : hkN E key = (E.R j).n := by rw [HN.out, if_neg (by rw [h1']; omega), h1', Int.toNat_natCast]
    have hU : hiS E key = (E.R j).U := by rw [HU.out, h1', Int.toNat_natCast]
    have HO2 : Hid (hiC E key = 0 ∧ hiN E key = (E.R j).n ∧ hiS E key = (E.R j).U) := ⟨HOK.out.1, HOK.out.2.trans hN, hU⟩
    rcases HX1.out.2 with h | ⟨bb, off, rfl, hl, hcc⟩
    · omega
    obtain ⟨ti, tc, ⟨x0, x1⟩, hv, -⟩ := hcc j hj
    have HV : Hid (VersAt w1 ti (E.R j).n (E.R j).U) := hv
    have HJ12 : Hid ((E.R j).n ≤ 12) := HR12.out j hj
    have hj1 : (j : Int) < (E.q : Int) := by omega
    have hj0 : (0 : Int) ≤ (j : Int) := by omega
    clear HN hN hU HU h1 hcc hv HR12 HX1 x0 b0 b1 b2
    generalize E.R j = rw at *
    go_wp2_with (first | (go_at_call 85; refine (l1Key_any _ _).mono ?_; rintro e w' ⟨rfl, hw'⟩; rw [hw']; clear hw') | (go_at_call 112; refine Calls.mono HRow.out ?_; rintro e w' ⟨rfl, hw'⟩; rw [hw', h1']; clear hw'))
    refine (l5Copy_any rw.n rw.U ti tc w1 (by have := HJ12.out; omega) HV.out).mono ?_
    rintro e w3 ⟨ra, rc, rfl, hb3, ho3⟩
    have HF : Hid (∀ w7, Writes (w.heap.size + 1) (w.heap.size + 2) w3 w7 → w7.heap.size = w3.heap.size → CRes (hiC E key) (hiN E key) (hiS E key) w (.returned (.agg #[.int .i64 0, .slice ra rw.n rc])) w7) := fun w7 hw hs7 => by
      rw [HO2.out.1, HO2.out.2.1, HO2.out.2.2]
      exact cres_own (below_then HB1.out hb3) (by omega) hs1 (by omega) ho3 hw hs7
    replace r0 := cell_below r0 hb3
    replace r1 := cell_below r1 hb3
    replace rf : ∀ i, w3.frozen? ⟨w.heap.size + 1, i, none⟩ = false := fun i => ((bcell2 hb3).2 _ _ (by omega)).trans (rf i)
    clear hb3 ho3 b3 x1 hl HRow
    go_wp2_with fail
    refine bodyPost_ret (v := .agg #[.int .i64 0, .slice ra rw.n rc]) (by simp [results, Try.results57, go_sem, *]) rfl ?_
    refine HF.out _ ?_ (by simp [World.setCell])
    repeat (first | with_reducible exact Writes.refl _ _ _ | with_reducible refine Writes.setCell ?_ (by first | omega | (simp <;> omega)) (by first | omega | (simp <;> omega)) _)
/-! ### the program -/
theorem chain_same {E : En} {key : Int} {vn : Nat} {vU : Nat → Vr} (h : (fR E.q E.R key = -1 ∧ vn = 0) ∨ ∃ j, j < E.q ∧ fR E.q E.R key = (j : Int) ∧ vn = (E.R j).n ∧ vU = (E.R j).U) : vn = hkN E key ∧ ∀ i, i < vn → vU i = hiS E key i := by
  rcases h with ⟨h1, rfl⟩ | ⟨j, hj, h1, rfl, rfl⟩
  · exact ⟨(if_pos h1).symm, fun i hi => by omega⟩
  · refine ⟨?_, fun i hi => ?_⟩
    · unfold hkN; rw [if_neg (by rw [h1]; omega), h1, Int.toNat_natCast]
    · unfold hiS; rw [h1, Int.toNat_natCast]
theorem hkN_le {E : En} {key : Int} (hr : ∀ i, i < E.q → (E.R i).n ≤ 12) : hkN E key ≤ 12 := by
  rcases fi_cases (fun i => (E.R i).key == key) E.q with ⟨h1, -⟩ | ⟨j, hj, h1, -⟩
  · have h1' : fR E.q E.R key = -1 := h1
    unfold hkN; rw [if_pos h1']; omega
  · have h1' : fR E.q E.R key = (j : Int) := h1
    unfold hkN; rw [if_neg (by rw [h1']; omega), h1', Int.toNat_natCast]; exact hr j hj
/-- One chain joined: a copy of it. -/
theorem joinedV_one (n : Nat) (R : Nat → Vr) (a : Option Addr) (c g : Nat) (w : World) (hn : n ≤ 12) (hc : w.cell? ⟨g, 0, none⟩ = some (.slice a n c)) (h : VersAt w a n R) :
    Calls Try.prog 69 #[.slice (some ⟨g, 0, none⟩) 1 1] w (VAns n R w) := by
  have hjo : jv (fun _ => n) (fun _ => R) 1 = vL R n := by simp [jv]
  have hj := joined_any 1 (fun _ => a) (fun _ => n) (fun _ => c) (fun _ => R) g 0 1 w (fun i hi => by show n ≤ 100; omega) (Go.block_lt_of_cell hc) (fun i hi => by
    obtain rfl : i = 0 := by omega
    exact ⟨hc, h⟩) (by omega)
  rw [hjo, vL_len] at hj
  refine hj.mono ?_
  rintro e w5 ⟨ra, rcc, rfl, hb5, ho5⟩
  exact ⟨ra, rcc, rfl, hb5, ho5.congr (S := R) (fun i hi => vL_getD hi)⟩
set_option maxHeartbeats 8000000 in
theorem implHi_any (E : En) (a : Option Addr) (cap : Nat) (a' : Option Addr) (cap' : Nat) (key : Int) (w : World) (hs : SmallE E) (h : EngAt w a a' E) :
    Calls Try.prog 58 #[.agg #[.int .i64 E.nx, .int .i64 E.ck, .slice a E.p cap, .slice a' E.q cap'], .int .i64 key] w (CRes (hiC E key) (hiN E key) (hiS E key) w) := by
  have HX : Hid (EngAt w a a' E) := h
  have HS : Hid (SmallE E) := hs
  clear h hs
  have HBX : Hid (∀ o1 o2 : Obj, o1 = .cells #[.int .i64 E.nx, .int .i64 E.ck, .slice a E.p cap, .slice a' E.q cap'] 47 → o2 = .cells #[.int .i64 0, .slice none 0 0] 28 →
      Box4 ((w.alloc o1).alloc o2) w.heap.size (.int .i64 E.nx) (.int .i64 E.ck) (.slice a E.p cap) (.slice a' E.q cap') ∧ Box2 ((w.alloc o1).alloc o2) (w.heap.size + 1) (.int .i64 0) (.slice none 0 0) ∧ (∀ i, ((w.alloc o1).alloc o2).frozen? ⟨w.heap.size + 1, i, none⟩ = false) ∧ Below w.heap.size w ((w.alloc o1).alloc o2) ∧ ((w.alloc o1).alloc o2).heap.size = w.heap.size + 2) := by
    rintro o1 o2 rfl rfl
    exact ⟨(Box4.new w _ _ _ _ _).alloc _, by simp [Box2, go_sem], fun i => by simp [go_sem], ((Below.refl _ _).alloc (Nat.le_refl _) _).alloc (by simp) _, by simp⟩
  go_enter Try.func58, Try.ntmps58
  go_wp2_with fail
  obtain ⟨hb4, hb2, hbf, hbw, hbs⟩ := HBX.out _ _ rfl rfl
  refine (implEf_any E a cap a' cap' _ HS.out (HX.out.below hbw)).mono ?_
  rintro e w1 ⟨rfl, hb1⟩
  have HB4 : Hid (Box4 w1 w.heap.size (.int .i64 E.nx) (.int .i64 E.ck) (.slice a E.p cap) (.slice a' E.q cap')) := hb4.below hb1
  obtain ⟨r0, r1⟩ := hb2.below hb1
  have rf : ∀ i, w1.frozen? ⟨w.heap.size + 1, i, none⟩ = false := fun i => ((bcell2 hb1).2 _ _ (by rw [hbs]; omega)).trans (hbf i)
  have HB1 : Hid (Below w.heap.size w w1) := below_then hbw hb1
  have hs1 : w.heap.size + 2 ≤ w1.heap.size := by have := hb1.size; rw [hbs] at this; exact this
  clear hb1 hb4 hb2 hbf hbw hbs HBX
  by_cases hc : eF E = 0
  case neg =>
    have hc2 : (eF E != 0) = true := by simp [hc]
    have HF : Hid (∀ w7, Below w.heap.size w w7 → CRes (hiC E key) (hiN E key) (hiS E key) w (.returned (.agg #[.int .i64 (eF E), .slice none 0 0])) w7) := fun w7 hb => by
      rw [(hi_bad hc).1, (hi_bad hc).2]; exact cres_bad hb
    clear hc
    generalize eF E = uu at *
    go_wp2_with fail
    refine bodyPost_ret (v := .agg #[.int .i64 uu, .slice none 0 0]) (by simp [results, Try.results58, go_sem, *]) rfl (HF.out _ ?_)
    repeat (first | with_reducible exact HB1.out | with_reducible refine Below.setCell ?_ (by first | omega | (simp <;> omega)) _)
  obtain hk | hk := bool_or2 (inB key 0 31)
  case inr =>
    have HF : Hid (∀ w7, Below w.heap.size w w7 → CRes (hiC E key) (hiN E key) (hiS E key) w (.returned (.agg #[.int .i64 3, .slice none 0 0])) w7) := fun w7 hb => by
      rw [(hi_key hc hk).1, (hi_key hc hk).2]; exact cres_bad hb
    rw [hc]
    clear hc
    go_wp2_with (first | (go_at_call 101; refine (isKey_any _ _).mono ?_; rintro e w' ⟨rfl, hw'⟩; rw [hw']; clear hw'))
    refine bodyPost_ret (v := .agg #[.int .i64 3, .slice none 0 0]) (by simp [results, Try.results58, go_sem, *]) rfl (HF.out _ ?_)
    repeat (first | with_reducible exact HB1.out | with_reducible refine Below.setCell ?_ (by first | omega | (simp <;> omega)) _)
  have HR12 : Hid (∀ i, i < E.q → (E.R i).n ≤ 12) := rows12 hc
  have HSO : Hid (∀ j, j < E.q → ∀ i, i < j → (E.R i).key < (E.R j).key) := keys_rise (eF_good hc).2.2.2
  have h32 := (eF_pq hc).2
  have HX1 : Hid (EngAt w1 a a' E) := HX.out.below HB1.out
  have HOK : Hid (hiC E key = 0 ∧ hiN E key = hkN E key) := hi_ok hc hk
  rw [hc]
  clear hc
  obtain ⟨b0, b1, b2, b3⟩ := HB4.out
  go_wp2_with (first | (go_at_call 101; refine (isKey_any _ _).mono ?_; rintro e w' ⟨rfl, hw'⟩; rw [hw']; clear hw'))
  refine (chainOfKey_any E a cap a' cap' key w1 h32 HSO.out HX1.out).mono ?_
  rintro e w2 ⟨va, vn, vc, vU, rfl, hb2, hvc, hcc⟩
  obtain ⟨hsn, hsu⟩ := chain_same hcc
  have hvn : vn ≤ 12 := by rw [hsn]; exact hkN_le HR12.out
  have HSN : Hid (vn = hkN E key) := hsn
  have HSU : Hid (∀ i, i < vn → vU i = hiS E key i) := hsu
  have HB2 : Hid (Below w.heap.size w w2) := below_then HB1.out hb2
  have HV2 : Hid (∀ o : Obj, VersAt (w2.alloc o) va vn vU) := fun o => (hvc.below hb2).below (below_new _ _)
  replace rf : ∀ i, w2.frozen? ⟨w.heap.size + 1, i, none⟩ = false := fun i => ((bcell2 hb2).2 _ _ (by omega)).trans (rf i)
  replace r0 := cell_below r0 hb2
  replace r1 := cell_below r1 hb2
  have hs2 : w.heap.size + 2 ≤ w2.heap.size := Nat.le_trans hs1 hb2.size
  clear hb2 hvc hcc hsn hsu b0 b1 b2 b3
  go_wp2_with fail
  refine (joinedV_one vn vU va vc w2.heap.size _ hvn (by simp) (HV2.out _)).mono ?_
  rintro e w3 ⟨ra, rc, rfl, hb3, ho3⟩
  rw [World.size_alloc] at ho3
  have hb4 := below_then (below_new _ _) hb3
  have HF : Hid (∀ w7, Writes (w.heap.size + 1) (w.heap.size + 2) w3 w7 → w7.heap.size = w3.heap.size → CRes (hiC E key) (hiN E key) (hiS E key) w (.returned (.agg #[.int .i64 0, .slice ra vn rc])) w7) := fun w7 hw hs7 => by
    rw [HOK.out.1, HOK.out.2, ← HSN.out]
    exact cres_own (below_then HB2.out hb4) (by omega) (Nat.le_succ_of_le hs2) (by omega) (ho3.congr HSU.out) hw hs7
  replace rf : ∀ i, w3.frozen? ⟨w.heap.size + 1, i, none⟩ = false := fun i => ((bcell2 hb4).2 _ _ (by omega)).trans (rf i)
  replace r0 := cell_below r0 hb4
  replace r1 := cell_below r1 hb4
  clear hb3 ho3 hb4 HV2
  go_wp2_with fail
  refine bodyPost_ret (v := .agg #[.int .i64 0, .slice ra vn rc]) (by simp [results, Try.results58, go_sem, *]) rfl ?_
  refine HF.out _ ?_ (by simp [World.setCell])
  repeat (first | with_reducible exact Writes.refl _ _ _ | with_reducible refine Writes.setCell ?_ (by first | omega | (simp <;> omega)) (by first | omega | (simp <;> omega)) _)
end Go.Proofs.Ytdkpchcmjamceaa
