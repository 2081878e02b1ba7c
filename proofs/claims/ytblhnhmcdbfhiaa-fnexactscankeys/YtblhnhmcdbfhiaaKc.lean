/- Both ReadKeys. -/
import Derived.Test.YtblhnhmcdbfhiaaKb
namespace Go.Proofs.Ytblhnhmcdbfhiaa
open Go.RowKit Go.Deep
set_option linter.unusedVariables false
set_option maxRecDepth 20000

theorem eF_good {E : En} (h : eF E = 0) : (1 ≤ E.nx ∧ E.nx ≤ 999) ∧ (0 ≤ E.ck ∧ E.ck ≤ 1000000) ∧ (∀ i, i < E.p → tF E.nx E.ck E.T i = 0) ∧ (∀ i, i < E.q → rF E.ck E.p E.T E.R i = 0) := by
  unfold eF at h
  split at h
  · omega
  · rename_i h1
    split at h
    · omega
    · split at h
      · rename_i h2
        split at h
        · rename_i h3
          have hn : inB E.nx 1 999 = true := by
            cases e : inB E.nx 1 999 with
            | true => rfl
            | false => exact absurd (.inl e) h1
          have hk : inB E.ck 0 1000000 = true := by
            cases e : inB E.ck 0 1000000 with
            | true => rfl
            | false => exact absurd (.inr e) h1
          exact ⟨inB_iff.1 hn, inB_iff.1 hk, fun i hi => ffz_zero h2 i hi, fun i hi => ffz_zero h3 i hi⟩
        · rename_i h3; exact absurd h h3
      · rename_i h2; exact absurd h h2
theorem view_ok {E : En} (h : eF E = 0) {j : Nat} (hj : j < E.p) : vwB (E.T j).am (E.T j).id = true := by
  obtain ⟨h1, h2, h3, -⟩ := eF_good h
  have hi := (tF_good (h3 j hj)).1
  unfold tIn at hi
  simp only [Bool.and_eq_true] at hi
  have a1 := inB_iff.1 hi.1.1.1
  have a2 := inB_iff.1 hi.1.1.2
  unfold vwB
  rw [inB_iff.2 (show 0 ≤ (E.T j).am ∧ (E.T j).am ≤ 1000000 by omega), inB_iff.2 (show 0 ≤ (E.T j).id ∧ (E.T j).id ≤ 999 by omega)]
  rfl
theorem rows12 {E : En} (h : eF E = 0) : ∀ i, i < E.q → (E.R i).n ≤ 12 := fun i hi => (chF_good (rF_good ((eF_good h).2.2.2 i hi)).2.2.1).1
theorem undos60 {E : En} (h : eF E = 0) : ∀ i, i < E.p → (E.T i).n ≤ 60 := fun i hi => usF_le (tF_good ((eF_good h).2.2.1 i hi)).2.2.2.2
theorem ask_open {E : En} {id : Int} (h : askC E id = 0) : eF E = 0 ∧ ∃ j, j < E.p ∧ askP E id = (j : Int) ∧ (E.T j).id = id := by
  have h0 : eF E = 0 := by
    by_cases e : eF E = 0
    · exact e
    · rw [(ask_bad (id := id) e).1] at h; exact absurd h e
  refine ⟨h0, ?_⟩
  rcases fT_cases E id with h1 | ⟨j, hj, h1, h2⟩
  · rw [(ask_none h0 h1).1] at h; cases h
  · refine ⟨j, hj, ?_, h2⟩
    unfold askP
    rw [if_pos h, h1]
/-- What ReadKey answers. -/
def rkC (E : En) (id key : Int) : Int := if askC E id = 0 then (if inB key 0 31 = true then (if rdB E.q E.R (E.T (askP E id).toNat).am (E.T (askP E id).toNat).id key = true then 0 else 4) else 3) else askC E id
def rkV (E : En) (id key : Int) : Int := if askC E id = 0 then (if inB key 0 31 = true then rdV E.q E.R (E.T (askP E id).toNat).am (E.T (askP E id).toNat).id key else 0) else 0
theorem rk_bad {E : En} {id key : Int} (h : askC E id ≠ 0) : rkC E id key = askC E id ∧ rkV E id key = 0 := ⟨if_neg h, if_neg h⟩
theorem rk_key {E : En} {id key : Int} (h : askC E id = 0) (hk : inB key 0 31 = false) : rkC E id key = 3 ∧ rkV E id key = 0 := by
  constructor
  · unfold rkC; rw [if_pos h, if_neg (by simp [hk])]
  · unfold rkV; rw [if_pos h, if_neg (by simp [hk])]
theorem rk_ok {E : En} {id key : Int} {j : Nat} (h : askC E id = 0) (hk : inB key 0 31 = true) (hj : askP E id = (j : Int)) : (rkC E id key = if rdB E.q E.R (E.T j).am (E.T j).id key = true then 0 else 4) ∧ rkV E id key = rdV E.q E.R (E.T j).am (E.T j).id key := by
  constructor
  · unfold rkC; rw [if_pos h, if_pos hk, hj, Int.toNat_natCast]
  · unfold rkV; rw [if_pos h, if_pos hk, hj, Int.toNat_natCast]
theorem rdV_0 {q : Nat} {R : Nat → Rw} {x o key : Int} (h : rdB q R x o key = false) : rdV q R x o key = 0 := if_neg (by simp [h])
set_option maxHeartbeats 4000000 in
theorem specRk_any (E : En) (a : Option Addr) (cap : Nat) (a' : Option Addr) (cap' : Nat) (id key : Int) (w : World) (hs : SmallE E) (h : EngAt w a a' E) :
    Calls Try.prog 43 #[.agg #[.int .i64 E.nx, .int .i64 E.ck, .slice a E.p cap, .slice a' E.q cap'], .int .i64 id, .int .i64 key] w fun e w' => e = .returned (.agg #[.int .i64 (rkC E id key), .int .i64 (rkV E id key)]) ∧ Below w.heap.size w w' := by
  have HX : Hid (EngAt w a a' E) := h
  have HS : Hid (SmallE E) := hs
  clear h hs
  have HBX : Hid (∀ o1 o2 : Obj, o1 = .cells #[.int .i64 E.nx, .int .i64 E.ck, .slice a E.p cap, .slice a' E.q cap'] 47 → o2 = .cells #[.int .i64 0, .int .i64 0] 72 →
      Box4 ((w.alloc o1).alloc o2) w.heap.size (.int .i64 E.nx) (.int .i64 E.ck) (.slice a E.p cap) (.slice a' E.q cap') ∧ Box2 ((w.alloc o1).alloc o2) (w.heap.size + 1) (.int .i64 0) (.int .i64 0) ∧ (∀ i, ((w.alloc o1).alloc o2).frozen? ⟨w.heap.size + 1, i, none⟩ = false) ∧ Below w.heap.size w ((w.alloc o1).alloc o2) ∧ ((w.alloc o1).alloc o2).heap.size = w.heap.size + 2) := by
    rintro o1 o2 rfl rfl
    exact ⟨(Box4.new w _ _ _ _ _).alloc _, by simp [Box2, go_sem], fun i => by simp [go_sem], ((Below.refl _ _).alloc (Nat.le_refl _) _).alloc (by simp) _, by simp⟩
  go_enter Try.func43, Try.ntmps43
  go_wp2_with fail
  obtain ⟨hb4, hb2, hbf, hbw, hbs⟩ := HBX.out _ _ rfl rfl
  refine (l6Asked_any E w.heap.size a cap a' cap' id _ HS.out ⟨hb4, HX.out.below hbw⟩).mono ?_
  rintro e w1 ⟨rfl, hb1⟩
  have HB4 : Hid (Box4 w1 w.heap.size (.int .i64 E.nx) (.int .i64 E.ck) (.slice a E.p cap) (.slice a' E.q cap')) := hb4.below hb1
  obtain ⟨r0, r1⟩ := hb2.below hb1
  have rf : ∀ i, w1.frozen? ⟨w.heap.size + 1, i, none⟩ = false := fun i => ((bcell2 hb1).2 _ _ (by rw [hbs]; omega)).trans (hbf i)
  have HB1 : Hid (Below w.heap.size w w1) := below_then hbw hb1
  have hs1 : w.heap.size + 2 ≤ w1.heap.size := by have := hb1.size; rw [hbs] at this; exact this
  clear hb1 hb4 hb2 hbf hbw hbs HBX
  by_cases hc : askC E id = 0
  case neg =>
    have HE : Hid (rkC E id key = askC E id ∧ rkV E id key = 0) := rk_bad hc
    have hc2 : (askC E id != 0) = true := by simp [hc]
    clear hc
    generalize askC E id = uu at *
    generalize askP E id = up at *
    go_wp2_with fail
    refine bodyPost_ret (v := .agg #[.int .i64 uu, .int .i64 0]) (by simp [results, Try.results43, go_sem, *]) rfl ⟨by rw [HE.out.1, HE.out.2], ?_⟩
    repeat (first | with_reducible exact HB1.out | with_reducible refine Below.setCell ?_ (by first | omega | (simp <;> omega)) _)
  obtain ⟨h0, j, hj, hp, -⟩ := ask_open hc
  obtain hk | hk := bool_or2 (inB key 0 31)
  case inr =>
    have HE : Hid (rkC E id key = 3 ∧ rkV E id key = 0) := rk_key hc hk
    rw [hc, hp]
    clear hc hp
    go_wp2_with (first | (go_at_call 79; refine (l1Key_any _ _).mono ?_; rintro e w' ⟨rfl, hw'⟩; rw [hw']; clear hw'))
    refine bodyPost_ret (v := .agg #[.int .i64 3, .int .i64 0]) (by simp [results, Try.results43, go_sem, *]) rfl ⟨by rw [HE.out.1, HE.out.2], ?_⟩
    repeat (first | with_reducible exact HB1.out | with_reducible refine Below.setCell ?_ (by first | omega | (simp <;> omega)) _)
  have HE : Hid ((rkC E id key = if rdB E.q E.R (E.T j).am (E.T j).id key = true then 0 else 4) ∧ rkV E id key = rdV E.q E.R (E.T j).am (E.T j).id key) := rk_ok hc hk hp
  have HR12 : Hid (∀ i, i < E.q → (E.R i).n ≤ 12) := rows12 h0
  have h32 := (eF_pq h0).2
  have hp20 := (eF_pq h0).1
  have HX1 : Hid (EngAt w1 a a' E) := HX.out.below HB1.out
  rw [hc, hp]
  rcases HX1.out.1 with h | ⟨bb, off, rfl, hl, hcc⟩
  · omega
  obtain ⟨ti, tc, hCT, -, -⟩ := hcc j hj
  have HCT : Hid (CTx w1 bb (off + j * 5) (E.T j) ti tc) := hCT
  have hj1 : (j : Int) < (E.p : Int) := by omega
  have hj0 : (0 : Int) ≤ (j : Int) := by omega
  obtain ⟨b0, b1, b2, b3⟩ := HB4.out
  clear hc hp h0 hcc hCT b0 b1 b3
  go_wp2_with (first | (go_at_call 79; refine (l1Key_any _ _).mono ?_; rintro e w' ⟨rfl, hw'⟩; rw [hw']; clear hw'))
  refine (l6View_any (E.T j) bb (off + j * 5) ti tc w1 HCT.out).mono ?_
  rintro e w2 ⟨rfl, hb2⟩
  have HB2 : Hid (Below w.heap.size w w2) := below_then HB1.out hb2
  have HX2 : Hid (EBox w2 w.heap.size (some ⟨bb, off, none⟩) cap a' cap' E) := ⟨HB4.out.below hb2, HX1.out.below hb2⟩
  replace r0 := cell_below r0 hb2
  replace r1 := cell_below r1 hb2
  replace rf : ∀ i, w2.frozen? ⟨w.heap.size + 1, i, none⟩ = false := fun i => ((bcell2 hb2).2 _ _ (by omega)).trans (rf i)
  have hs2 : w.heap.size + 2 ≤ w2.heap.size := Nat.le_trans hs1 hb2.size
  clear hb2 b2 HB1 HX1 HB4 HCT
  go_wp2_with fail
  refine (l6Read_any E w.heap.size _ cap a' cap' (E.T j).am (E.T j).id key w2 h32 HR12.out HX2.out).mono ?_
  rintro e w3 ⟨rfl, hb3⟩
  have HB3 : Hid (Below w.heap.size w w3) := below_then HB2.out hb3
  replace r0 := cell_below r0 hb3
  replace r1 := cell_below r1 hb3
  replace rf : ∀ i, w3.frozen? ⟨w.heap.size + 1, i, none⟩ = false := fun i => ((bcell2 hb3).2 _ _ (by omega)).trans (rf i)
  clear hb3 HB2 HX2
  obtain hb | hb := bool_or2 (rdB E.q E.R (E.T j).am (E.T j).id key)
  · have HE2 : Hid (rkC E id key = 0 ∧ rkV E id key = rdV E.q E.R (E.T j).am (E.T j).id key) := ⟨HE.out.1.trans (if_pos hb), HE.out.2⟩
    rw [hb]
    clear HE hb
    generalize rdV E.q E.R (E.T j).am (E.T j).id key = vv at *
    go_wp2_with fail
    refine bodyPost_ret (v := .agg #[.int .i64 0, .int .i64 vv]) (by simp [results, Try.results43, go_sem, *]) rfl ⟨by rw [HE2.out.1, HE2.out.2], ?_⟩
    repeat (first | with_reducible exact HB3.out | with_reducible refine Below.setCell ?_ (by first | omega | (simp <;> omega)) _)
  · have HE2 : Hid (rkC E id key = 4 ∧ rkV E id key = 0) := ⟨HE.out.1.trans (if_neg (by simp [hb])), HE.out.2.trans (rdV_0 hb)⟩
    rw [hb]
    clear HE hb
    generalize rdV E.q E.R (E.T j).am (E.T j).id key = vv at *
    go_wp2_with fail
    refine bodyPost_ret (v := .agg #[.int .i64 4, .int .i64 0]) (by simp [results, Try.results43, go_sem, *]) rfl ⟨by rw [HE2.out.1, HE2.out.2], ?_⟩
    repeat (first | with_reducible exact HB3.out | with_reducible refine Below.setCell ?_ (by first | omega | (simp <;> omega)) _)
/-! ### the program -/
theorem viewOf_any (t : Tx) (ai : Option Addr) (ci : Nat) (w : World) :
    Calls Try.prog 98 #[.agg #[.int .i64 t.id, .int .i64 t.am, .int .i64 t.st, .int .i64 t.dn, .slice ai t.n ci]] w fun e w' => e = .returned (.agg #[.int .i64 t.am, .int .i64 t.id]) ∧ Below w.heap.size w w' := by
  go_enter Try.func98, Try.ntmps98
  go_wp2_with fail
  refine bodyPost_ret (v := .agg #[.int .i64 t.am, .int .i64 t.id]) (by simp [results, Try.results98, go_sem]) rfl ⟨rfl, ?_⟩
  repeat (first | with_reducible exact Below.refl _ _ | with_reducible refine Below.setCell ?_ (by first | omega | (simp <;> omega)) _ | with_reducible refine Below.alloc ?_ (by first | omega | (simp <;> omega)) _)
theorem chain_le {E : En} {key : Int} {vn : Nat} {vU : Nat → Vr} (hr : ∀ i, i < E.q → (E.R i).n ≤ 12) (h : (fR E.q E.R key = -1 ∧ vn = 0) ∨ ∃ j, j < E.q ∧ fR E.q E.R key = (j : Int) ∧ vn = (E.R j).n ∧ vU = (E.R j).U) : vn ≤ 9223372036854775807 := by
  rcases h with ⟨_, h⟩ | ⟨j, hj, _, h, _⟩
  · omega
  · have := hr j hj; omega
theorem drewBx {w1 w2 : World} (hb : Below w1.heap.size w1 w2) : Below w1.heap.size w1 w2 := hb
/-- What SeenIn tells of the chain that was found. -/
theorem seen_rd {E : En} (h0 : eF E = 0) {j : Nat} (hj : j < E.p) {key : Int} {vn : Nat} {vU : Nat → Vr} (h : (fR E.q E.R key = -1 ∧ vn = 0) ∨ ∃ j, j < E.q ∧ fR E.q E.R key = (j : Int) ∧ vn = (E.R j).n ∧ vU = (E.R j).U) :
    (seC vn vU (E.T j).am (E.T j).id = if rdB E.q E.R (E.T j).am (E.T j).id key = true then 0 else 4) ∧ seV vn vU (E.T j).am (E.T j).id = rdV E.q E.R (E.T j).am (E.T j).id key := by
  have hv := view_ok h0 hj
  rcases h with ⟨h1, rfl⟩ | ⟨i, hi, h1, rfl, rfl⟩
  · have ha : avC 0 vU (E.T j).am (E.T j).id = 0 := by
      unfold avC
      rw [if_pos (by rfl), if_pos hv]
    have ht : told 0 vU (E.T j).am (E.T j).id = false := by
      unfold told
      rw [show decide (pS 0 vU (E.T j).am (E.T j).id < 0) = false from decide_eq_false (Nat.not_lt_zero _)]; rfl
    obtain ⟨k1, k2⟩ := rd_none (x := (E.T j).am) (o := (E.T j).id) h1
    rw [k1, k2]
    unfold seC seV
    rw [if_pos ha, if_pos ha, ht]
    exact ⟨rfl, rfl⟩
  · have ha : avC (E.R i).n (E.R i).U (E.T j).am (E.T j).id = 0 := by
      unfold avC
      rw [if_pos (rF_good ((eF_good h0).2.2.2 i hi)).2.2.1, if_pos hv]
    obtain ⟨k1, k2⟩ := rd_some (x := (E.T j).am) (o := (E.T j).id) h1
    rw [k1, k2]
    unfold seC seV
    rw [if_pos ha, if_pos ha]
    exact ⟨rfl, rfl⟩
set_option maxHeartbeats 16000000 in
theorem implRk_any (E : En) (a : Option Addr) (cap : Nat) (a' : Option Addr) (cap' : Nat) (id key : Int) (w : World) (hs : SmallE E) (h : EngAt w a a' E) :
    Calls Try.prog 44 #[.agg #[.int .i64 E.nx, .int .i64 E.ck, .slice a E.p cap, .slice a' E.q cap'], .int .i64 id, .int .i64 key] w fun e w' => e = .returned (.agg #[.int .i64 (rkC E id key), .int .i64 (rkV E id key)]) ∧ Below w.heap.size w w' := by
  have HXA : Hid (EngAt w a a' E) := h
  have HS : Hid (SmallE E) := hs
  clear h hs
  have HBX : Hid (∀ o1 o2 : Obj, o1 = .cells #[.int .i64 E.nx, .int .i64 E.ck, .slice a E.p cap, .slice a' E.q cap'] 47 → o2 = .cells #[.int .i64 0, .int .i64 0] 72 →
      Box4 ((w.alloc o1).alloc o2) w.heap.size (.int .i64 E.nx) (.int .i64 E.ck) (.slice a E.p cap) (.slice a' E.q cap') ∧ Box2 ((w.alloc o1).alloc o2) (w.heap.size + 1) (.int .i64 0) (.int .i64 0) ∧ (∀ i, ((w.alloc o1).alloc o2).frozen? ⟨w.heap.size + 1, i, none⟩ = false) ∧ Below w.heap.size w ((w.alloc o1).alloc o2) ∧ ((w.alloc o1).alloc o2).heap.size = w.heap.size + 2) := by
    rintro o1 o2 rfl rfl
    exact ⟨(Box4.new w _ _ _ _ _).alloc _, by simp [Box2, go_sem], fun i => by simp [go_sem], ((Below.refl _ _).alloc (Nat.le_refl _) _).alloc (by simp) _, by simp⟩
  go_enter Try.func44, Try.ntmps44
  go_wp2_with fail
  obtain ⟨hb4, hb2, hbf, hbw, hbs⟩ := HBX.out _ _ rfl rfl
  refine (placeOfOpen_any E a cap a' cap' id _ HS.out (HXA.out.below hbw)).mono ?_
  rintro e W ⟨rfl, hb1⟩
  obtain ⟨c0, c1, c2, c3⟩ := hb4.below hb1
  obtain ⟨r0, r1⟩ := hb2.below hb1
  have rf : ∀ i, W.frozen? ⟨w.heap.size + 1, i, none⟩ = false := fun i => ((bcell2 hb1).2 _ _ (by rw [hbs]; omega)).trans (hbf i)
  have HB1 : Hid (Below w.heap.size w W) := below_then hbw hb1
  have hs1 : w.heap.size + 2 ≤ W.heap.size := by have := hb1.size; rw [hbs] at this; exact this
  clear hb1 hb4 hb2 hbf hbw hbs HBX
  by_cases hc : askC E id = 0
  case neg =>
    have HE : Hid (rkC E id key = askC E id ∧ rkV E id key = 0) := rk_bad hc
    have hc2 : (askC E id != 0) = true := by simp [hc]
    clear hc c0 c1 c2 c3
    generalize askC E id = uu at *
    generalize askP E id = up at *
    go_wp2_with fail
    refine bodyPost_ret (v := .agg #[.int .i64 uu, .int .i64 0]) (by simp [results, Try.results44, go_sem, *]) rfl ⟨by rw [HE.out.1, HE.out.2], ?_⟩
    repeat (first | with_reducible exact HB1.out | with_reducible refine Below.setCell ?_ (by first | omega | (simp <;> omega)) _)
  obtain ⟨h0, j, hj, hp, -⟩ := ask_open hc
  obtain hk | hk := bool_or2 (inB key 0 31)
  case inr =>
    have HE : Hid (rkC E id key = 3 ∧ rkV E id key = 0) := rk_key hc hk
    rw [hc, hp]
    clear hc hp c0 c1 c2 c3
    go_wp2_with (first | (go_at_call 95; refine (isKey_any _ _).mono ?_; rintro e w' ⟨rfl, hw'⟩; rw [hw']; clear hw'))
    refine bodyPost_ret (v := .agg #[.int .i64 3, .int .i64 0]) (by simp [results, Try.results44, go_sem, *]) rfl ⟨by rw [HE.out.1, HE.out.2], ?_⟩
    repeat (first | with_reducible exact HB1.out | with_reducible refine Below.setCell ?_ (by first | omega | (simp <;> omega)) _)
  have HE : Hid ((rkC E id key = if rdB E.q E.R (E.T j).am (E.T j).id key = true then 0 else 4) ∧ rkV E id key = rdV E.q E.R (E.T j).am (E.T j).id key) := rk_ok hc hk hp
  have HSR : Hid (∀ i, i < E.q → (E.R i).n ≤ 12) := rows12 h0
  have HSO : Hid (∀ j, j < E.q → ∀ i, i < j → (E.R i).key < (E.R j).key) := keys_rise (eF_good h0).2.2.2
  have HSE : Hid (∀ vn vU, ((fR E.q E.R key = -1 ∧ vn = 0) ∨ ∃ j, j < E.q ∧ fR E.q E.R key = (j : Int) ∧ vn = (E.R j).n ∧ vU = (E.R j).U) → (seC vn vU (E.T j).am (E.T j).id = rkC E id key) ∧ seV vn vU (E.T j).am (E.T j).id = rkV E id key) := fun vn vU h => by
    rw [HE.out.1, HE.out.2]
    exact seen_rd h0 hj h
  have h32 := (eF_pq h0).2
  have hp20 := (eF_pq h0).1
  have HEX : Hid (EngAt W a a' E) := HXA.out.below HB1.out
  rw [hc, hp]
  rcases HEX.out.1 with h | ⟨bb, off, rfl, hl, hcc⟩
  · omega
  obtain ⟨ti, tc, ⟨d0, d1, d2, d3, d4⟩, -, -⟩ := hcc j hj
  have hj1 : (j : Int) < (E.p : Int) := by omega
  have hj0 : (0 : Int) ≤ (j : Int) := by omega
  have hrlt : w.heap.size + 1 < W.heap.size := by omega
  have e0 := r0
  have e1 := r1
  have ef := rf
  have HX : Hid (Below W.heap.size W W) := Below.refl _ _
  clear hc hp h0 hcc HE
  go_upto_region 6 with (first | (go_at_call 95; refine (isKey_any _ _).mono ?_; rintro e w' ⟨rfl, hw'⟩; rw [hw']; clear hw'))
  go_region_law (first | (go_simp; go_at_call 97; refine (chainOfKey_any E _ cap a' cap' key _ h32 HSO.out (HEX.out.below (by repeat (first | exact HX.out | apply Below.drew)))).mono ?_; rintro e wc ⟨va, vn, vc, vU, rfl, hbx, hvc, hcc⟩; have HVC : Hid (VersAt wc va vn vU) := hvc.below hbx; have HCC : Hid ((fR E.q E.R key = -1 ∧ vn = 0) ∨ ∃ j, j < E.q ∧ fR E.q E.R key = (j : Int) ∧ vn = (E.R j).n ∧ vU = (E.R j).U) := hcc; clear hvc hcc; have HX : Hid (Below W.heap.size W wc) := below_then (by repeat (first | exact HX.out | apply Below.drew)) hbx; have b0 := cell_below c0 HX.out; have b1 := cell_below c1 HX.out; have b2 := cell_below c2 HX.out; have b3 := cell_below c3 HX.out; have t0 := cell_below d0 HX.out; have t1 := cell_below d1 HX.out; have t2 := cell_below d2 HX.out; have t3 := cell_below d3 HX.out; have t4 := cell_below d4 HX.out; have r0 := cell_below e0 HX.out; have r1 := cell_below e1 HX.out; have rf := fun i : Nat => (HX.out.frozen (p := ⟨w.heap.size + 1, i, none⟩) hrlt).trans (ef i); clear hbx) | (go_simp; go_at_call 98; refine (viewOf_any (E.T j) ti tc _).mono ?_; rintro e wv ⟨rfl, hbx⟩; (first | (have HVC : Hid (VersAt wv va vn vU) := (HVC.out.below hbx)) | skip); have HX : Hid (Below W.heap.size W wv) := below_then (by repeat (first | exact HX.out | apply Below.drew)) hbx; have b0 := cell_below c0 HX.out; have b1 := cell_below c1 HX.out; have b2 := cell_below c2 HX.out; have b3 := cell_below c3 HX.out; have t0 := cell_below d0 HX.out; have t1 := cell_below d1 HX.out; have t2 := cell_below d2 HX.out; have t3 := cell_below d3 HX.out; have t4 := cell_below d4 HX.out; have r0 := cell_below e0 HX.out; have r1 := cell_below e1 HX.out; have rf := fun i : Nat => (HX.out.frozen (p := ⟨w.heap.size + 1, i, none⟩) hrlt).trans (ef i); clear hbx) | (go_simp; go_at_call 96; refine (implSe_any vn vU va vc (E.T j).am (E.T j).id _ (chain_le HSR.out HCC.out) HVC.out).mono ?_; rintro e ws ⟨rfl, hbx⟩; have HX : Hid (Below W.heap.size W ws) := below_then (by repeat (first | exact HX.out | apply Below.drew)) hbx; have b0 := cell_below c0 HX.out; have b1 := cell_below c1 HX.out; have b2 := cell_below c2 HX.out; have b3 := cell_below c3 HX.out; have t0 := cell_below d0 HX.out; have t1 := cell_below d1 HX.out; have t2 := cell_below d2 HX.out; have t3 := cell_below d3 HX.out; have t4 := cell_below d4 HX.out; have r0 := cell_below e0 HX.out; have r1 := cell_below e1 HX.out; have rf := fun i : Nat => (HX.out.frozen (p := ⟨w.heap.size + 1, i, none⟩) hrlt).trans (ef i); clear hbx))
  all_goals
    obtain ⟨hs1, hs2⟩ := HSE.out _ _ HCC.out
    rw [hs1, hs2]
    go_wp2_with fail
    refine bodyPost_ret (v := .agg #[.int .i64 (rkC E id key), .int .i64 (rkV E id key)]) (by simp [results, Try.results44, go_sem, *]) rfl ⟨rfl, ?_⟩
    have hbF := below_then HB1.out HX.out
    repeat (first | with_reducible exact hbF | with_reducible refine Below.setCell ?_ (by first | omega | (simp <;> omega)) _)
end Go.Proofs.Ytblhnhmcdbfhiaa
