/- Both SeenIns. -/
import Derived.Test.YtjdodbiphijjgaaGreatQRsb
namespace Go.Proofs.YtjdodbiphijjgaaGreat
open Go.RowKit Go.Deep
set_option linter.unusedVariables false
set_option maxRecDepth 20000

/-- The first place from i on, among m, at which the view meets something; behind all if there is none. -/
def psn (R : Nat → Vr) (x o : Int) : Nat → Nat → Nat
  | 0, i => i
  | m + 1, i => if kd (R i) x o = 0 then psn R x o m (i + 1) else i
theorem psn_at {R : Nat → Vr} {x o : Int} {n k : Nat} (h : k < n) : psn R x o (n - k) k = if kd (R k) x o = 0 then psn R x o (n - (k + 1)) (k + 1) else k := by
  obtain ⟨m, hm⟩ : ∃ m, n - k = m + 1 := ⟨n - k - 1, by omega⟩
  rw [hm, psn, show n - (k + 1) = m by omega]
theorem psn_le (R : Nat → Vr) (x o : Int) : ∀ m i, psn R x o m i ≤ i + m ∧ (psn R x o m i < i + m → kd (R (psn R x o m i)) x o ≠ 0)
  | 0, i => ⟨Nat.le_refl _, fun h => absurd h (Nat.lt_irrefl _)⟩
  | m + 1, i => by
    rw [psn]
    split
    · have := psn_le R x o m (i + 1)
      exact ⟨by omega, fun h => this.2 (by omega)⟩
    · rename_i h; exact ⟨by omega, fun _ => h⟩
def pS (n : Nat) (R : Nat → Vr) (x o : Int) : Nat := psn R x o n 0
theorem pS_le (n : Nat) (R : Nat → Vr) (x o : Int) : pS n R x o ≤ n := by have := (psn_le R x o n 0).1; unfold pS; omega
set_option maxHeartbeats 4000000 in
theorem placeSeen_any (n : Nat) (R : Nat → Vr) (a : Option Addr) (cap : Nat) (x o : Int) (w : World) (hn : n ≤ 12) (h : VersAt w a n R) :
    Calls Tryz.prog 169 #[.slice a n cap, .agg #[.int .i64 x, .int .i64 o]] w fun e w' => e = .returned (.int .i64 (pS n R x o : Int)) ∧ Below w.heap.size w w' := by
  have HA : Hid (VersAt w a n R) := h
  clear h
  go_enter Tryz.func169, Tryz.ntmps169
  go_wp2_with fail
  go_loopw [5] (fun i wr => ∃ k : Nat, k ≤ n ∧ i = .int .i64 k ∧ Hid (pS n R x o = psn R x o (n - k) k) ∧ Hid (Box2 wr w.heap.size (.int .i64 x) (.int .i64 o)) ∧ Hid (Below w.heap.size w wr)) (fun i _ => n - (intOf i).toNat)
  case atStart => exact ⟨0, Nat.zero_le _, rfl, rfl, Box2.new w _ _ 122, below_new _ _⟩
  case round =>
    obtain ⟨k, hk0, rfl, HE, HX, HB⟩ := hrel
    obtain ⟨q0, q1⟩ := HX.out
    by_cases hlt : k < n
    · have HE2 : Hid (pS n R x o = _) := HE.out.trans (psn_at hlt)
      obtain ⟨b, off, rfl, hl, hcc⟩ : ∃ b off, a = some ⟨b, off, none⟩ ∧ b < w.heap.size ∧ C4 wr b (off + k * 4) (R k) := by
        rcases HA.out with h | ⟨b, off, ha, hl, hc⟩
        · omega
        · exact ⟨b, off, ha, hl, (hc k hlt).block (HB.out.block _ hl)⟩
      have hlt' : (k : Int) < (n : Int) := by omega
      have hk1 : (0 : Int) ≤ (k : Int) := by omega
      obtain ⟨x0, x1, x2, x3⟩ := hcc
      clear HE HA
      by_cases hk : kd (R k) x o = 0
      · have HE : Hid (pS n R x o = psn R x o (n - (k + 1)) (k + 1)) := HE2.out.trans (if_pos hk)
        clear HE2
        generalize R k = r at *
        go_wp2_with fail
        have hb0 : Below wr.heap.size wr wr.drew := (Below.refl _ _).drew
        go_region_held3 (fun w' => Below wr.heap.size wr w' ∧ w'.cell? ⟨b, off + k * 4, none⟩ = some (.int .i64 r.t) ∧ w'.cell? ⟨b, off + k * 4 + 1, none⟩ = some (.int .i64 r.a) ∧ w'.cell? ⟨b, off + k * 4 + 2, none⟩ = some (.bool r.g) ∧ w'.cell? ⟨b, off + k * 4 + 3, none⟩ = some (.int .i64 r.v) ∧ w'.cell? ⟨w.heap.size, 0, none⟩ = some (.int .i64 x) ∧ w'.cell? ⟨w.heap.size, 1, none⟩ = some (.int .i64 o)) (go_keep)
          (first | (go_at_call 170; refine (kindIn_any r x o _).mono ?_; rintro e wq ⟨rfl, hbq⟩; rw [hk]; have hU := below_then (w := wr) (by simp [*]) hbq; have hU0 := cell_below (B := b) (o := off + k * 4) (v := .int .i64 r.t) (by simp [*]) hbq; have hU1 := cell_below (B := b) (o := off + k * 4 + 1) (v := .int .i64 r.a) (by simp [*]) hbq; have hU2 := cell_below (B := b) (o := off + k * 4 + 2) (v := .bool r.g) (by simp [*]) hbq; have hU3 := cell_below (B := b) (o := off + k * 4 + 3) (v := .int .i64 r.v) (by simp [*]) hbq; have hU4 := cell_below (B := w.heap.size) (o := 0) (v := .int .i64 x) (by simp [*]) hbq; have hU5 := cell_below (B := w.heap.size) (o := 1) (v := .int .i64 o) (by simp [*]) hbq))
        go_wp2_with fail
        go_roundw
        case rel => exact ⟨k + 1, hlt, by go_num, HE, HX.out.below (by assumption), below_then HB.out (by assumption)⟩
        case measure => simp [intOf]; omega
      · have HE : Hid (k = pS n R x o) := (HE2.out.trans (if_neg hk)).symm
        clear HE2
        generalize R k = r at *
        generalize hk2 : kd r x o = kk at *
        have hk3 : (kk == 0) = false := by simp [hk]
        go_wp2_with fail
        have hb0 : Below wr.heap.size wr wr.drew := (Below.refl _ _).drew
        go_region_held3 (fun w' => Below wr.heap.size wr w' ∧ w'.cell? ⟨b, off + k * 4, none⟩ = some (.int .i64 r.t) ∧ w'.cell? ⟨b, off + k * 4 + 1, none⟩ = some (.int .i64 r.a) ∧ w'.cell? ⟨b, off + k * 4 + 2, none⟩ = some (.bool r.g) ∧ w'.cell? ⟨b, off + k * 4 + 3, none⟩ = some (.int .i64 r.v) ∧ w'.cell? ⟨w.heap.size, 0, none⟩ = some (.int .i64 x) ∧ w'.cell? ⟨w.heap.size, 1, none⟩ = some (.int .i64 o)) (go_keep)
          (first | (go_at_call 170; refine (kindIn_any r x o _).mono ?_; rintro e wq ⟨rfl, hbq⟩; rw [hk2]; have hU := below_then (w := wr) (by simp [*]) hbq; have hU0 := cell_below (B := b) (o := off + k * 4) (v := .int .i64 r.t) (by simp [*]) hbq; have hU1 := cell_below (B := b) (o := off + k * 4 + 1) (v := .int .i64 r.a) (by simp [*]) hbq; have hU2 := cell_below (B := b) (o := off + k * 4 + 2) (v := .bool r.g) (by simp [*]) hbq; have hU3 := cell_below (B := b) (o := off + k * 4 + 3) (v := .int .i64 r.v) (by simp [*]) hbq; have hU4 := cell_below (B := w.heap.size) (o := 0) (v := .int .i64 x) (by simp [*]) hbq; have hU5 := cell_below (B := w.heap.size) (o := 1) (v := .int .i64 o) (by simp [*]) hbq))
        go_wp2_with fail
        go_ret
        exact ⟨ret_int (by rw [← HE.out]), below_then HB.out (by assumption)⟩
    · have hkn : n = k := by omega
      have HE2 : Hid (pS n R x o = k) := by
        refine HE.out.trans ?_
        rw [show n - k = 0 by omega, psn]
      have hnl : ¬ ((k : Int) < (k : Int)) := by omega
      clear HE HA
      subst hkn
      go_wp2_with fail
      refine wp_region_any (by kernel_rfl) ?_
      change wpAny _ _ _ _ _ _ _ (World.drew _)
      refine wpAny_take (i := 0) (v := .int .i64 (n : Int)) rfl (by kernel_rfl) (by kernel_rfl) (by kernel_rfl) (fun _ _ _ h => h) (Or.inl ⟨by kernel_rfl, by intro w; go_simp⟩) ?_
      refine wpAny_take (i := 1) (v := .slice a n cap) rfl (by kernel_rfl) (by kernel_rfl) (by kernel_rfl) (fun _ _ _ h => h) (Or.inl ⟨by kernel_rfl, by intro w; go_simp⟩) ?_
      refine wpAny_take (i := 2) (v := .int .i64 (n : Int)) rfl (by kernel_rfl) (by kernel_rfl) (by kernel_rfl) (fun _ _ _ h => h) (Or.inl ⟨by kernel_rfl, by intro w; go_simp⟩) ?_
      refine wpAny_take (i := 3) (v := .bool false) rfl (by kernel_rfl) (by kernel_rfl) (by kernel_rfl) (fun _ _ _ h => h) (Or.inl ⟨by kernel_rfl, by intro w; go_simp⟩) ?_
      refine wpAny_take (i := 4) (v := .bool false) rfl (by kernel_rfl) (by kernel_rfl) (by kernel_rfl) (fun _ _ _ h => h) (Or.inl ⟨by kernel_rfl, by intro w; go_simp⟩) ?_
      refine any_skip 5 (some 11) (by kernel_rfl) (by kernel_rfl) (by kernel_rfl) (by kernel_rfl) (by kernel_rfl) (fun _ _ _ h => h) ?_
      refine any_skip 6 (some 12) (by kernel_rfl) (by kernel_rfl) (by kernel_rfl) (by kernel_rfl) (by kernel_rfl) (fun _ _ _ h => h) ?_
      refine any_skip 7 (some 13) (by kernel_rfl) (by kernel_rfl) (by kernel_rfl) (by kernel_rfl) (by kernel_rfl) (fun _ _ _ h => h) ?_
      refine any_skip 8 (some 14) (by kernel_rfl) (by kernel_rfl) (by kernel_rfl) (by kernel_rfl) (by kernel_rfl) (fun _ _ _ h => h) ?_
      refine any_skip 9 (some 15) (by kernel_rfl) (by kernel_rfl) (by kernel_rfl) (by kernel_rfl) (by kernel_rfl) (fun _ _ _ h => h) ?_
      refine any_skip 10 (some 16) (by kernel_rfl) (by kernel_rfl) (by kernel_rfl) (by kernel_rfl) (by kernel_rfl) (fun _ _ _ h => h) ?_
      refine any_skip 11 (some 17) (by kernel_rfl) (by kernel_rfl) (by kernel_rfl) (by kernel_rfl) (by kernel_rfl) (fun _ _ _ h => h) ?_
      refine wpAny_take (i := 12) (v := .bool false) rfl (by kernel_rfl) (by kernel_rfl) (by kernel_rfl) (fun _ _ _ h => h) (Or.inl ⟨by kernel_rfl, by intro w; go_simp⟩) ?_
      refine wpAny_done (by kernel_rfl) ?_ _
      go_simp
      go_wp2_with fail
      go_ret
      exact ⟨ret_int (by rw [HE2.out]), HB.out.drew⟩
theorem avC_good {n : Nat} {R : Nat → Vr} {x o : Int} (h : avC n R x o = 0) : n ≤ 12 := by
  unfold avC at h
  split at h
  · rename_i hc; exact (chF_good hc).1
  · contradiction
/-- Does the view see a value? -/
def told (n : Nat) (R : Nat → Vr) (x o : Int) : Bool := decide (pS n R x o < n) && !(R (pS n R x o)).g
def seC (n : Nat) (R : Nat → Vr) (x o : Int) : Int := if avC n R x o = 0 then (if told n R x o = true then 0 else 4) else avC n R x o
def seV (n : Nat) (R : Nat → Vr) (x o : Int) : Int := if avC n R x o = 0 then (if told n R x o = true then (R (pS n R x o)).v else 0) else 0
theorem told_iff {n : Nat} {R : Nat → Vr} {x o : Int} : told n R x o = true ↔ pS n R x o < n ∧ (R (pS n R x o)).g = false := by simp [told]
theorem kd_told {n : Nat} {R : Nat → Vr} {x o : Int} (h : pS n R x o < n) : kd (R (pS n R x o)) x o = if (R (pS n R x o)).g = true then 1 else 2 := by
  have := (psn_le R x o n 0).2 (by unfold pS at h; omega)
  have h2 : kd (R (pS n R x o)) x o ≠ 0 := this
  generalize R (pS n R x o) = r at *
  unfold kd at h2 ⊢
  by_cases hh : (r.a ≠ 0 ∧ r.a ≤ x) ∨ (r.t = o ∧ r.a = 0)
  · rw [if_pos hh]
  · exact absurd (if_neg hh) h2
theorem VersAt.nth {w : World} {a : Option Addr} {n k : Nat} {R : Nat → Vr} (h : VersAt w a n R) (hp : k < n) : ∃ b off, a = some ⟨b, off, none⟩ ∧ b < w.heap.size ∧ C4 w b (off + k * 4) (R k) := by
  rcases h with h | ⟨b, off, ha, hl, hc⟩
  · omega
  · exact ⟨b, off, ha, hl, hc k hp⟩
set_option maxHeartbeats 4000000 in
theorem implSe_any (n : Nat) (R : Nat → Vr) (a : Option Addr) (cap : Nat) (x o : Int) (w : World) (hn : n ≤ 9223372036854775807) (h : VersAt w a n R) :
    Calls Tryz.prog 100 #[.slice a n cap, .agg #[.int .i64 x, .int .i64 o]] w fun e w' => e = .returned (.agg #[.int .i64 (seC n R x o), .int .i64 (seV n R x o)]) ∧ Below w.heap.size w w' := by
  have HA : Hid (VersAt w a n R) := h
  have HV : Hid ((seC n R x o = if avC n R x o = 0 then (if told n R x o = true then 0 else 4) else avC n R x o) ∧ (seV n R x o = if avC n R x o = 0 then (if told n R x o = true then (R (pS n R x o)).v else 0) else 0)) := ⟨rfl, rfl⟩
  clear h
  generalize seC n R x o = C at *
  generalize seV n R x o = V at *
  have hbn : ∀ o1 o2, Below w.heap.size w ((w.alloc o1).alloc o2) := fun o1 o2 => (below_new w o1).alloc (by simp) _
  go_enter Tryz.func100, Tryz.ntmps100
  go_wp2_with fail
  refine (chainViewFault_any n R a cap x o _ hn (HA.out.below (hbn _ _))).mono ?_
  rintro e w1 ⟨rfl, hb1⟩
  have BV : Box2 w1 w.heap.size (.int .i64 x) (.int .i64 o) := ((Box2.new w (.int .i64 x) (.int .i64 o) 122).alloc _).below hb1
  have BX : BoxR w1 (w.alloc (.cells #[.int .i64 x, .int .i64 o] 122)).heap.size (.int .i64 0) (.int .i64 0) := (BoxR.new (w.alloc (.cells #[.int .i64 x, .int .i64 o] 122)) (.int .i64 0) (.int .i64 0) 84).below hb1
  rw [World.size_alloc] at BX
  have HB1 : Hid (Below w.heap.size w w1) := below_then (hbn _ _) hb1
  have hs1 : w.heap.size + 1 < w1.heap.size := by have := hb1.size; simp at this; omega
  clear hb1 hbn
  obtain ⟨q0, q1⟩ := BV
  have BV : Box2 w1 w.heap.size (.int .i64 x) (.int .i64 o) := ⟨q0, q1⟩
  by_cases hc : avC n R x o = 0
  · rw [hc]
    have hn12 := avC_good hc
    have HA1 : Hid (VersAt w1 a n R) := HA.out.below HB1.out
    go_wp2_with fail
    refine (placeSeen_any n R a cap x o w1 hn12 HA1.out).mono ?_
    rintro e w2 ⟨rfl, hb2⟩
    have BX2 := BX.below hb2
    have BV2 := BV.below hb2
    have HB2 : Hid (Below w.heap.size w w2) := below_then HB1.out hb2
    have HA2 : Hid (VersAt w2 a n R) := HA1.out.below hb2
    have hs2 : w.heap.size + 1 < w2.heap.size := Nat.lt_of_lt_of_le hs1 hb2.size
    clear BX BV HA HA1 hb2 q0 q1
    by_cases hp : pS n R x o < n
    · obtain ⟨b, off, rfl, hl, x0, x1, x2, x3⟩ := HA2.out.nth hp
      have hk := kd_told hp
      have hT : told n R x o = !(R (pS n R x o)).g := by simp [told, hp]
      rw [hT] at HV
      have hC := HV.out.1
      have hV := HV.out.2
      rw [if_pos hc] at hC hV
      clear HV hc hT HA2
      generalize pS n R x o = p at *
      generalize R p = r at *
      have hp1 : (p : Int) < (n : Int) := by omega
      have hp3 : (0 : Int) ≤ (p : Int) := by omega
      have hp4 : ((p : Int) == (n : Int)) = false := by simp; omega
      have hp5 : (p == n) = false := by simp; omega
      have hp6 : ¬ p = n := by omega
      obtain ⟨q0, q1⟩ := BV2
      cases hg : r.g
      · have hk3 : kd r x o = 2 := by rw [hk]; simp [hg]
        have hC2 : C = 0 := by rw [hC]; simp [hg]
        have hV2 : V = r.v := by rw [hV]; simp [hg]
        clear hC hV hk hg
        subst hC2
        subst hV2
        have HX2 : Hid (∀ wz, Below w2.heap.size w2 wz → BoxR wz (w.heap.size + 1) (.int .i64 0) (.int .i64 0)) := fun wz hz => BX2.below hz
        have HXB : Hid (∀ wz, Below w2.heap.size w2 wz → Below w.heap.size w wz) := fun wz hz => below_then HB2.out hz
        clear BX2
        go_wp2_with fail
        have hb0 : Below w2.heap.size w2 w2.drew := (Below.refl _ _).drew
        go_region_held3 (fun w' => Below w2.heap.size w2 w' ∧ w'.cell? ⟨b, off + p * 4, none⟩ = some (.int .i64 r.t) ∧ w'.cell? ⟨b, off + p * 4 + 1, none⟩ = some (.int .i64 r.a) ∧ w'.cell? ⟨b, off + p * 4 + 2, none⟩ = some (.bool r.g) ∧ w'.cell? ⟨b, off + p * 4 + 3, none⟩ = some (.int .i64 r.v) ∧ w'.cell? ⟨w.heap.size, 0, none⟩ = some (.int .i64 x) ∧ w'.cell? ⟨w.heap.size, 1, none⟩ = some (.int .i64 o)) (go_keep)
          (first | (go_at_call 170; refine (kindIn_any r x o _).mono ?_; rintro e wq ⟨rfl, hbq⟩; rw [hk3]; have hU := below_then (w := w2) (by simp [*]) hbq; have hU0 := cell_below (B := b) (o := off + p * 4) (v := .int .i64 r.t) (by simp [*]) hbq; have hU1 := cell_below (B := b) (o := off + p * 4 + 1) (v := .int .i64 r.a) (by simp [*]) hbq; have hU2 := cell_below (B := b) (o := off + p * 4 + 2) (v := .bool r.g) (by simp [*]) hbq; have hU3 := cell_below (B := b) (o := off + p * 4 + 3) (v := .int .i64 r.v) (by simp [*]) hbq; have hU4 := cell_below (B := w.heap.size) (o := 0) (v := .int .i64 x) (by simp [*]) hbq; have hU5 := cell_below (B := w.heap.size) (o := 1) (v := .int .i64 o) (by simp [*]) hbq))
        obtain ⟨r0, r1, rf⟩ := HX2.out wq (by assumption)
        have HB3 : Hid (Below w.heap.size w wq) := HXB.out wq (by assumption)
        go_wp2_with fail
        refine bodyPost_ret (v := .agg #[.int .i64 0, .int .i64 r.v]) (by simp [results, Tryz.results100, go_sem, *]) rfl ⟨rfl, ?_⟩
        repeat (first | exact HB3.out | apply Below.drew | refine Below.setCell ?_ (by first | omega | (simp <;> omega)) _)
      · have hk3 : kd r x o = 1 := by rw [hk]; simp [hg]
        have hC2 : C = 4 := by rw [hC]; simp [hg]
        have hV2 : V = 0 := by rw [hV]; simp [hg]
        clear hC hV hk hg
        subst hC2
        subst hV2
        have HX2 : Hid (∀ wz, Below w2.heap.size w2 wz → BoxR wz (w.heap.size + 1) (.int .i64 0) (.int .i64 0)) := fun wz hz => BX2.below hz
        have HXB : Hid (∀ wz, Below w2.heap.size w2 wz → Below w.heap.size w wz) := fun wz hz => below_then HB2.out hz
        clear BX2
        go_wp2_with fail
        have hb0 : Below w2.heap.size w2 w2.drew := (Below.refl _ _).drew
        go_region_held3 (fun w' => Below w2.heap.size w2 w' ∧ w'.cell? ⟨b, off + p * 4, none⟩ = some (.int .i64 r.t) ∧ w'.cell? ⟨b, off + p * 4 + 1, none⟩ = some (.int .i64 r.a) ∧ w'.cell? ⟨b, off + p * 4 + 2, none⟩ = some (.bool r.g) ∧ w'.cell? ⟨b, off + p * 4 + 3, none⟩ = some (.int .i64 r.v) ∧ w'.cell? ⟨w.heap.size, 0, none⟩ = some (.int .i64 x) ∧ w'.cell? ⟨w.heap.size, 1, none⟩ = some (.int .i64 o)) (go_keep)
          (first | (go_at_call 170; refine (kindIn_any r x o _).mono ?_; rintro e wq ⟨rfl, hbq⟩; rw [hk3]; have hU := below_then (w := w2) (by simp [*]) hbq; have hU0 := cell_below (B := b) (o := off + p * 4) (v := .int .i64 r.t) (by simp [*]) hbq; have hU1 := cell_below (B := b) (o := off + p * 4 + 1) (v := .int .i64 r.a) (by simp [*]) hbq; have hU2 := cell_below (B := b) (o := off + p * 4 + 2) (v := .bool r.g) (by simp [*]) hbq; have hU3 := cell_below (B := b) (o := off + p * 4 + 3) (v := .int .i64 r.v) (by simp [*]) hbq; have hU4 := cell_below (B := w.heap.size) (o := 0) (v := .int .i64 x) (by simp [*]) hbq; have hU5 := cell_below (B := w.heap.size) (o := 1) (v := .int .i64 o) (by simp [*]) hbq))
        obtain ⟨r0, r1, rf⟩ := HX2.out wq (by assumption)
        have HB3 : Hid (Below w.heap.size w wq) := HXB.out wq (by assumption)
        go_wp2_with fail
        refine bodyPost_ret (v := .agg #[.int .i64 4, .int .i64 0]) (by simp [results, Tryz.results100, go_sem, *]) rfl ⟨rfl, ?_⟩
        repeat (first | exact HB3.out | apply Below.drew | refine Below.setCell ?_ (by first | omega | (simp <;> omega)) _)
    · have hpn : pS n R x o = n := by have := pS_le n R x o; omega
      have hC : C = 4 := by rw [HV.out.1, if_pos hc, if_neg (fun h => hp (told_iff.1 h).1)]
      have hV : V = 0 := by rw [HV.out.2, if_pos hc, if_neg (fun h => hp (told_iff.1 h).1)]
      subst hC hV
      rw [hpn]
      clear HV hc hp hpn
      obtain ⟨r0, r1, rf⟩ := BX2
      go_wp2_with fail
      refine wp_region_any (by kernel_rfl) ?_
      change wpAny _ _ _ _ _ _ _ (World.drew _)
      refine wpAny_take (i := 0) (v := .int .i64 (n : Int)) rfl (by kernel_rfl) (by kernel_rfl) (by kernel_rfl) (fun _ _ _ h => h) (Or.inl ⟨by kernel_rfl, by intro w; go_simp⟩) ?_
      refine wpAny_take (i := 1) (v := .slice a n cap) rfl (by kernel_rfl) (by kernel_rfl) (by kernel_rfl) (fun _ _ _ h => h) (Or.inl ⟨by kernel_rfl, by intro w; go_simp⟩) ?_
      refine wpAny_take (i := 2) (v := .int .i64 (n : Int)) rfl (by kernel_rfl) (by kernel_rfl) (by kernel_rfl) (fun _ _ _ h => h) (Or.inl ⟨by kernel_rfl, by intro w; go_simp⟩) ?_
      refine wpAny_take (i := 3) (v := .bool true) rfl (by kernel_rfl) (by kernel_rfl) (by kernel_rfl) (fun _ _ _ h => h) (Or.inl ⟨by kernel_rfl, by intro w; go_simp⟩) ?_
      refine wpAny_take (i := 4) (v := .bool true) rfl (by kernel_rfl) (by kernel_rfl) (by kernel_rfl) (fun _ _ _ h => h) (Or.inl ⟨by kernel_rfl, by intro w; go_simp⟩) ?_
      refine any_skip 5 (some 22) (by kernel_rfl) (by kernel_rfl) (by kernel_rfl) (by kernel_rfl) (by kernel_rfl) (fun _ _ _ h => h) ?_
      refine any_skip 6 (some 23) (by kernel_rfl) (by kernel_rfl) (by kernel_rfl) (by kernel_rfl) (by kernel_rfl) (fun _ _ _ h => h) ?_
      refine any_skip 7 (some 24) (by kernel_rfl) (by kernel_rfl) (by kernel_rfl) (by kernel_rfl) (by kernel_rfl) (fun _ _ _ h => h) ?_
      refine any_skip 8 (some 25) (by kernel_rfl) (by kernel_rfl) (by kernel_rfl) (by kernel_rfl) (by kernel_rfl) (fun _ _ _ h => h) ?_
      refine any_skip 9 (some 26) (by kernel_rfl) (by kernel_rfl) (by kernel_rfl) (by kernel_rfl) (by kernel_rfl) (fun _ _ _ h => h) ?_
      refine any_skip 10 (some 27) (by kernel_rfl) (by kernel_rfl) (by kernel_rfl) (by kernel_rfl) (by kernel_rfl) (fun _ _ _ h => h) ?_
      refine any_skip 11 (some 28) (by kernel_rfl) (by kernel_rfl) (by kernel_rfl) (by kernel_rfl) (by kernel_rfl) (fun _ _ _ h => h) ?_
      refine wpAny_take (i := 12) (v := .bool true) rfl (by kernel_rfl) (by kernel_rfl) (by kernel_rfl) (fun _ _ _ h => h) (Or.inl ⟨by kernel_rfl, by intro w; go_simp⟩) ?_
      refine wpAny_done (by kernel_rfl) ?_ _
      go_simp
      go_wp2_with fail
      refine bodyPost_ret (v := .agg #[.int .i64 4, .int .i64 0]) (by simp [results, Tryz.results100, go_sem, *]) rfl ⟨rfl, ?_⟩
      repeat (first | exact HB2.out | apply Below.drew | refine Below.setCell ?_ (by first | omega | (simp <;> omega)) _)
  · have hC : C = avC n R x o := by rw [HV.out.1, if_neg hc]
    have hV : V = 0 := by rw [HV.out.2, if_neg hc]
    subst hV
    rw [← hC]
    rw [← hC] at hc
    clear HV hC
    have hc1 : (C != 0) = true := by simp [hc]
    obtain ⟨r0, r1, rf⟩ := BX
    go_wp2_with fail
    refine bodyPost_ret (v := .agg #[.int .i64 C, .int .i64 0]) (by simp [results, Tryz.results100, go_sem, *]) rfl ⟨rfl, ?_⟩
    repeat (first | exact HB1.out | apply Below.drew | refine Below.setCell ?_ (by first | omega | (simp <;> omega)) _)
end Go.Proofs.YtjdodbiphijjgaaGreat
