/- Both MayWrites. -/
import Derived.Test.YtjdodbiphijjgaaGreatQRsb
namespace Go.Proofs.YtjdodbiphijjgaaGreat
open Go.RowKit Go.Deep
set_option linter.unusedVariables false
set_option maxRecDepth 20000

/-- May a view write to the chain? -/
def mayB (n : Nat) (R : Nat → Vr) (x o : Int) : Bool := decide (n = 0) || (if (R 0).a = 0 then (R 0).t == o else decide ((R 0).a ≤ x))
theorem l5May_any (n : Nat) (R : Nat → Vr) (a : Option Addr) (cap : Nat) (x o : Int) (w : World) (h : VersAt w a n R) :
    Calls Tryz.prog 112 #[.slice a n cap, .agg #[.int .i64 x, .int .i64 o]] w fun e w' => e = .returned (.bool (mayB n R x o)) ∧ Below w.heap.size w w' := by
  rcases Nat.eq_zero_or_pos n with rfl | hp
  · go_enter Tryz.func112, Tryz.ntmps112
    go_wp2_with fail
    go_ret
    exact ⟨rfl, below_new _ _⟩
  · obtain ⟨b, off, rfl, hl, x0, x1, x2, x3⟩ := h.first hp
    have hp' : (0 : Int) < (n : Int) := by omega
    have hp0 : (n == 0) = false := by simp; omega
    have hp1 : ((n : Int) == 0) = false := by simp; omega
    have hp2 : ¬ n = 0 := by omega
    have y0 : ∀ ob : Obj, (w.alloc ob).cell? ⟨b, off, none⟩ = some (.int .i64 (R 0).t) := fun ob => cell_alloc x0 ob
    have y1 : ∀ ob : Obj, (w.alloc ob).cell? ⟨b, off + 1, none⟩ = some (.int .i64 (R 0).a) := fun ob => cell_alloc x1 ob
    clear x0 x1 x2 x3 h
    by_cases hz : (R 0).a = 0
    · have HV : Hid (mayB n R x o = ((R 0).t == o)) := by
        show mayB n R x o = ((R 0).t == o)
        simp [mayB, hz, hp2]
      rw [hz] at y1
      generalize hr : (R 0).t = t at *
      clear hr hz
      by_cases ht : t = o
      · have HV2 : Hid (mayB n R x o = true) := HV.out.trans (by simp [ht])
        subst ht
        clear HV
        go_enter Tryz.func112, Tryz.ntmps112
        go_wp2_with fail
        go_quiet (fail)
        go_wp2_with fail
        go_ret
        exact ⟨ret_bool HV2.out.symm, by repeat (first | exact below_new _ _ | apply Below.drew | refine below_drewN ?_ _)⟩
      · have HV2 : Hid (mayB n R x o = false) := HV.out.trans (by simp [ht])
        have ht2 : (t == o) = false := by simp [ht]
        clear HV
        go_enter Tryz.func112, Tryz.ntmps112
        go_wp2_with fail
        go_quiet (fail)
        go_wp2_with fail
        go_ret
        exact ⟨ret_bool HV2.out.symm, by repeat (first | exact below_new _ _ | apply Below.drew | refine below_drewN ?_ _)⟩
    · have HV : Hid (mayB n R x o = decide ((R 0).a ≤ x)) := by
        show mayB n R x o = decide ((R 0).a ≤ x)
        simp [mayB, hz, hp2]
      generalize hr : R 0 = r at *
      clear hr
      obtain ⟨t, ra, g, v⟩ := r
      simp only at *
      have hz1 : (ra == 0) = false := by simp [hz]
      go_enter Tryz.func112, Tryz.ntmps112
      go_wp2_with fail
      go_quiet (fail)
      go_wp2_with fail
      go_ret
      exact ⟨ret_bool HV.out.symm, by repeat (first | exact below_new _ _ | apply Below.drew | refine below_drewN ?_ _)⟩
theorem mayB_kd {n : Nat} {R : Nat → Vr} {x o : Int} (hp : 0 < n) : (mayB n R x o = true → kd (R 0) x o ≠ 0) ∧ (mayB n R x o = false → kd (R 0) x o = 0) := by
  have hp2 : ¬ n = 0 := by omega
  have e : mayB n R x o = (if (R 0).a = 0 then (R 0).t == o else decide ((R 0).a ≤ x)) := by simp [mayB, hp2]
  rw [e]
  generalize R 0 = r
  obtain ⟨t, a, g, v⟩ := r
  have hq : ∀ q : Prop, q → (if g = true then (1 : Int) else 2) ≠ 0 := fun q _ => by cases g <;> decide
  simp only [kd]
  by_cases hz : a = 0
  · subst hz
    rw [if_pos rfl]
    by_cases ht : t = o
    · subst ht
      rw [if_pos (.inr ⟨rfl, rfl⟩)]
      exact ⟨fun _ => hq True trivial, fun h => by simp at h⟩
    · rw [if_neg (by intro h; rcases h with ⟨h, _⟩ | ⟨h, _⟩; exact h rfl; exact ht h)]
      exact ⟨fun h => by simp [ht] at h, fun _ => rfl⟩
  · rw [if_neg hz]
    by_cases ha : a ≤ x
    · rw [if_pos (.inl ⟨hz, ha⟩)]
      exact ⟨fun _ => hq True trivial, fun h => by simp [ha] at h⟩
    · rw [if_neg (by intro h; rcases h with ⟨_, h⟩ | ⟨_, h⟩; exact ha h; exact hz h)]
      exact ⟨fun h => by simp [ha] at h, fun _ => rfl⟩
def mwC (n : Nat) (R : Nat → Vr) (x o : Int) : Int := if avC n R x o = 0 then (if o = 0 then 3 else (if mayB n R x o = true then 0 else 9)) else avC n R x o
set_option maxHeartbeats 2000000 in
theorem implMw_any (n : Nat) (R : Nat → Vr) (a : Option Addr) (cap : Nat) (x o : Int) (w : World) (hn : n ≤ 9223372036854775807) (h : VersAt w a n R) :
    Calls Tryz.prog 179 #[.slice a n cap, .agg #[.int .i64 x, .int .i64 o]] w fun e w' => e = .returned (.int .i64 (mwC n R x o)) ∧ Below w.heap.size w w' := by
  have HA : Hid (VersAt w a n R) := h
  have HV : Hid (mwC n R x o = if avC n R x o = 0 then (if o = 0 then 3 else (if mayB n R x o = true then 0 else 9)) else avC n R x o) := rfl
  clear h
  generalize mwC n R x o = C at *
  go_enter Tryz.func179, Tryz.ntmps179
  go_wp2_with fail
  refine (chainViewFault_any n R a cap x o _ hn (HA.out.below (below_new _ _))).mono ?_
  rintro e w1 ⟨rfl, hb1⟩
  obtain ⟨q0, q1⟩ := (Box2.new w (.int .i64 x) (.int .i64 o) 122).below hb1
  have HB1 : Hid (Below w.heap.size w w1) := below_then (below_new _ _) hb1
  have hs1 : w.heap.size < w1.heap.size := by have := hb1.size; simp at this; omega
  clear hb1
  by_cases hc : avC n R x o = 0
  · rw [hc]
    by_cases ho : o = 0
    · have hC : C = 3 := by rw [HV.out, if_pos hc, if_pos ho]
      subst hC
      rw [ho] at q1
      clear HV hc HA ho
      go_wp2_with fail
      go_ret
      exact ⟨rfl, HB1.out⟩
    · have ho1 : (o == 0) = false := by simp [ho]
      rcases Nat.eq_zero_or_pos n with hn0 | hp
      · subst hn0
        have hC : C = 0 := by rw [HV.out, if_pos hc, if_neg ho, if_pos (by simp [mayB])]
        subst hC
        clear HV hc
        go_wp2_with fail
        refine wp_region_any (by kernel_rfl) ?_
        change wpAny _ _ _ _ _ _ _ (World.drew _)
        refine wpAny_take (i := 0) (v := .slice a 0 cap) rfl (by kernel_rfl) (by kernel_rfl) (by kernel_rfl) (fun _ _ _ h => h) (Or.inl ⟨by kernel_rfl, by intro w; go_simp⟩) ?_
        refine wpAny_take (i := 1) (v := .int .i64 0) rfl (by kernel_rfl) (by kernel_rfl) (by kernel_rfl) (fun _ _ _ h => h) (Or.inl ⟨by kernel_rfl, by intro w; go_simp⟩) ?_
        refine wpAny_take (i := 2) (v := .bool false) rfl (by kernel_rfl) (by kernel_rfl) (by kernel_rfl) (fun _ _ _ h => h) (Or.inl ⟨by kernel_rfl, by intro w; go_simp⟩) ?_
        refine wpAny_take (i := 3) (v := .bool false) rfl (by kernel_rfl) (by kernel_rfl) (by kernel_rfl) (fun _ _ _ h => h) (Or.inl ⟨by kernel_rfl, by intro w; go_simp⟩) ?_
        refine any_skip 4 (some 19) (by kernel_rfl) (by kernel_rfl) (by kernel_rfl) (by kernel_rfl) (by kernel_rfl) (fun _ _ _ h => h) ?_
        refine any_skip 5 (some 20) (by kernel_rfl) (by kernel_rfl) (by kernel_rfl) (by kernel_rfl) (by kernel_rfl) (fun _ _ _ h => h) ?_
        refine any_skip 6 (some 21) (by kernel_rfl) (by kernel_rfl) (by kernel_rfl) (by kernel_rfl) (by kernel_rfl) (fun _ _ _ h => h) ?_
        refine any_skip 7 (some 22) (by kernel_rfl) (by kernel_rfl) (by kernel_rfl) (by kernel_rfl) (by kernel_rfl) (fun _ _ _ h => h) ?_
        refine any_skip 8 (some 23) (by kernel_rfl) (by kernel_rfl) (by kernel_rfl) (by kernel_rfl) (by kernel_rfl) (fun _ _ _ h => h) ?_
        refine any_skip 9 (some 24) (by kernel_rfl) (by kernel_rfl) (by kernel_rfl) (by kernel_rfl) (by kernel_rfl) (fun _ _ _ h => h) ?_
        refine wpAny_take (i := 10) (v := .bool false) rfl (by kernel_rfl) (by kernel_rfl) (by kernel_rfl) (fun _ _ _ h => h) (Or.inl ⟨by kernel_rfl, by intro w; go_simp⟩) ?_
        refine wpAny_done (by kernel_rfl) ?_ _
        go_simp
        go_wp2_with fail
        go_ret
        exact ⟨rfl, HB1.out.drew⟩
      · by_cases hm : mayB n R x o = true
        · have hC : C = 0 := by rw [HV.out, if_pos hc, if_neg ho, if_pos hm]
          have hk := (mayB_kd hp).1 hm
          subst hC
          clear HV hc hm
          obtain ⟨b, off, rfl, hl, x0, x1, x2, x3⟩ := (HA.out.below HB1.out).first hp
          have hp' : (0 : Int) < (n : Int) := by omega
          clear HA
          generalize R 0 = r at *
          have HB2 : Hid (∀ wz, Below w1.heap.size w1 wz → Below w.heap.size w wz) := fun wz hz => below_then HB1.out hz
          generalize hk2 : kd r x o = kk at *
          have hk3 : (kk == 0) = false := by simp [hk]
          go_wp2_with fail
          have hb0 : Below w1.heap.size w1 w1.drew := (Below.refl _ _).drew
          go_region_held3 (fun w' => Below w1.heap.size w1 w' ∧ w'.cell? ⟨b, off, none⟩ = some (.int .i64 r.t) ∧ w'.cell? ⟨b, off + 1, none⟩ = some (.int .i64 r.a) ∧ w'.cell? ⟨b, off + 2, none⟩ = some (.bool r.g) ∧ w'.cell? ⟨b, off + 3, none⟩ = some (.int .i64 r.v) ∧ w'.cell? ⟨w.heap.size, 0, none⟩ = some (.int .i64 x) ∧ w'.cell? ⟨w.heap.size, 1, none⟩ = some (.int .i64 o)) (go_keep)
            (first | (go_at_call 170; refine (kindIn_any r x o _).mono ?_; rintro e wq ⟨rfl, hbq⟩; rw [hk2]; have hU := below_then (w := w1) (by simp [*]) hbq; have hU0 := cell_below (B := b) (o := off) (v := .int .i64 r.t) (by simp [*]) hbq; have hU1 := cell_below (B := b) (o := off + 1) (v := .int .i64 r.a) (by simp [*]) hbq; have hU2 := cell_below (B := b) (o := off + 2) (v := .bool r.g) (by simp [*]) hbq; have hU3 := cell_below (B := b) (o := off + 3) (v := .int .i64 r.v) (by simp [*]) hbq; have hU4 := cell_below (B := w.heap.size) (o := 0) (v := .int .i64 x) (by simp [*]) hbq; have hU5 := cell_below (B := w.heap.size) (o := 1) (v := .int .i64 o) (by simp [*]) hbq))
          go_wp2_with fail
          go_ret
          exact ⟨rfl, HB2.out _ (by assumption)⟩
        · have hm' : mayB n R x o = false := by simpa using hm
          have hC : C = 9 := by rw [HV.out, if_pos hc, if_neg ho, if_neg hm]
          have hk := (mayB_kd hp).2 hm'
          subst hC
          clear HV hc hm hm'
          obtain ⟨b, off, rfl, hl, x0, x1, x2, x3⟩ := (HA.out.below HB1.out).first hp
          have hp' : (0 : Int) < (n : Int) := by omega
          clear HA
          generalize R 0 = r at *
          have HB2 : Hid (∀ wz, Below w1.heap.size w1 wz → Below w.heap.size w wz) := fun wz hz => below_then HB1.out hz
          go_wp2_with fail
          have hb0 : Below w1.heap.size w1 w1.drew := (Below.refl _ _).drew
          go_region_held3 (fun w' => Below w1.heap.size w1 w' ∧ w'.cell? ⟨b, off, none⟩ = some (.int .i64 r.t) ∧ w'.cell? ⟨b, off + 1, none⟩ = some (.int .i64 r.a) ∧ w'.cell? ⟨b, off + 2, none⟩ = some (.bool r.g) ∧ w'.cell? ⟨b, off + 3, none⟩ = some (.int .i64 r.v) ∧ w'.cell? ⟨w.heap.size, 0, none⟩ = some (.int .i64 x) ∧ w'.cell? ⟨w.heap.size, 1, none⟩ = some (.int .i64 o)) (go_keep)
            (first | (go_at_call 170; refine (kindIn_any r x o _).mono ?_; rintro e wq ⟨rfl, hbq⟩; rw [hk]; have hU := below_then (w := w1) (by simp [*]) hbq; have hU0 := cell_below (B := b) (o := off) (v := .int .i64 r.t) (by simp [*]) hbq; have hU1 := cell_below (B := b) (o := off + 1) (v := .int .i64 r.a) (by simp [*]) hbq; have hU2 := cell_below (B := b) (o := off + 2) (v := .bool r.g) (by simp [*]) hbq; have hU3 := cell_below (B := b) (o := off + 3) (v := .int .i64 r.v) (by simp [*]) hbq; have hU4 := cell_below (B := w.heap.size) (o := 0) (v := .int .i64 x) (by simp [*]) hbq; have hU5 := cell_below (B := w.heap.size) (o := 1) (v := .int .i64 o) (by simp [*]) hbq))
          go_wp2_with fail
          go_ret
          exact ⟨rfl, HB2.out _ (by assumption)⟩
  · have hC : C = avC n R x o := by rw [HV.out, if_neg hc]
    rw [← hC]
    rw [← hC] at hc
    clear HV hC
    have hc1 : (C != 0) = true := by simp [hc]
    go_wp2_with fail
    go_ret
    exact ⟨rfl, HB1.out⟩
end Go.Proofs.YtjdodbiphijjgaaGreat
