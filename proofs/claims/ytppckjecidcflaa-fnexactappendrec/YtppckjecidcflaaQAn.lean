/- AppendRec: what it answers; spec.AppendRec. -/
import Derived.Test.YtppckjecidcflaaQAm
namespace Go.Proofs.Ytppckjecidcflaa
open Go.RowKit Go.Deep
set_option linter.unusedVariables false
set_option maxRecDepth 20000

theorem zL_zOf (zs : List Int) : zL (zOf zs) zs.length = zs := by
  apply List.ext_getElem?
  intro i
  by_cases h : i < zs.length
  · rw [List.getElem?_eq_getElem h]
    simp [zL, zOf, h]
  · have h1 : zs[i]? = none := List.getElem?_eq_none (by omega)
    have h2 : (zL (zOf zs) zs.length)[i]? = none := List.getElem?_eq_none (by rw [zL_len]; omega)
    rw [h1, h2]
theorem Two.below {m : Nat} {w w' : World} {v1 v2 : Value} {xs ys : List Int} (h : Two m w v1 v2 xs ys) (hb : Below w.heap.size w w') : Two m w' v1 v2 xs ys :=
  ⟨own_keep h.1 fun q hq => hb.block q (own_lt2 h.1 q hq).2, own_keep h.2.1 fun q hq => hb.block q (own_lt2 h.2.1 q hq).2, h.2.2⟩
theorem Two.writes {m lo hi : Nat} {w w' : World} {v1 v2 : Value} {xs ys : List Int} (h : Two m w v1 v2 xs ys) (hw : Writes lo hi w w') (hd : ∀ q, (v1.ownBlock = some q ∨ v2.ownBlock = some q) → q < lo ∨ hi ≤ q) : Two m w' v1 v2 xs ys :=
  ⟨own_keep h.1 fun q hq => hw.block q (own_lt2 h.1 q hq).2 (hd q (.inl hq)), own_keep h.2.1 fun q hq => hw.block q (own_lt2 h.2.1 q hq).2 (hd q (.inr hq)), h.2.2⟩
/-- The second list has grown. -/
theorem Two.grow {m : Nat} {w w' : World} {v1 v2 v3 : Value} {xs ys zs : List Int} (h : Two m w v1 v2 xs ys) (hg : w.grownBy w' v2.ownBlock) (ho : w'.ownsRow m 5 1 v3 zs.length (bl zs)) (hl : ∀ q, v3.ownBlock = some q → v2.ownBlock = some q ∨ q = w.heap.size) : Two m w' v1 v3 xs zs := by
  refine ⟨own_keep h.1 fun q hq => ?_, ho, fun q hq hq3 => ?_⟩
  · exact hg.block q (own_lt2 h.1 q hq).2 fun e => h.2.2 q hq e.symm
  · rcases hl q hq3 with h1 | h1
    · exact h.2.2 q hq h1
    · have := (own_lt2 h.1 q hq).2; omega
theorem Two.down {m m' : Nat} {w : World} {v1 v2 : Value} {xs ys : List Int} (h : Two m w v1 v2 xs ys) (hm : m' ≤ m) : Two m' w v1 v2 xs ys := ⟨own_down h.1 hm, own_down h.2.1 hm, h.2.2⟩
theorem grown_w {w w' : World} {r : Option Nat} {lo hi : Nat} (hg : w.grownBy w' r) (h : ∀ q, r = some q → lo ≤ q ∧ q < hi) : Writes lo hi w w' :=
  ⟨hg.os, hg.tape, hg.output, hg.size, fun k hk hd => hg.block k hk fun e => by have := h k e.symm; omega⟩
theorem row_shape2 {w : World} {base n : Nat} {v : Value} {zs : List Int} (h : w.ownsRow base 5 1 v zs.length (bl zs)) (hn : zs.length = n) : ∃ a cap, v = .slice a n cap := by
  obtain ⟨a, cap, e, _⟩ := ownB_of_row h
  exact ⟨a, cap, by rw [e, hn]⟩
/-- What l3Append answers. -/
def ApA (L : Lo) (a1 a2 : Option Addr) (c1 c2 : Nat) (rs : List Int) (w : World) (e : Ending) (w' : World) : Prop :=
  Below w.heap.size w w' ∧ ((4000 < L.n1 + L.n2 + 13 ∧ e = .returned (.tuple #[.agg #[.slice a1 L.n1 c1, .slice a2 L.n2 c2], .int .i64 2])) ∨ (L.n1 + L.n2 + 13 ≤ 4000 ∧ ∃ x1 d1 x2 d2, e = .returned (.tuple #[.agg #[.slice x1 L.n1 d1, .slice x2 (L.n2 + 13) d2], .int .i64 0]) ∧ Two (w.heap.size + 2) w' (.slice x1 L.n1 d1) (.slice x2 (L.n2 + 13) d2) (zL L.z1 L.n1) (zL L.z2 L.n2 ++ rs)))
set_option maxHeartbeats 4000000 in
theorem l3Append_any (L : Lo) (a1 a2 : Option Addr) (c1 c2 : Nat) (k t key : Int) (hd : Bool) (old : Int) (hs : Bool) (nw bk : Int) (w : World) (hsz : L.n1 + L.n2 ≤ 4000) (g : GoodR k t key hd old hs nw bk) (h : LogAt w a1 a2 L) :
    Calls Try.prog 31 #[.agg #[.slice a1 L.n1 c1, .slice a2 L.n2 c2], .agg #[.int .i64 k, .int .i64 t, .int .i64 key, .bool hd, .int .i64 old, .bool hs, .int .i64 nw, .int .i64 bk]] w (ApA L a1 a2 c1 c2 (rb k t key hd old hs nw bk) w) := by
  have HA : Hid (LogAt w a1 a2 L) := h
  have HG : Hid (GoodR k t key hd old hs nw bk) := g
  have HBX : Hid (∀ o1 o2 o3 : Obj, o1 = .cells #[.slice a1 L.n1 c1, .slice a2 L.n2 c2] 28 → o2 = .cells #[.int .i64 k, .int .i64 t, .int .i64 key, .bool hd, .int .i64 old, .bool hs, .int .i64 nw, .int .i64 bk] 33 → o3 = .cells #[.slice none 0 0, .slice none 0 0] 28 → Box2 (((w.alloc o1).alloc o2).alloc o3) w.heap.size (.slice a1 L.n1 c1) (.slice a2 L.n2 c2) ∧ Box8 (((w.alloc o1).alloc o2).alloc o3) (w.heap.size + 1) k t key hd old hs nw bk ∧ Box2 (((w.alloc o1).alloc o2).alloc o3) (w.heap.size + 2) (.slice none 0 0) (.slice none 0 0) ∧ (∀ i, (((w.alloc o1).alloc o2).alloc o3).frozen? ⟨w.heap.size + 2, i, none⟩ = false) ∧ Below w.heap.size w (((w.alloc o1).alloc o2).alloc o3) ∧ (((w.alloc o1).alloc o2).alloc o3).heap.size = w.heap.size + 3) := by
    rintro o1 o2 o3 rfl rfl rfl
    exact ⟨⟨by simp [go_sem], by simp [go_sem]⟩, ⟨by simp [go_sem], by simp [go_sem], by simp [go_sem], by simp [go_sem], by simp [go_sem], by simp [go_sem], by simp [go_sem], by simp [go_sem]⟩, ⟨by simp [go_sem], by simp [go_sem]⟩, fun i => by simp [go_sem], (((Below.refl _ _).alloc (Nat.le_refl _) _).alloc (by simp) _).alloc (by simp; omega) _, by simp⟩
  clear h g
  go_enter Try.func31, Try.ntmps31
  go_wp2_with fail
  obtain ⟨hb1, hb8, hb2, hbf, hbw, hbs⟩ := HBX.out _ _ _ rfl rfl rfl
  refine (l3Copy_any L a1 a2 c1 c2 _ (by omega) (HA.out.below hbw)).mono ?_
  rintro e w1 ⟨v1, v2, rfl, hbb, h2⟩
  obtain ⟨x1, d1, rfl⟩ := row_shape2 h2.1 (zL_len _ _)
  obtain ⟨x2, d2, rfl⟩ := row_shape2 h2.2.1 (zL_len _ _)
  rw [hbs] at h2
  have HB1 : Hid (Below w.heap.size w w1) := below_then hbw hbb
  have HL : Hid (Box2 w1 w.heap.size (.slice a1 L.n1 c1) (.slice a2 L.n2 c2)) := hb1.below hbb
  have HR8 : Hid (Box8 w1 (w.heap.size + 1) k t key hd old hs nw bk) := hb8.below hbb
  have HR2 : Hid (Box2 w1 (w.heap.size + 2) (.slice none 0 0) (.slice none 0 0)) := hb2.below hbb
  have HRF : Hid (∀ i, w1.frozen? ⟨w.heap.size + 2, i, none⟩ = false) := fun i => ((bcell hbb).2 _ _ (by rw [hbs]; omega)).trans (hbf i)
  have H2 : Hid (Two (w.heap.size + 3) w1 (.slice x1 L.n1 d1) (.slice x2 L.n2 d2) (zL L.z1 L.n1) (zL L.z2 L.n2)) := h2.down (by omega)
  have hz1 : w.heap.size + 3 ≤ w1.heap.size := by have := hbb.size; rw [hbs] at this; exact this
  clear hb1 hb8 hb2 hbf hbw hbs hbb h2 HBX
  go_upto_region 2 with fail
  obtain ⟨W, hW⟩ : ∃ x, x = w1.alloc (.cells #[.slice x1 L.n1 d1, .slice x2 L.n2 d2] 28) := ⟨_, rfl⟩
  have HBW : Hid (Below w1.heap.size w1 W) := by rw [hW]; exact below_new _ _
  have o0 : W.cell? ⟨w1.heap.size, 0, none⟩ = some (.slice x1 L.n1 d1) := by rw [hW]; simp [go_sem]
  have o1 : W.cell? ⟨w1.heap.size, 1, none⟩ = some (.slice x2 L.n2 d2) := by rw [hW]; simp [go_sem]
  have of : ∀ i, W.frozen? ⟨w1.heap.size, i, none⟩ = false := fun i => by rw [hW]; simp [go_sem]
  have HWS : Hid (W.heap.size = w1.heap.size + 1) := by rw [hW]; exact World.size_alloc _ _
  rw [← hW]
  clear hW
  obtain ⟨e0, e1, e2, e3, e4, e5, e6, e7⟩ := HR8.out.below HBW.out
  have H2W : Hid (Two (w.heap.size + 3) W (.slice x1 L.n1 d1) (.slice x2 L.n2 d2) (zL L.z1 L.n1) (zL L.z2 L.n2)) := H2.out.below HBW.out
  have HB2 : Hid (∀ q, ((Value.slice x1 L.n1 d1).ownBlock = some q ∨ (Value.slice x2 L.n2 d2).ownBlock = some q) → q < w1.heap.size) := fun q hq => by
    rcases hq with hq | hq
    · exact (own_lt2 H2.out.1 q hq).2
    · exact (own_lt2 H2.out.2.1 q hq).2
  have HLN : Hid ((zL L.z2 L.n2).length + 13 ≤ 100000) := by show (zL L.z2 L.n2).length + 13 ≤ 100000; rw [zL_len]; omega
  have HZR : Hid (zL L.z2 L.n2 ++ zL (zOf (rb k t key hd old hs nw bk)) 13 = zL L.z2 L.n2 ++ rb k t key hd old hs nw bk) := by
    have h := zL_zOf (rb k t key hd old hs nw bk)
    rw [rb_len] at h
    show _ = _
    rw [h]
  have HLR : Hid ((zL L.z2 L.n2 ++ rb k t key hd old hs nw bk).length = L.n2 + 13) := by show _ = _; rw [List.length_append, zL_len, rb_len]
  go_region_law (first | (go_simp; go_at_call 61; refine (specL3_any k t key hd old hs nw bk _ HG.out).mono ?_; rintro e w3 ⟨v, rfl, hb3, ho3, -⟩; have hB3 := drewB6 hb3; obtain ⟨pa, pc, rfl, hown3⟩ := ownB_of_row ho3; rw [rb_len]; rw [rb_len] at hown3; have f0 := cell_below o0 hB3; have f1 := cell_below o1 hB3; have ff := fun i : Nat => (hB3.frozen (p := ⟨w1.heap.size, i, none⟩) (by have := Go.block_lt_of_cell o0; exact this)).trans (of i); clear hb3 ho3) | (refine step_appL w3 rfl (.tmp 10) (.tmp 12) rfl (w.heap.size + 3) (.slice x2 L.n2 d2) (zL L.z2 L.n2) rfl (H2W.out.below hB3).2.1 pa 13 pc (zOf (rb k t key hd old hs nw bk)) rfl hown3.at HLN.out (by have := hB3.size; have := HWS.out; omega) ?_; intro v4 w4 ho4 hg4 hl4; have hZ : zL L.z2 L.n2 ++ zL (zOf (rb k t key hd old hs nw bk)) 13 = zL L.z2 L.n2 ++ rb k t key hd old hs nw bk := HZR.out; rw [hZ] at ho4; obtain ⟨x4, d4, rfl⟩ := row_shape2 ho4 HLR.out; have hw4 : Writes (w.heap.size + 3) w1.heap.size w3 w4 := grown_w hg4 fun q hq => ⟨(own_lt2 H2.out.2.1 q hq).1, HB2.out q (.inr hq)⟩; have F4 := (H2W.out.below hB3).grow hg4 ho4 hl4; have N4 : ∀ q, (Value.slice x4 (L.n2 + 13) d4).ownBlock = some q → q < w1.heap.size ∨ w1.heap.size + 1 ≤ q := (fun q hq => by have h1 := hB3.size; have h2 := HWS.out; rcases hl4 q hq with h | h; exact .inl (HB2.out q (.inr h)); exact .inr (by omega)); have hz3 := hB3.size; have hWS := HWS.out; have g0 := (hw4.cell (by omega) (.inr (Nat.le_refl _)) 0).trans f0; have g1 := (hw4.cell (by omega) (.inr (Nat.le_refl _)) 1).trans f1; have gf := fun i : Nat => (World.frozen?_of_block (w := w3) (a := ⟨w1.heap.size, i, none⟩) (hw4.block w1.heap.size (by omega) (.inr (Nat.le_refl _)))).trans (ff i); clear ho4 hg4 hl4 hZ))
  all_goals
    obtain ⟨S, hS⟩ : ∃ x, x = w4.setCell ⟨w1.heap.size, 1, none⟩ (.slice x4 (L.n2 + 13) d4) := ⟨_, rfl⟩
    have hwS : Writes w1.heap.size (w1.heap.size + 1) w4 S := by rw [hS]; exact Writes.setCell (Writes.refl _ _ _) (p := ⟨w1.heap.size, 1, none⟩) (Nat.le_refl _) (Nat.lt_succ_self _) _
    have hz4 := hw4.size
    have s0 : S.cell? ⟨w1.heap.size, 0, none⟩ = some (.slice x1 L.n1 d1) := by rw [hS]; exact (setO (by omega)).trans g0
    have s1 : S.cell? ⟨w1.heap.size, 1, none⟩ = some (.slice x4 (L.n2 + 13) d4) := by rw [hS]; exact setS g1
    have hc : ∀ b i v, b < w.heap.size + 3 → w1.cell? ⟨b, i, none⟩ = some v → S.cell? ⟨b, i, none⟩ = some v := fun b i v hb hv =>
      (hwS.cell (by omega) (.inl (by omega)) i).trans ((hw4.cell (by omega) (.inl hb) i).trans (cell_below (cell_below hv HBW.out) hB3))
    have m0 := hc _ _ _ (by omega) HL.out.1
    have m1 := hc _ _ _ (by omega) HL.out.2
    have n0 := hc _ _ _ (by omega) HR2.out.1
    have n1 := hc _ _ _ (by omega) HR2.out.2
    have nf : ∀ i, S.frozen? ⟨w.heap.size + 2, i, none⟩ = false := fun i => by
      rw [World.frozen?_of_block (w := w4) (a := ⟨w.heap.size + 2, i, none⟩) (hwS.block (w.heap.size + 2) (by omega) (.inl (by omega))), World.frozen?_of_block (w := w3) (a := ⟨w.heap.size + 2, i, none⟩) (hw4.block (w.heap.size + 2) (by omega) (.inl (by omega)))]
      exact (hB3.frozen (p := ⟨w.heap.size + 2, i, none⟩) (by show w.heap.size + 2 < W.heap.size; omega)).trans ((HBW.out.frozen (p := ⟨w.heap.size + 2, i, none⟩) (by show w.heap.size + 2 < w1.heap.size; omega)).trans (HRF.out i))
    have HBS : Hid (Below w.heap.size w S) := Writes.below (Writes.below (below_then (below_then HB1.out HBW.out) hB3) hw4 (by omega)) hwS (by omega)
    have HTS : Hid (Two (w.heap.size + 3) S (.slice x1 L.n1 d1) (.slice x4 (L.n2 + 13) d4) (zL L.z1 L.n1) (zL L.z2 L.n2 ++ rb k t key hd old hs nw bk)) := F4.writes hwS fun q hq => by
      rcases hq with hq | hq
      · exact .inl (HB2.out q (.inl hq))
      · exact N4 q hq
    rw [← hS]
    clear hS hwS hc hw4 hB3 hown3 f0 f1 ff g0 g1 gf F4 N4 o0 o1 of e0 e1 e2 e3 e4 e5 e6 e7 hWS hz3 hz4 HZR HLR HLN
    have hwr : IntKind.i64.wrap ((L.n1 : Int) + ((L.n2 + 13 : Nat) : Int)) = ((L.n1 + L.n2 + 13 : Nat) : Int) := by rw [IntKind.wrap_i64]; omega
    by_cases ho : 4000 < L.n1 + L.n2 + 13
    · have ho1 : (4000 : Int) < ((L.n1 + L.n2 + 13 : Nat) : Int) := by omega
      go_wp2_with fail
      refine bodyPost_ret (v := .tuple #[.agg #[.slice a1 L.n1 c1, .slice a2 L.n2 c2], .int .i64 2]) (by simp [results, Try.results31, go_sem, n0, n1]) rfl ⟨?_, .inl ⟨ho, rfl⟩⟩
      repeat (first | with_reducible exact HBS.out | with_reducible refine Below.setCell ?_ (by first | omega | (simp <;> omega)) _)
    · have ho1 : ¬ ((4000 : Int) < (L.n1 : Int) + ((L.n2 : Int) + 13)) := by omega
      have ho2 : decide ((4000 : Int) < (L.n1 : Int) + ((L.n2 : Int) + 13)) = false := decide_eq_false ho1
      have HW7 : Hid (∀ w7, Writes (w.heap.size + 2) (w.heap.size + 3) S w7 → Two (w.heap.size + 2) w7 (.slice x1 L.n1 d1) (.slice x4 (L.n2 + 13) d4) (zL L.z1 L.n1) (zL L.z2 L.n2 ++ rb k t key hd old hs nw bk)) := fun w7 h7 =>
        (HTS.out.writes h7 fun q hq => by
          rcases hq with hq | hq
          · exact .inr (own_lt2 HTS.out.1 q hq).1
          · exact .inr (own_lt2 HTS.out.2.1 q hq).1).down (by omega)
      clear HTS
      go_wp2_with fail
      refine bodyPost_ret (v := .tuple #[.agg #[.slice x1 L.n1 d1, .slice x4 (L.n2 + 13) d4], .int .i64 0]) (by simp [results, Try.results31, go_sem, n0, n1]) rfl ⟨?_, .inr ⟨by omega, x1, d1, x4, d4, rfl, HW7.out _ ?_⟩⟩
      · repeat (first | with_reducible exact HBS.out | with_reducible refine Below.setCell ?_ (by first | omega | (simp <;> omega)) _)
      · repeat (first | with_reducible exact Writes.refl _ _ _ | with_reducible refine Writes.setCell ?_ (by first | omega | (simp <;> omega)) (by first | omega | (simp <;> omega)) _)
theorem ownB_at {w : World} {lo hi n : Nat} {a : Option Addr} {z : Nat → Int} (h : OwnB w lo hi a n z) : n = 0 ∨ ∃ g off, a = some ⟨g, off, none⟩ ∧ lo ≤ g ∧ g < hi ∧ OwnB w g (g + 1) a n z := by
  obtain ⟨h0, h1 | ⟨b, off, ha, hl, hh, r⟩⟩ := h
  · exact .inl h1
  · exact .inr ⟨b, off, ha, hl, hh, by omega, .inr ⟨b, off, ha, Nat.le_refl _, Nat.lt_succ_self _, r⟩⟩
theorem ownB_zero {w : World} {lo n : Nat} {a : Option Addr} {z : Nat → Int} (h : n = 0) (hl : lo ≤ w.heap.size) : OwnB w lo lo a n z := ⟨hl, .inl h⟩
theorem two_ownG {w : World} {m n1 n2 d1 d2 : Nat} {x1 x2 : Option Addr} {z1 : Nat → Int} {ys : List Int} (h : Two m w (.slice x1 n1 d1) (.slice x2 n2 d2) (zL z1 n1) ys) (hy : ys.length = n2) (hm : m ≤ w.heap.size) : OwnG w m w.heap.size x1 x2 ⟨n1, z1, n2, zOf ys⟩ := by
  obtain ⟨h1, h2, h3⟩ := h
  obtain ⟨y1, e1, k1, o1⟩ := ownB_of_row h1
  obtain ⟨y2, e2, k2, o2⟩ := ownB_of_row h2
  simp only [Value.slice.injEq] at k1 k2
  obtain ⟨rfl, -, -⟩ := k1
  obtain ⟨rfl, -, -⟩ := k2
  rw [zL_len] at o1
  rw [hy] at o2
  have o1' := ownB_zL o1
  refine ⟨Nat.le_refl _, ?_⟩
  rcases ownB_at o1' with p | ⟨g1, f1, rfl, p1, p2, p3⟩
  · rcases ownB_at o2 with q | ⟨g2, f2, rfl, q1, q2, q3⟩
    · exact ⟨m, m, m, m, Nat.le_refl _, hm, Nat.le_refl _, hm, .inl (Nat.le_refl _), ownB_zero p hm, ownB_zero q hm⟩
    · exact ⟨m, m, g2, g2 + 1, Nat.le_refl _, hm, q1, q2, .inl q1, ownB_zero p hm, q3⟩
  · rcases ownB_at o2 with q | ⟨g2, f2, rfl, q1, q2, q3⟩
    · exact ⟨g1, g1 + 1, m, m, p1, p2, Nat.le_refl _, hm, .inr p1, p3, ownB_zero q hm⟩
    · have hne : g1 ≠ g2 := fun e => h3 g1 rfl (by rw [e]; rfl)
      exact ⟨g1, g1 + 1, g2, g2 + 1, p1, p2, q1, q2, by omega, p3, q3⟩
def apC (L : Lo) (r : Int) : Int := if lgC L = 0 then (if r = 0 then (if 4000 < L.n1 + L.n2 + 13 then 2 else 0) else r) else lgC L
def apS (L : Lo) (r : Int) : Int := if apC L r = 0 then (((L.n1 + L.n2) / 13 + 1 : Nat) : Int) else 0
def apL (L : Lo) (r : Int) (rs : List Int) : Lo := if apC L r = 0 then ⟨L.n1, L.z1, L.n2 + 13, zOf (zL L.z2 L.n2 ++ rs)⟩ else ⟨0, fun _ => 0, 0, fun _ => 0⟩
theorem ap_log {L : Lo} {r : Int} (rs : List Int) (h : lgC L ≠ 0) : apC L r = lgC L ∧ apS L r = 0 ∧ apL L r rs = ⟨0, fun _ => 0, 0, fun _ => 0⟩ := by
  have e : apC L r = lgC L := if_neg h
  exact ⟨e, if_neg (by rw [e]; exact h), if_neg (by rw [e]; exact h)⟩
theorem ap_rec {L : Lo} {r : Int} (rs : List Int) (h : lgC L = 0) (hr : r ≠ 0) : apC L r = r ∧ apS L r = 0 ∧ apL L r rs = ⟨0, fun _ => 0, 0, fun _ => 0⟩ := by
  have e : apC L r = r := by unfold apC; rw [if_pos h, if_neg hr]
  exact ⟨e, if_neg (by rw [e]; exact hr), if_neg (by rw [e]; exact hr)⟩
theorem ap_full {L : Lo} {r : Int} (rs : List Int) (h : lgC L = 0) (hr : r = 0) (hf : 4000 < L.n1 + L.n2 + 13) : apC L r = 2 ∧ apS L r = 0 ∧ apL L r rs = ⟨0, fun _ => 0, 0, fun _ => 0⟩ := by
  have e : apC L r = 2 := by unfold apC; rw [if_pos h, if_pos hr, if_pos hf]
  exact ⟨e, if_neg (by rw [e]; omega), if_neg (by rw [e]; omega)⟩
theorem ap_ok {L : Lo} {r : Int} (rs : List Int) (h : lgC L = 0) (hr : r = 0) (hf : L.n1 + L.n2 + 13 ≤ 4000) : apC L r = 0 ∧ apS L r = (((L.n1 + L.n2) / 13 + 1 : Nat) : Int) ∧ apL L r rs = ⟨L.n1, L.z1, L.n2 + 13, zOf (zL L.z2 L.n2 ++ rs)⟩ := by
  have e : apC L r = 0 := by unfold apC; rw [if_pos h, if_pos hr, if_neg (by omega)]
  exact ⟨e, if_pos e, if_pos e⟩
/-- An answer with a log out of its box. -/
theorem lres_two {s : Int} {n1 n2 d1 d2 m lo : Nat} {z1 : Nat → Int} {ys : List Int} {w wq w' : World} {x1 x2 : Option Addr} (hB : Below w.heap.size w wq) (hl : w.heap.size ≤ lo) (hlo : lo + 1 ≤ m) (hm : m ≤ wq.heap.size) (hy : ys.length = n2) (h2 : Two m wq (.slice x1 n1 d1) (.slice x2 n2 d2) (zL z1 n1) ys) (hw : Writes lo (lo + 1) wq w') (hs : w'.heap.size = wq.heap.size) :
    LRes 0 s ⟨n1, z1, n2, zOf ys⟩ w (.returned (.agg #[.int .i64 0, .int .i64 s, .slice x1 n1 d1, .slice x2 n2 d2])) w' := by
  have h3 := h2.writes hw fun q hq => by
    rcases hq with hq | hq
    · have := (own_lt2 h2.1 q hq).1; omega
    · have := (own_lt2 h2.2.1 q hq).1; omega
  exact ⟨x1, x2, d1, d2, rfl, Writes.below hB hw hl, (two_ownG h3 hy (by omega)).wide (by omega) (Nat.le_refl _) (Nat.le_refl _)⟩
set_option maxHeartbeats 4000000 in
theorem specAr_any (L : Lo) (a1 a2 : Option Addr) (c1 c2 : Nat) (k t key : Int) (hd : Bool) (old : Int) (hs : Bool) (nw bk : Int) (w : World) (hn1 : L.n1 ≤ 1048576) (hn2 : L.n2 ≤ 1048576) (hby : LogByt L) (h : LogAt w a1 a2 L) :
    Calls Try.prog 7 #[.agg #[.slice a1 L.n1 c1, .slice a2 L.n2 c2], .agg #[.int .i64 k, .int .i64 t, .int .i64 key, .bool hd, .int .i64 old, .bool hs, .int .i64 nw, .int .i64 bk]] w (LRes (apC L (rf k t key hd old hs nw bk)) (apS L (rf k t key hd old hs nw bk)) (apL L (rf k t key hd old hs nw bk) (rb k t key hd old hs nw bk)) w) := by
  have HA : Hid (LogAt w a1 a2 L) := h
  have HY : Hid (LogByt L) := hby
  have HBX : Hid (∀ o1 o2 o3 : Obj, o1 = .cells #[.slice a1 L.n1 c1, .slice a2 L.n2 c2] 28 → o2 = .cells #[.int .i64 k, .int .i64 t, .int .i64 key, .bool hd, .int .i64 old, .bool hs, .int .i64 nw, .int .i64 bk] 33 → o3 = .cells #[.int .i64 0, .int .i64 0, .slice none 0 0, .slice none 0 0] 30 → Box2 (((w.alloc o1).alloc o2).alloc o3) w.heap.size (.slice a1 L.n1 c1) (.slice a2 L.n2 c2) ∧ Box8 (((w.alloc o1).alloc o2).alloc o3) (w.heap.size + 1) k t key hd old hs nw bk ∧ Box4 (((w.alloc o1).alloc o2).alloc o3) (w.heap.size + 2) (.int .i64 0) (.int .i64 0) (.slice none 0 0) (.slice none 0 0) ∧ (∀ i, (((w.alloc o1).alloc o2).alloc o3).frozen? ⟨w.heap.size + 2, i, none⟩ = false) ∧ Below w.heap.size w (((w.alloc o1).alloc o2).alloc o3) ∧ (((w.alloc o1).alloc o2).alloc o3).heap.size = w.heap.size + 3) := by
    rintro o1 o2 o3 rfl rfl rfl
    exact ⟨⟨by simp [go_sem], by simp [go_sem]⟩, ⟨by simp [go_sem], by simp [go_sem], by simp [go_sem], by simp [go_sem], by simp [go_sem], by simp [go_sem], by simp [go_sem], by simp [go_sem]⟩, ⟨by simp [go_sem], by simp [go_sem], by simp [go_sem], by simp [go_sem]⟩, fun i => by simp [go_sem], (((Below.refl _ _).alloc (Nat.le_refl _) _).alloc (by simp) _).alloc (by simp; omega) _, by simp⟩
  clear h hby
  go_enter Try.func7, Try.ntmps7
  go_wp2_with fail
  obtain ⟨hb1, hb8, hb4, hbf, hbw, hbs⟩ := HBX.out _ _ _ rfl rfl rfl
  refine (specLf_any L a1 a2 c1 c2 _ hn1 hn2 HY.out (HA.out.below hbw)).mono ?_
  rintro e w1 ⟨rfl, hbb⟩
  have HB1 : Hid (Below w.heap.size w w1) := below_then hbw hbb
  have HL : Hid (Box2 w1 w.heap.size (.slice a1 L.n1 c1) (.slice a2 L.n2 c2)) := hb1.below hbb
  have HR8 : Hid (Box8 w1 (w.heap.size + 1) k t key hd old hs nw bk) := hb8.below hbb
  have HR4 : Hid (Box4 w1 (w.heap.size + 2) (.int .i64 0) (.int .i64 0) (.slice none 0 0) (.slice none 0 0)) := hb4.below hbb
  have HRF : Hid (∀ i, w1.frozen? ⟨w.heap.size + 2, i, none⟩ = false) := fun i => ((bcell hbb).2 _ _ (by rw [hbs]; omega)).trans (hbf i)
  have hz1 : w.heap.size + 3 ≤ w1.heap.size := by have := hbb.size; rw [hbs] at this; exact this
  clear hb1 hb8 hb4 hbf hbw hbs hbb HBX
  obtain ⟨e0, e1, e2, e3, e4, e5, e6, e7⟩ := HR8.out
  by_cases hc : lgC L = 0
  case neg =>
    have hcc : (lgC L != 0) = true := by simpa using hc
    have HX : Hid (∀ w', Below w.heap.size w w' → LRes (apC L (rf k t key hd old hs nw bk)) (apS L (rf k t key hd old hs nw bk)) (apL L (rf k t key hd old hs nw bk) (rb k t key hd old hs nw bk)) w (.returned (.agg #[.int .i64 (lgC L), .int .i64 0, .slice none 0 0, .slice none 0 0])) w') := fun w' hb => by
      obtain ⟨i1, i2, i3⟩ := ap_log (r := rf k t key hd old hs nw bk) (rb k t key hd old hs nw bk) hc
      rw [i1, i2, i3]; exact lres_none hb
    obtain ⟨r0, r1, r2, r3⟩ := HR4.out
    have fz := HRF.out
    clear hc e0 e1 e2 e3 e4 e5 e6 e7
    generalize lgC L = c at *
    go_wp2_with fail
    refine bodyPost_ret (v := .agg #[.int .i64 c, .int .i64 0, .slice none 0 0, .slice none 0 0]) (by simp [results, Try.results7, go_sem, r0, r1, r2, r3]) rfl ?_
    refine HX.out _ ?_
    repeat (first | with_reducible exact HB1.out | with_reducible refine Below.setCell ?_ (by first | omega | (simp <;> omega)) _)
  have hle := (lgC_zero hc).1
  have HC : Hid (lgC L = 0) := hc
  rw [hc]
  clear hc
  go_wp2_with fail
  refine (specRf_any k t key hd old hs nw bk w1).mono ?_
  rintro e w2 ⟨rfl, hb2⟩
  have HB2 : Hid (Below w1.heap.size w1 w2) := hb2
  clear hb2 e0 e1 e2 e3 e4 e5 e6 e7
  obtain ⟨r0, r1, r2, r3⟩ := HR4.out.below HB2.out
  have fz : ∀ i, w2.frozen? ⟨w.heap.size + 2, i, none⟩ = false := fun i => (HB2.out.frozen (p := ⟨w.heap.size + 2, i, none⟩) (by show w.heap.size + 2 < w1.heap.size; omega)).trans (HRF.out i)
  by_cases hr : rf k t key hd old hs nw bk = 0
  case neg =>
    have hcc : (rf k t key hd old hs nw bk != 0) = true := by simpa using hr
    have HX : Hid (∀ w', Below w.heap.size w w' → LRes (apC L (rf k t key hd old hs nw bk)) (apS L (rf k t key hd old hs nw bk)) (apL L (rf k t key hd old hs nw bk) (rb k t key hd old hs nw bk)) w (.returned (.agg #[.int .i64 (rf k t key hd old hs nw bk), .int .i64 0, .slice none 0 0, .slice none 0 0])) w') := fun w' hb => by
      obtain ⟨i1, i2, i3⟩ := ap_rec (rb k t key hd old hs nw bk) HC.out hr
      rw [i1, i2, i3]; exact lres_none hb
    have HBB : Hid (Below w.heap.size w w2) := below_then HB1.out HB2.out
    clear hr
    generalize rf k t key hd old hs nw bk = c at *
    go_wp2_with fail
    refine bodyPost_ret (v := .agg #[.int .i64 c, .int .i64 0, .slice none 0 0, .slice none 0 0]) (by simp [results, Try.results7, go_sem, r0, r1, r2, r3]) rfl ?_
    refine HX.out _ ?_
    repeat (first | with_reducible exact HBB.out | with_reducible refine Below.setCell ?_ (by first | omega | (simp <;> omega)) _)
  have HG : Hid (GoodR k t key hd old hs nw bk) := goodR_of k t key hd old hs nw bk hr
  have HRR : Hid (rf k t key hd old hs nw bk = 0) := hr
  rw [hr]
  obtain ⟨e0, e1, e2, e3, e4, e5, e6, e7⟩ := HR8.out.below HB2.out
  obtain ⟨l0, l1⟩ := HL.out.below HB2.out
  clear hr
  go_wp2_with fail
  refine (l3Append_any L a1 a2 c1 c2 k t key hd old hs nw bk w2 hle HG.out ((HA.out.below HB1.out).below HB2.out)).mono ?_
  rintro e w3 ⟨hb3, hr3⟩
  have HB3 : Hid (Below w.heap.size w w3) := below_then (below_then HB1.out HB2.out) hb3
  have hz2 := HB2.out.size
  have hz3 := hb3.size
  replace r0 := cell_below r0 hb3
  replace r1 := cell_below r1 hb3
  replace r2 := cell_below r2 hb3
  replace r3 := cell_below r3 hb3
  replace fz : ∀ i, w3.frozen? ⟨w.heap.size + 2, i, none⟩ = false := fun i => (hb3.frozen (p := ⟨w.heap.size + 2, i, none⟩) (by show w.heap.size + 2 < w2.heap.size; omega)).trans (fz i)
  clear hb3 e0 e1 e2 e3 e4 e5 e6 e7 l0 l1
  rcases hr3 with ⟨hf, rfl⟩ | ⟨hf, x1, d1, x2, d2, rfl, h2⟩
  · have HX : Hid (∀ w', Below w.heap.size w w' → LRes (apC L (rf k t key hd old hs nw bk)) (apS L (rf k t key hd old hs nw bk)) (apL L (rf k t key hd old hs nw bk) (rb k t key hd old hs nw bk)) w (.returned (.agg #[.int .i64 2, .int .i64 0, .slice none 0 0, .slice none 0 0])) w') := fun w' hb => by
      obtain ⟨i1, i2, i3⟩ := ap_full (rb k t key hd old hs nw bk) HC.out HRR.out hf
      rw [i1, i2, i3]; exact lres_none hb
    have R0 := fun o : Obj => cell_alloc r0 o
    have R1 := fun o : Obj => cell_alloc r1 o
    have R2 := fun o : Obj => cell_alloc r2 o
    have R3 := fun o : Obj => cell_alloc r3 o
    have FZ : ∀ i c t, (w3.alloc (.cells c t)).frozen? ⟨w.heap.size + 2, i, none⟩ = false := fun i c t => by rw [frozen?_alloc_cells]; exact fz i
    have HBA : Hid (∀ o : Obj, Below w.heap.size w (w3.alloc o)) := fun o => below_then HB3.out (below_new _ _)
    clear hf
    go_wp2_with fail
    refine bodyPost_ret (v := .agg #[.int .i64 2, .int .i64 0, .slice none 0 0, .slice none 0 0]) (by simp [results, Try.results7, go_sem, R0, R1, R2, R3]) rfl ?_
    refine HX.out _ ?_
    repeat (first | with_reducible exact HBA.out _ | with_reducible refine Below.setCell ?_ (by first | omega | (simp <;> omega)) _)
  · have hu7 : L.n1 + (L.n2 + 13) ≤ 1048576 := by omega
    have hlr : (zL L.z2 L.n2 ++ rb k t key hd old hs nw bk).length = L.n2 + 13 := by rw [List.length_append, zL_len, rb_len]
    have HLR : Hid ((zL L.z2 L.n2 ++ rb k t key hd old hs nw bk).length = L.n2 + 13) := hlr
    have H2 : Hid (Two (w2.heap.size + 2) w3 (.slice x1 L.n1 d1) (.slice x2 (L.n2 + 13) d2) (zL L.z1 L.n1) (zL L.z2 L.n2 ++ rb k t key hd old hs nw bk)) := h2
    have HF : Hid (L.n1 + L.n2 + 13 ≤ 4000) := hf
    clear h2 hlr hf
    go_upto_region 10 with fail
    obtain ⟨W, hW⟩ : ∃ y, y = w3.alloc (.cells #[.slice x1 L.n1 d1, .slice x2 (L.n2 + 13) d2] 28) := ⟨_, rfl⟩
    have HBW : Hid (Below w3.heap.size w3 W) := by rw [hW]; exact below_new _ _
    have y0 : W.cell? ⟨w3.heap.size, 0, none⟩ = some (.slice x1 L.n1 d1) := by rw [hW]; simp [go_sem]
    have y1 : W.cell? ⟨w3.heap.size, 1, none⟩ = some (.slice x2 (L.n2 + 13) d2) := by rw [hW]; simp [go_sem]
    rw [← hW]
    clear hW
    replace r0 := cell_below r0 HBW.out
    replace r1 := cell_below r1 HBW.out
    replace r2 := cell_below r2 HBW.out
    replace r3 := cell_below r3 HBW.out
    replace fz : ∀ i, W.frozen? ⟨w.heap.size + 2, i, none⟩ = false := fun i => (HBW.out.frozen (p := ⟨w.heap.size + 2, i, none⟩) (by show w.heap.size + 2 < w3.heap.size; omega)).trans (fz i)
    go_region_law (first | (go_simp; go_at_call 32; refine (l3Count_any ⟨L.n1, L.z1, L.n2 + 13, fun _ => 0⟩ x1 x2 d1 d2 _ hu7).mono ?_; rintro e wa ⟨rfl, hba⟩; have hB := drewB6 hba; have s0 := cell_below y0 hB; have s1 := cell_below y1 hB; have t0 := cell_below r0 hB; have t1 := cell_below r1 hB; have t2 := cell_below r2 hB; have t3 := cell_below r3 hB; have tf := fun i : Nat => (hB.frozen (p := ⟨w.heap.size + 2, i, none⟩) (by have := Go.block_lt_of_cell r0; exact this)).trans (fz i); have HBA : Hid (Below w3.heap.size w3 wa) := below_then HBW.out hB; clear hba hB))
    all_goals
      have hud : ((L.n1 : Int) + ((L.n2 : Int) + 13)) / 13 = (((L.n1 + L.n2) / 13 + 1 : Nat) : Int) := by omega
      have hud2 : ((L.n1 + (L.n2 + 13)) / 13 : Nat) = (L.n1 + L.n2) / 13 + 1 := by omega
      have HX : Hid (∀ w', Writes (w.heap.size + 2) (w.heap.size + 3) wa w' → w'.heap.size = wa.heap.size → LRes (apC L (rf k t key hd old hs nw bk)) (apS L (rf k t key hd old hs nw bk)) (apL L (rf k t key hd old hs nw bk) (rb k t key hd old hs nw bk)) w (.returned (.agg #[.int .i64 0, .int .i64 (((L.n1 + L.n2) / 13 + 1 : Nat) : Int), .slice x1 L.n1 d1, .slice x2 (L.n2 + 13) d2])) w') := fun w' hw hs7 => by
        obtain ⟨i1, i2, i3⟩ := ap_ok (rb k t key hd old hs nw bk) HC.out HRR.out HF.out
        rw [i1, i2, i3]
        exact lres_two (m := w2.heap.size) (below_then HB3.out HBA.out) (by omega) (by omega) (by have := HBA.out.size; omega) HLR.out ((H2.out.down (by omega)).below HBA.out) hw hs7
      obtain ⟨ns, hns⟩ : ∃ ns : Int, ns = (((L.n1 + L.n2) / 13 + 1 : Nat) : Int) := ⟨_, rfl⟩
      rw [← hns] at HX hud
      clear hns
      go_wp2_with fail
      refine bodyPost_ret (v := .agg #[.int .i64 0, .int .i64 ns, .slice x1 L.n1 d1, .slice x2 (L.n2 + 13) d2]) (by simp [results, Try.results7, go_sem, t0, t1, t2, t3, hud]) rfl ?_
      refine HX.out _ ?_ (by simp [World.setCell])
      repeat (first | with_reducible exact Writes.refl _ _ _ | with_reducible apply Writes.drew1 | with_reducible refine Writes.setCell ?_ (by first | omega | (simp <;> omega)) (by first | omega | (simp <;> omega)) _)
end Go.Proofs.Ytppckjecidcflaa
