/- Copies of a store's disk and log, as stores need them; a copy under way, whichever piece comes first. -/
import Derived.Test.YtannmobmmnoegaaGreatQAm
import Derived.Test.YtannmobmmnoegaaGreatQDg
import Derived.Test.YtannmobmmnoegaaGreatQCca
import Derived.Test.YtannmobmmnoegaaGreatQZfd
import Derived.Test.YtannmobmmnoegaaGreatQWai
namespace Go.Proofs.YtannmobmmnoegaaGreat
open Go.RowKit Go.Deep
set_option linter.unusedVariables false
set_option maxRecDepth 20000
open Go.ChangeShapes Go.WideShapes Go.ChangeAt Go.RowKit Go.Deep Go.Joins

theorem zL_zOf (zs : List Int) : zL (zOf zs) zs.length = zs := by
  apply List.ext_getElem?
  intro i
  by_cases h : i < zs.length
  · rw [List.getElem?_eq_getElem h]
    simp [zL, zOf, h]
  · have h1 : zs[i]? = none := List.getElem?_eq_none (by omega)
    have h2 : (zL (zOf zs) zs.length)[i]? = none := List.getElem?_eq_none (by rw [zL_len]; omega)
    rw [h1, h2]
theorem Two.below {m : Nat} {w w' : World} {v1 v2 : Value} {xs ys : List Int} (h : Two m w v1 v2 xs ys) (hb : Below w.heap.size w w') : Two m w' v1 v2 xs ys :=
  ⟨own_keep h.1 fun q hq => hb.block q (own_lt2 h.1 q hq).2, own_keep h.2.1 fun q hq => hb.block q (own_lt2 h.2.1 q hq).2, h.2.2⟩
theorem Two.writes {m lo hi : Nat} {w w' : World} {v1 v2 : Value} {xs ys : List Int} (h : Two m w v1 v2 xs ys) (hw : Writes lo hi w w') (hd : ∀ q, (v1.ownBlock = some q ∨ v2.ownBlock = some q) → q < lo ∨ hi ≤ q) : Two m w' v1 v2 xs ys :=
  ⟨own_keep h.1 fun q hq => hw.block q (own_lt2 h.1 q hq).2 (hd q (.inl hq)), own_keep h.2.1 fun q hq => hw.block q (own_lt2 h.2.1 q hq).2 (hd q (.inr hq)), h.2.2⟩
/-- The second list has grown. -/
theorem Two.grow {m : Nat} {w w' : World} {v1 v2 v3 : Value} {xs ys zs : List Int} (h : Two m w v1 v2 xs ys) (hg : w.grownBy w' v2.ownBlock) (ho : w'.ownsRow m 5 1 v3 zs.length (bl zs)) (hl : ∀ q, v3.ownBlock = some q → v2.ownBlock = some q ∨ q = w.heap.size) : Two m w' v1 v3 xs zs := by
  refine ⟨own_keep h.1 fun q hq => ?_, ho, fun q hq hq3 => ?_⟩
  · exact hg.block q (own_lt2 h.1 q hq).2 fun e => h.2.2 q hq e.symm
  · rcases hl q hq3 with h1 | h1
    · exact h.2.2 q hq h1
    · have := (own_lt2 h.1 q hq).2; omega
theorem Two.down {m m' : Nat} {w : World} {v1 v2 : Value} {xs ys : List Int} (h : Two m w v1 v2 xs ys) (hm : m' ≤ m) : Two m' w v1 v2 xs ys := ⟨own_down h.1 hm, own_down h.2.1 hm, h.2.2⟩
theorem grown_w {w w' : World} {r : Option Nat} {lo hi : Nat} (hg : w.grownBy w' r) (h : ∀ q, r = some q → lo ≤ q ∧ q < hi) : Writes lo hi w w' :=
  ⟨hg.os, hg.tape, hg.output, hg.size, fun k hk hd => hg.block k hk fun e => by have := h k e.symm; omega⟩
theorem row_shape2 {w : World} {base n : Nat} {v : Value} {zs : List Int} (h : w.ownsRow base 5 1 v zs.length (bl zs)) (hn : zs.length = n) : ∃ a cap, v = .slice a n cap := by
  obtain ⟨a, cap, e, _⟩ := ownB_of_row h
  exact ⟨a, cap, by rw [e, hn]⟩
/-- What l3Append answers. -/
def ApA (L : Lo) (a1 a2 : Option Addr) (c1 c2 : Nat) (rs : List Int) (w : World) (e : Ending) (w' : World) : Prop :=
  Below w.heap.size w w' ∧ ((4000 < L.n1 + L.n2 + 13 ∧ e = .returned (.tuple #[.agg #[.slice a1 L.n1 c1, .slice a2 L.n2 c2], .int .i64 2])) ∨ (L.n1 + L.n2 + 13 ≤ 4000 ∧ ∃ x1 d1 x2 d2, e = .returned (.tuple #[.agg #[.slice x1 L.n1 d1, .slice x2 (L.n2 + 13) d2], .int .i64 0]) ∧ Two (w.heap.size + 2) w' (.slice x1 L.n1 d1) (.slice x2 (L.n2 + 13) d2) (zL L.z1 L.n1) (zL L.z2 L.n2 ++ rs)))
set_option maxHeartbeats 4000000 in
theorem l3Append_any (L : Lo) (a1 a2 : Option Addr) (c1 c2 : Nat) (k t key : Int) (hd : Bool) (old : Int) (hs : Bool) (nw bk : Int) (w : World) (hsz : L.n1 + L.n2 ≤ 4000) (g : GoodR k t key hd old hs nw bk) (h : LogAt w a1 a2 L) :
    Calls Tryz.prog 99 #[.agg #[.slice a1 L.n1 c1, .slice a2 L.n2 c2], .agg #[.int .i64 k, .int .i64 t, .int .i64 key, .bool hd, .int .i64 old, .bool hs, .int .i64 nw, .int .i64 bk]] w (ApA L a1 a2 c1 c2 (rb k t key hd old hs nw bk) w) := by
  have HA : Hid (LogAt w a1 a2 L) := h
  have HG : Hid (GoodR k t key hd old hs nw bk) := g
  have HBX : Hid (∀ o1 o2 o3 : Obj, o1 = .cells #[.slice a1 L.n1 c1, .slice a2 L.n2 c2] 39 → o2 = .cells #[.int .i64 k, .int .i64 t, .int .i64 key, .bool hd, .int .i64 old, .bool hs, .int .i64 nw, .int .i64 bk] 67 → o3 = .cells #[.slice none 0 0, .slice none 0 0] 39 → Box2 (((w.alloc o1).alloc o2).alloc o3) w.heap.size (.slice a1 L.n1 c1) (.slice a2 L.n2 c2) ∧ Box8 (((w.alloc o1).alloc o2).alloc o3) (w.heap.size + 1) k t key hd old hs nw bk ∧ Box2 (((w.alloc o1).alloc o2).alloc o3) (w.heap.size + 2) (.slice none 0 0) (.slice none 0 0) ∧ (∀ i, (((w.alloc o1).alloc o2).alloc o3).frozen? ⟨w.heap.size + 2, i, none⟩ = false) ∧ Below w.heap.size w (((w.alloc o1).alloc o2).alloc o3) ∧ (((w.alloc o1).alloc o2).alloc o3).heap.size = w.heap.size + 3) := by
    rintro o1 o2 o3 rfl rfl rfl
    exact ⟨⟨by simp [go_sem], by simp [go_sem]⟩, ⟨by simp [go_sem], by simp [go_sem], by simp [go_sem], by simp [go_sem], by simp [go_sem], by simp [go_sem], by simp [go_sem], by simp [go_sem]⟩, ⟨by simp [go_sem], by simp [go_sem]⟩, fun i => by simp [go_sem], (((Below.refl _ _).alloc (Nat.le_refl _) _).alloc (by simp) _).alloc (by simp; omega) _, by simp⟩
  clear h g
  go_enter Tryz.func99, Tryz.ntmps99
  go_wp2_with fail
  obtain ⟨hb1, hb8, hb2, hbf, hbw, hbs⟩ := HBX.out _ _ _ rfl rfl rfl
  refine (l3Copy_any L a1 a2 c1 c2 _ (by omega) (HA.out.below hbw)).mono ?_
  rintro e w1 ⟨v1, v2, rfl, hbb, h2⟩
  obtain ⟨x1, d1, rfl⟩ := row_shape2 h2.1 (zL_len _ _)
  obtain ⟨x2, d2, rfl⟩ := row_shape2 h2.2.1 (zL_len _ _)
  rw [hbs] at h2
  have HB1 : Hid (Below w.heap.size w w1) := below_then hbw hbb
  have HL : Hid (Box2 w1 w.heap.size (.slice a1 L.n1 c1) (.slice a2 L.n2 c2)) := hb1.below hbb
  have HR8 : Hid (Box8 w1 (w.heap.size + 1) k t key hd old hs nw bk) := hb8.below hbb
  have HR2 : Hid (Box2 w1 (w.heap.size + 2) (.slice none 0 0) (.slice none 0 0)) := hb2.below hbb
  have HRF : Hid (∀ i, w1.frozen? ⟨w.heap.size + 2, i, none⟩ = false) := fun i => ((bcell hbb).2 _ _ (by rw [hbs]; omega)).trans (hbf i)
  have H2 : Hid (Two (w.heap.size + 3) w1 (.slice x1 L.n1 d1) (.slice x2 L.n2 d2) (zL L.z1 L.n1) (zL L.z2 L.n2)) := h2.down (by omega)
  have hz1 : w.heap.size + 3 ≤ w1.heap.size := by have := hbb.size; rw [hbs] at this; exact this
  clear hb1 hb8 hb2 hbf hbw hbs hbb h2 HBX
  go_upto_region 2 with fail
  obtain ⟨W, hW⟩ : ∃ x, x = w1.alloc (.cells #[.slice x1 L.n1 d1, .slice x2 L.n2 d2] 39) := ⟨_, rfl⟩
  have HBW : Hid (Below w1.heap.size w1 W) := by rw [hW]; exact below_new _ _
  have o0 : W.cell? ⟨w1.heap.size, 0, none⟩ = some (.slice x1 L.n1 d1) := by rw [hW]; simp [go_sem]
  have o1 : W.cell? ⟨w1.heap.size, 1, none⟩ = some (.slice x2 L.n2 d2) := by rw [hW]; simp [go_sem]
  have of : ∀ i, W.frozen? ⟨w1.heap.size, i, none⟩ = false := fun i => by rw [hW]; simp [go_sem]
  have HWS : Hid (W.heap.size = w1.heap.size + 1) := by rw [hW]; exact World.size_alloc _ _
  rw [← hW]
  clear hW
  obtain ⟨e0, e1, e2, e3, e4, e5, e6, e7⟩ := HR8.out.below HBW.out
  have H2W : Hid (Two (w.heap.size + 3) W (.slice x1 L.n1 d1) (.slice x2 L.n2 d2) (zL L.z1 L.n1) (zL L.z2 L.n2)) := H2.out.below HBW.out
  have HB2 : Hid (∀ q, ((Value.slice x1 L.n1 d1).ownBlock = some q ∨ (Value.slice x2 L.n2 d2).ownBlock = some q) → q < w1.heap.size) := fun q hq => by
    rcases hq with hq | hq
    · exact (own_lt2 H2.out.1 q hq).2
    · exact (own_lt2 H2.out.2.1 q hq).2
  have HLN : Hid ((zL L.z2 L.n2).length + 13 ≤ 100000) := by show (zL L.z2 L.n2).length + 13 ≤ 100000; rw [zL_len]; omega
  have HZR : Hid (zL L.z2 L.n2 ++ zL (zOf (rb k t key hd old hs nw bk)) 13 = zL L.z2 L.n2 ++ rb k t key hd old hs nw bk) := by
    have h := zL_zOf (rb k t key hd old hs nw bk)
    rw [rb_len] at h
    show _ = _
    rw [h]
  have HLR : Hid ((zL L.z2 L.n2 ++ rb k t key hd old hs nw bk).length = L.n2 + 13) := by show _ = _; rw [List.length_append, zL_len, rb_len]
  go_region_law (first | (go_simp; go_at_call 152; refine (specL3_any k t key hd old hs nw bk _ HG.out).mono ?_; rintro e w3 ⟨v, rfl, hb3, ho3, -⟩; have hB3 := drewB6 hb3; obtain ⟨pa, pc, rfl, hown3⟩ := ownB_of_row ho3; rw [rb_len]; rw [rb_len] at hown3; have f0 := cell_below o0 hB3; have f1 := cell_below o1 hB3; have ff := fun i : Nat => (hB3.frozen (p := ⟨w1.heap.size, i, none⟩) (by have := Go.block_lt_of_cell o0; exact this)).trans (of i); clear hb3 ho3) | (refine step_appL w3 rfl (.tmp 10) (.tmp 12) rfl (w.heap.size + 3) (.slice x2 L.n2 d2) (zL L.z2 L.n2) rfl (H2W.out.below hB3).2.1 pa 13 pc (zOf (rb k t key hd old hs nw bk)) rfl hown3.at HLN.out (by have := hB3.size; have := HWS.out; omega) ?_; intro v4 w4 ho4 hg4 hl4; have hZ : zL L.z2 L.n2 ++ zL (zOf (rb k t key hd old hs nw bk)) 13 = zL L.z2 L.n2 ++ rb k t key hd old hs nw bk := HZR.out; rw [hZ] at ho4; obtain ⟨x4, d4, rfl⟩ := row_shape2 ho4 HLR.out; have hw4 : Writes (w.heap.size + 3) w1.heap.size w3 w4 := grown_w hg4 fun q hq => ⟨(own_lt2 H2.out.2.1 q hq).1, HB2.out q (.inr hq)⟩; have F4 := (H2W.out.below hB3).grow hg4 ho4 hl4; have N4 : ∀ q, (Value.slice x4 (L.n2 + 13) d4).ownBlock = some q → q < w1.heap.size ∨ w1.heap.size + 1 ≤ q := (fun q hq => by have h1 := hB3.size; have h2 := HWS.out; rcases hl4 q hq with h | h; exact .inl (HB2.out q (.inr h)); exact .inr (by omega)); have hz3 := hB3.size; have hWS := HWS.out; have g0 := (hw4.cell (by omega) (.inr (Nat.le_refl _)) 0).trans f0; have g1 := (hw4.cell (by omega) (.inr (Nat.le_refl _)) 1).trans f1; have gf := fun i : Nat => (World.frozen?_of_block (w := w3) (a := ⟨w1.heap.size, i, none⟩) (hw4.block w1.heap.size (by omega) (.inr (Nat.le_refl _)))).trans (ff i); clear ho4 hg4 hl4 hZ))
  all_goals
    obtain ⟨S, hS⟩ : ∃ x, x = w4.setCell ⟨w1.heap.size, 1, none⟩ (.slice x4 (L.n2 + 13) d4) := ⟨_, rfl⟩
    have hwS : Writes w1.heap.size (w1.heap.size + 1) w4 S := by rw [hS]; exact Writes.setCell (Writes.refl _ _ _) (p := ⟨w1.heap.size, 1, none⟩) (Nat.le_refl _) (Nat.lt_succ_self _) _
    have hz4 := hw4.size
    have s0 : S.cell? ⟨w1.heap.size, 0, none⟩ = some (.slice x1 L.n1 d1) := by rw [hS]; exact (setO (by omega)).trans g0
    have s1 : S.cell? ⟨w1.heap.size, 1, none⟩ = some (.slice x4 (L.n2 + 13) d4) := by rw [hS]; exact setS g1
    have hc : ∀ b i v, b < w.heap.size + 3 → w1.cell? ⟨b, i, none⟩ = some v → S.cell? ⟨b, i, none⟩ = some v := fun b i v hb hv =>
      (hwS.cell (by omega) (.inl (by omega)) i).trans ((hw4.cell (by omega) (.inl hb) i).trans (cell_below (cell_below hv HBW.out) hB3))
    have m0 := hc _ _ _ (by omega) HL.out.1
    have m1 := hc _ _ _ (by omega) HL.out.2
    have n0 := hc _ _ _ (by omega) HR2.out.1
    have n1 := hc _ _ _ (by omega) HR2.out.2
    have nf : ∀ i, S.frozen? ⟨w.heap.size + 2, i, none⟩ = false := fun i => by
      rw [World.frozen?_of_block (w := w4) (a := ⟨w.heap.size + 2, i, none⟩) (hwS.block (w.heap.size + 2) (by omega) (.inl (by omega))), World.frozen?_of_block (w := w3) (a := ⟨w.heap.size + 2, i, none⟩) (hw4.block (w.heap.size + 2) (by omega) (.inl (by omega)))]
      exact (hB3.frozen (p := ⟨w.heap.size + 2, i, none⟩) (by show w.heap.size + 2 < W.heap.size; omega)).trans ((HBW.out.frozen (p := ⟨w.heap.size + 2, i, none⟩) (by show w.heap.size + 2 < w1.heap.size; omega)).trans (HRF.out i))
    have HBS : Hid (Below w.heap.size w S) := Writes.below (Writes.below (below_then (below_then HB1.out HBW.out) hB3) hw4 (by omega)) hwS (by omega)
    have HTS : Hid (Two (w.heap.size + 3) S (.slice x1 L.n1 d1) (.slice x4 (L.n2 + 13) d4) (zL L.z1 L.n1) (zL L.z2 L.n2 ++ rb k t key hd old hs nw bk)) := F4.writes hwS fun q hq => by
      rcases hq with hq | hq
      · exact .inl (HB2.out q (.inl hq))
      · exact N4 q hq
    rw [← hS]
    clear hS hwS hc hw4 hB3 hown3 f0 f1 ff g0 g1 gf F4 N4 o0 o1 of e0 e1 e2 e3 e4 e5 e6 e7 hWS hz3 hz4 HZR HLR HLN
    have hwr : IntKind.i64.wrap ((L.n1 : Int) + ((L.n2 + 13 : Nat) : Int)) = ((L.n1 + L.n2 + 13 : Nat) : Int) := by rw [IntKind.wrap_i64]; omega
    by_cases ho : 4000 < L.n1 + L.n2 + 13
    · have ho1 : (4000 : Int) < ((L.n1 + L.n2 + 13 : Nat) : Int) := by omega
      go_wp2_with fail
      refine bodyPost_ret (v := .tuple #[.agg #[.slice a1 L.n1 c1, .slice a2 L.n2 c2], .int .i64 2]) (by simp [results, Tryz.results99, go_sem, n0, n1]) rfl ⟨?_, .inl ⟨ho, rfl⟩⟩
      repeat (first | with_reducible exact HBS.out | with_reducible refine Below.setCell ?_ (by first | omega | (simp <;> omega)) _)
    · have ho1 : ¬ ((4000 : Int) < (L.n1 : Int) + ((L.n2 : Int) + 13)) := by omega
      have ho2 : decide ((4000 : Int) < (L.n1 : Int) + ((L.n2 : Int) + 13)) = false := decide_eq_false ho1
      have HW7 : Hid (∀ w7, Writes (w.heap.size + 2) (w.heap.size + 3) S w7 → Two (w.heap.size + 2) w7 (.slice x1 L.n1 d1) (.slice x4 (L.n2 + 13) d4) (zL L.z1 L.n1) (zL L.z2 L.n2 ++ rb k t key hd old hs nw bk)) := fun w7 h7 =>
        (HTS.out.writes h7 fun q hq => by
          rcases hq with hq | hq
          · exact .inr (own_lt2 HTS.out.1 q hq).1
          · exact .inr (own_lt2 HTS.out.2.1 q hq).1).down (by omega)
      clear HTS
      go_wp2_with fail
      refine bodyPost_ret (v := .tuple #[.agg #[.slice x1 L.n1 d1, .slice x4 (L.n2 + 13) d4], .int .i64 0]) (by simp [results, Tryz.results99, go_sem, n0, n1]) rfl ⟨?_, .inr ⟨by omega, x1, d1, x4, d4, rfl, HW7.out _ ?_⟩⟩
      · repeat (first | with_reducible exact HBS.out | with_reducible refine Below.setCell ?_ (by first | omega | (simp <;> omega)) _)
      · repeat (first | with_reducible exact Writes.refl _ _ _ | with_reducible refine Writes.setCell ?_ (by first | omega | (simp <;> omega)) (by first | omega | (simp <;> omega)) _)
theorem ownB_at {w : World} {lo hi n : Nat} {a : Option Addr} {z : Nat → Int} (h : OwnB w lo hi a n z) : n = 0 ∨ ∃ g off, a = some ⟨g, off, none⟩ ∧ lo ≤ g ∧ g < hi ∧ OwnB w g (g + 1) a n z := by
  obtain ⟨h0, h1 | ⟨b, off, ha, hl, hh, r⟩⟩ := h
  · exact .inl h1
  · exact .inr ⟨b, off, ha, hl, hh, by omega, .inr ⟨b, off, ha, Nat.le_refl _, Nat.lt_succ_self _, r⟩⟩
theorem ownB_zero {w : World} {lo n : Nat} {a : Option Addr} {z : Nat → Int} (h : n = 0) (hl : lo ≤ w.heap.size) : OwnB w lo lo a n z := ⟨hl, .inl h⟩
theorem two_ownG {w : World} {m n1 n2 d1 d2 : Nat} {x1 x2 : Option Addr} {z1 : Nat → Int} {ys : List Int} (h : Two m w (.slice x1 n1 d1) (.slice x2 n2 d2) (zL z1 n1) ys) (hy : ys.length = n2) (hm : m ≤ w.heap.size) : OwnG w m w.heap.size x1 x2 ⟨n1, z1, n2, zOf ys⟩ := by
  obtain ⟨h1, h2, h3⟩ := h
  obtain ⟨y1, e1, k1, o1⟩ := ownB_of_row h1
  obtain ⟨y2, e2, k2, o2⟩ := ownB_of_row h2
  simp only [Value.slice.injEq] at k1 k2
  obtain ⟨rfl, -, -⟩ := k1
  obtain ⟨rfl, -, -⟩ := k2
  rw [zL_len] at o1
  rw [hy] at o2
  have o1' := ownB_zL o1
  refine ⟨Nat.le_refl _, ?_⟩
  rcases ownB_at o1' with p | ⟨g1, f1, rfl, p1, p2, p3⟩
  · rcases ownB_at o2 with q | ⟨g2, f2, rfl, q1, q2, q3⟩
    · exact ⟨m, m, m, m, Nat.le_refl _, hm, Nat.le_refl _, hm, .inl (Nat.le_refl _), ownB_zero p hm, ownB_zero q hm⟩
    · exact ⟨m, m, g2, g2 + 1, Nat.le_refl _, hm, q1, q2, .inl q1, ownB_zero p hm, q3⟩
  · rcases ownB_at o2 with q | ⟨g2, f2, rfl, q1, q2, q3⟩
    · exact ⟨g1, g1 + 1, m, m, p1, p2, Nat.le_refl _, hm, .inr p1, p3, ownB_zero q hm⟩
    · have hne : g1 ≠ g2 := fun e => h3 g1 rfl (by rw [e]; rfl)
      exact ⟨g1, g1 + 1, g2, g2 + 1, p1, p2, q1, q2, by omega, p3, q3⟩
def apC (L : Lo) (r : Int) : Int := if lgC L = 0 then (if r = 0 then (if 4000 < L.n1 + L.n2 + 13 then 2 else 0) else r) else lgC L
def apS (L : Lo) (r : Int) : Int := if apC L r = 0 then (((L.n1 + L.n2) / 13 + 1 : Nat) : Int) else 0
def apL (L : Lo) (r : Int) (rs : List Int) : Lo := if apC L r = 0 then ⟨L.n1, L.z1, L.n2 + 13, zOf (zL L.z2 L.n2 ++ rs)⟩ else ⟨0, fun _ => 0, 0, fun _ => 0⟩
theorem ap_log {L : Lo} {r : Int} (rs : List Int) (h : lgC L ≠ 0) : apC L r = lgC L ∧ apS L r = 0 ∧ apL L r rs = ⟨0, fun _ => 0, 0, fun _ => 0⟩ := by
  have e : apC L r = lgC L := if_neg h
  exact ⟨e, if_neg (by rw [e]; exact h), if_neg (by rw [e]; exact h)⟩
theorem ap_rec {L : Lo} {r : Int} (rs : List Int) (h : lgC L = 0) (hr : r ≠ 0) : apC L r = r ∧ apS L r = 0 ∧ apL L r rs = ⟨0, fun _ => 0, 0, fun _ => 0⟩ := by
  have e : apC L r = r := by unfold apC; rw [if_pos h, if_neg hr]
  exact ⟨e, if_neg (by rw [e]; exact hr), if_neg (by rw [e]; exact hr)⟩
theorem ap_full {L : Lo} {r : Int} (rs : List Int) (h : lgC L = 0) (hr : r = 0) (hf : 4000 < L.n1 + L.n2 + 13) : apC L r = 2 ∧ apS L r = 0 ∧ apL L r rs = ⟨0, fun _ => 0, 0, fun _ => 0⟩ := by
  have e : apC L r = 2 := by unfold apC; rw [if_pos h, if_pos hr, if_pos hf]
  exact ⟨e, if_neg (by rw [e]; omega), if_neg (by rw [e]; omega)⟩
theorem ap_ok {L : Lo} {r : Int} (rs : List Int) (h : lgC L = 0) (hr : r = 0) (hf : L.n1 + L.n2 + 13 ≤ 4000) : apC L r = 0 ∧ apS L r = (((L.n1 + L.n2) / 13 + 1 : Nat) : Int) ∧ apL L r rs = ⟨L.n1, L.z1, L.n2 + 13, zOf (zL L.z2 L.n2 ++ rs)⟩ := by
  have e : apC L r = 0 := by unfold apC; rw [if_pos h, if_pos hr, if_neg (by omega)]
  exact ⟨e, if_pos e, if_pos e⟩
theorem OwnP.lens {w : World} {lo hi : Nat} {a : Option Addr} {n : Nat} {L L' : Nat → Nat} {Z : Nat → Nat → Int} (h : OwnP w lo hi a n L Z) (e : ∀ i, i < n → L i = L' i) : OwnP w lo hi a n L' Z := by
  obtain ⟨h0, h1 | ⟨b, off, ha, hlo, hl, g, o, c, hj, hc⟩⟩ := h
  · exact ⟨h0, .inl h1⟩
  · exact ⟨h0, .inr ⟨b, off, ha, hlo, hl, g, o, c, hj, fun i hi => by rw [← e i hi]; exact hc i hi⟩⟩
theorem OwnL.lens {w : World} {lo hi : Nat} {a : Option Addr} {n : Nat} {P T : Nat → Int} {L L' : Nat → Nat} {Z : Nat → Nat → Int} (h : OwnL w lo hi a n P T L Z) (e : ∀ i, i < n → L i = L' i) : OwnL w lo hi a n P T L' Z := by
  obtain ⟨h0, h1 | ⟨b, off, ha, hlo, hl, g, o, c, hj, hc⟩⟩ := h
  · exact ⟨h0, .inl h1⟩
  · exact ⟨h0, .inr ⟨b, off, ha, hlo, hl, g, o, c, hj, fun i hi => by rw [← e i hi]; exact hc i hi⟩⟩
/-- A disk that is answered, in blocks of its own. -/
def NewD (w w' : World) (v : Value) (D : Dk) : Prop := ∃ a c a' c', v = .agg #[.slice a D.n c, .slice a' D.m c'] ∧ OwnD w' w.heap.size w'.heap.size a a' D
def NewG (w w' : World) (v : Value) (L : Lo) : Prop := ∃ a c a' c', v = .agg #[.slice a L.n1 c, .slice a' L.n2 c'] ∧ OwnG w' w.heap.size w'.heap.size a a' L
theorem l2Copy_new (D : Dk) (a a' : Option Addr) (cap cap' : Nat) (w : World) (hD : GoodD D) (h : DiskAt w a a' D) :
    Calls Tryz.prog 97 #[.agg #[.slice a D.n cap, .slice a' D.m cap']] w fun e w' => ∃ v, e = .returned v ∧ Below w.heap.size w w' ∧ NewD w w' v D := by
  refine (l2Copy_any D.n D.m D.L D.Z D.P D.T D.M D.Y a a' cap cap' w hD.n8 hD.m hD.L hD.M h.1 h.2).mono ?_
  rintro e w' ⟨av, cv, v, mid, rfl, hb, hm, hp, hl⟩
  obtain ⟨al, cl, rfl, _, ho⟩ := hl.own
  have hmid := hp.1
  exact ⟨_, rfl, hb, av, cv, al, cl, rfl, Nat.le_refl _, w.heap.size, mid, mid, w'.heap.size, Nat.le_refl _, hmid, hm, Nat.le_refl _, .inl (Nat.le_refl _), hp.lens fun i hi => (hD.L i hi).symm, ho.lens fun i hi => (hD.M i hi).symm⟩
theorem OwnG.vals {w : World} {lo hi : Nat} {a a' : Option Addr} {L L' : Lo} (h : OwnG w lo hi a a' L) (e1 : L.n1 = L'.n1) (e2 : L.n2 = L'.n2) (e3 : ∀ i, i < L.n1 → L.z1 i = L'.z1 i) (e4 : ∀ i, i < L.n2 → L.z2 i = L'.z2 i) : OwnG w lo hi a a' L' := by
  obtain ⟨h0, l1, u1, l2, u2, k1, k2, k3, k4, k5, p1, p2⟩ := h
  refine ⟨h0, l1, u1, l2, u2, k1, k2, k3, k4, k5, ?_, ?_⟩
  · obtain ⟨q0, q1 | ⟨g, off, ha, q2, q3, q4, q5⟩⟩ := p1
    · exact ⟨q0, .inl (by omega)⟩
    · exact ⟨q0, .inr ⟨g, off, ha, q2, q3, fun i hi => by rw [← e3 i (by omega)]; exact q4 i (by omega), fun i hi => q5 i (by omega)⟩⟩
  · obtain ⟨q0, q1 | ⟨g, off, ha, q2, q3, q4, q5⟩⟩ := p2
    · exact ⟨q0, .inl (by omega)⟩
    · exact ⟨q0, .inr ⟨g, off, ha, q2, q3, fun i hi => by rw [← e4 i (by omega)]; exact q4 i (by omega), fun i hi => q5 i (by omega)⟩⟩
theorem l3Copy_new (L : Lo) (a1 a2 : Option Addr) (c1 c2 : Nat) (w : World) (hs : L.n1 + L.n2 ≤ 90000) (h : LogAt w a1 a2 L) :
    Calls Tryz.prog 98 #[.agg #[.slice a1 L.n1 c1, .slice a2 L.n2 c2]] w fun e w' => ∃ v, e = .returned v ∧ Below w.heap.size w w' ∧ NewG w w' v L := by
  refine (l3Copy_any L a1 a2 c1 c2 w hs h).mono ?_
  rintro e w' ⟨v1, v2, rfl, hb, h2⟩
  obtain ⟨y1, e1, k1, -⟩ := ownB_of_row h2.1
  obtain ⟨y2, e2, k2, -⟩ := ownB_of_row h2.2.1
  rw [zL_len] at k1 k2
  subst k1 k2
  have hle : w.heap.size ≤ w'.heap.size := hb.size
  have hm : w.heap.size + 2 ≤ w'.heap.size ∨ (L.n1 = 0 ∧ L.n2 = 0) := by
    rcases h2.1.2 with ⟨_, q⟩ | ⟨g, _, _, _, q1, q2, _⟩
    · rcases h2.2.1.2 with ⟨_, q'⟩ | ⟨g, _, _, _, q1, q2, _⟩
      · rw [zL_len] at q q'; exact .inr ⟨q, q'⟩
      · left; have := (Array.getElem?_eq_some_iff.1 q2).1; omega
    · left; have := (Array.getElem?_eq_some_iff.1 q2).1; omega
  refine ⟨_, rfl, hb, y1, e1, y2, e2, rfl, ?_⟩
  rcases hm with hm | ⟨q1, q2⟩
  · have ho := two_ownG h2 (by rw [zL_len]) hm
    have h3 := ho.vals (L' := L) rfl rfl (fun i hi => rfl) (fun i hi => by show zOf (zL L.z2 L.n2) i = L.z2 i; have hi2 : i < L.n2 := hi; simp [zOf, zL, hi2])
    exact h3.wide (lo' := w.heap.size) (by omega) (Nat.le_refl _) (Nat.le_refl _)
  · exact ⟨Nat.le_refl _, w.heap.size, w.heap.size, w.heap.size, w.heap.size, Nat.le_refl _, hle, Nat.le_refl _, hle, .inl (Nat.le_refl _), ⟨hle, .inl q1⟩, ⟨hle, .inl q2⟩⟩
/-- Blocks between two sizes get a colour. -/
def colr (col : Nat → Nat) (m n k : Nat) (x : Nat) : Nat := if m ≤ x ∧ x < n then k else col x
theorem colr_new {col : Nat → Nat} {m n k x : Nat} (h1 : m ≤ x) (h2 : x < n) : colr col m n k x = k := if_pos ⟨h1, h2⟩
theorem colr_old {col : Nat → Nat} {m n k x : Nat} (h : x < m) : colr col m n k x = col x := if_neg (by omega)
/-- A copy of a store's lists but its pages under way: of each piece whether it is made. -/
structure LCi (t : Sto) (U0 : World) (col : Nat → Nat) (x4 x7 x8 x11 x12 x15 x17 : Bool) (v10 v13 v14 v17 v18 v21 v3 : Value) (w : World) : Prop where
  below : Below U0.heap.size U0 w
  hc : ∀ x, col x ≠ 0 → U0.heap.size ≤ x ∧ x < w.heap.size
  p4 : x4 = true → ∃ a c a' c' l h, v10 = .agg #[.slice a t.d.n c, .slice a' t.d.m c'] ∧ (∀ x, l ≤ x → x < h → col x = 2) ∧ OwnD w l h a a' t.d
  p7 : x7 = true → ∃ a c a' c' l h, v13 = .agg #[.slice a t.g.n1 c, .slice a' t.g.n2 c'] ∧ (∀ x, l ≤ x → x < h → col x = 3) ∧ OwnG w l h a a' t.g
  p8 : x8 = true → ∃ p, v14 = .slice (some ⟨p, 0, none⟩) 0 0
  p11 : x11 = true → ∃ a c l h, v17 = .slice a t.hn c ∧ (∀ x, l ≤ x → x < h → col x = 4) ∧ Own w l h a t.hn t.hK t.hV ∧ t.hn ≤ c
  p12 : x12 = true → ∃ p, v18 = .slice (some ⟨p, 0, none⟩) 0 0
  p15 : x15 = true → ∃ a c l h, v21 = .slice a t.on c ∧ (∀ x, l ≤ x → x < h → col x = 5) ∧ OwnI w l h a t.on t.oF ∧ t.on ≤ c
  p17 : x17 = true → ∃ B, v3 = .pointer (some ⟨B, 0, none⟩) ∧ col B = 0 ∧ U0.heap.size ≤ B ∧ BoxS w B (.int .i64 0) (.slice none 0 0) (.slice none 0 0) (.slice none 0 0) (.slice none 0 0) (.slice none 0 0) (.slice none 0 0) (.slice none 0 0) ∧ ∀ i, w.frozen? ⟨B, i, none⟩ = false
section
variable {t : Sto} {U0 w w' : World} {col : Nat → Nat} {x4 x7 x8 x11 x12 x15 x17 : Bool} {v10 v13 v14 v17 v18 v21 v3 : Value}
/-- More memory, of one colour or none: what is made stays. -/
theorem LCi.grow (H : LCi t U0 col x4 x7 x8 x11 x12 x15 x17 v10 v13 v14 v17 v18 v21 v3 w) (hb : Below w.heap.size w w') (k : Nat) : LCi t U0 (colr col w.heap.size w'.heap.size k) x4 x7 x8 x11 x12 x15 x17 v10 v13 v14 v17 v18 v21 v3 w' := by
  obtain ⟨h1, h2, h4, h7, h8, h11, h12, h15, h17⟩ := H
  have old : ∀ (j : Nat), j ≠ 0 → ∀ l h, (∀ x, l ≤ x → x < h → col x = j) → ∀ x, l ≤ x → x < h → colr col w.heap.size w'.heap.size k x = j := fun j hj l h q x q1 q2 => by
    have e := q x q1 q2
    have := h2 x (by omega)
    rw [colr_old this.2]; exact e
  have hs := h1.size
  have hs2 := hb.size
  refine ⟨below_then h1 hb, fun x hx => ?_, fun e => ?_, fun e => ?_, h8, fun e => ?_, h12, fun e => ?_, fun e => ?_⟩
  · by_cases c : w.heap.size ≤ x ∧ x < w'.heap.size
    · omega
    · unfold colr at hx; rw [if_neg c] at hx; have := h2 x hx; omega
  · obtain ⟨a, c, a', c', l, h, q1, q2, q3⟩ := h4 e
    exact ⟨a, c, a', c', l, h, q1, old 2 (by omega) l h q2, q3.below hb⟩
  · obtain ⟨a, c, a', c', l, h, q1, q2, q3⟩ := h7 e
    exact ⟨a, c, a', c', l, h, q1, old 3 (by omega) l h q2, q3.below hb⟩
  · obtain ⟨a, c, l, h, q1, q2, q3⟩ := h11 e
    exact ⟨a, c, l, h, q1, old 4 (by omega) l h q2, q3.1.below hb, q3.2⟩
  · obtain ⟨a, c, l, h, q1, q2, q3⟩ := h15 e
    exact ⟨a, c, l, h, q1, old 5 (by omega) l h q2, q3.1.below hb, q3.2⟩
  · obtain ⟨B, q1, q2, q3, q4, q5⟩ := h17 e
    exact ⟨B, q1, by rw [colr_old q4.lt]; exact q2, q3, q4.below hb, fun i => (hb.frozen (p := ⟨B, i, none⟩) q4.lt).trans (q5 i)⟩
theorem LCi.s4 (H : LCi t U0 col x4 x7 x8 x11 x12 x15 x17 v10 v13 v14 v17 v18 v21 v3 w) (hb : Below w.heap.size w w') {v : Value} (hn : NewD w w' v t.d) : LCi t U0 (colr col w.heap.size w'.heap.size 2) true x7 x8 x11 x12 x15 x17 v v13 v14 v17 v18 v21 v3 w' := by
  obtain ⟨a, c, a', c', rfl, ho⟩ := hn
  exact {H.grow hb 2 with p4 := fun _ => ⟨a, c, a', c', w.heap.size, w'.heap.size, rfl, fun x h1 h2 => colr_new h1 h2, ho⟩}
theorem LCi.s7 (H : LCi t U0 col x4 x7 x8 x11 x12 x15 x17 v10 v13 v14 v17 v18 v21 v3 w) (hb : Below w.heap.size w w') {v : Value} (hn : NewG w w' v t.g) : LCi t U0 (colr col w.heap.size w'.heap.size 3) x4 true x8 x11 x12 x15 x17 v10 v v14 v17 v18 v21 v3 w' := by
  obtain ⟨a, c, a', c', rfl, ho⟩ := hn
  exact {H.grow hb 3 with p7 := fun _ => ⟨a, c, a', c', w.heap.size, w'.heap.size, rfl, fun x h1 h2 => colr_new h1 h2, ho⟩}
theorem LCi.s8 (H : LCi t U0 col x4 x7 x8 x11 x12 x15 x17 v10 v13 v14 v17 v18 v21 v3 w) (hb : Below w.heap.size w w') (p : Nat) : LCi t U0 (colr col w.heap.size w'.heap.size 0) x4 x7 true x11 x12 x15 x17 v10 v13 (.slice (some ⟨p, 0, none⟩) 0 0) v17 v18 v21 v3 w' :=
  {H.grow hb 0 with p8 := fun _ => ⟨p, rfl⟩}
theorem LCi.s12 (H : LCi t U0 col x4 x7 x8 x11 x12 x15 x17 v10 v13 v14 v17 v18 v21 v3 w) (hb : Below w.heap.size w w') (p : Nat) : LCi t U0 (colr col w.heap.size w'.heap.size 0) x4 x7 x8 x11 true x15 x17 v10 v13 v14 v17 (.slice (some ⟨p, 0, none⟩) 0 0) v21 v3 w' :=
  {H.grow hb 0 with p12 := fun _ => ⟨p, rfl⟩}
theorem LCi.s11 (H : LCi t U0 col x4 x7 x8 x11 x12 x15 x17 v10 v13 v14 v17 v18 v21 v3 w) (hb : Below w.heap.size w w') {v : Value} (hn : NewHl w w' v t.hn t.hK t.hV) : LCi t U0 (colr col w.heap.size w'.heap.size 4) x4 x7 x8 true x12 x15 x17 v10 v13 v14 v v18 v21 v3 w' := by
  obtain ⟨a, c, rfl, hc, ho⟩ := hn
  exact {H.grow hb 4 with p11 := fun _ => ⟨a, c, w.heap.size, w'.heap.size, rfl, fun x h1 h2 => colr_new h1 h2, ho, hc⟩}
theorem LCi.s15 (H : LCi t U0 col x4 x7 x8 x11 x12 x15 x17 v10 v13 v14 v17 v18 v21 v3 w) (hb : Below w.heap.size w w') {v : Value} (hn : NewIl w w' v t.on t.oF) : LCi t U0 (colr col w.heap.size w'.heap.size 5) x4 x7 x8 x11 x12 true x17 v10 v13 v14 v17 v18 v v3 w' := by
  obtain ⟨a, c, rfl, hc, ho⟩ := hn
  exact {H.grow hb 5 with p15 := fun _ => ⟨a, c, w.heap.size, w'.heap.size, rfl, fun x h1 h2 => colr_new h1 h2, ho, hc⟩}
theorem LCi.s17 (H : LCi t U0 col x4 x7 x8 x11 x12 x15 x17 v10 v13 v14 v17 v18 v21 v3 w) (ty : TypeId) : LCi t U0 (colr col w.heap.size (w.alloc (.cells #[.int .i64 0, .slice none 0 0, .slice none 0 0, .slice none 0 0, .slice none 0 0, .slice none 0 0, .slice none 0 0, .slice none 0 0] ty)).heap.size 0) x4 x7 x8 x11 x12 x15 true v10 v13 v14 v17 v18 v21 (.pointer (some ⟨w.heap.size, 0, none⟩)) (w.alloc (.cells #[.int .i64 0, .slice none 0 0, .slice none 0 0, .slice none 0 0, .slice none 0 0, .slice none 0 0, .slice none 0 0, .slice none 0 0] ty)) :=
  {H.grow (below_new _ _) 0 with p17 := fun _ => ⟨w.heap.size, rfl, colr_new (Nat.le_refl _) (by simp), H.below.size, BoxS.new _ _ _ _ _ _ _ _ _ _, fun i => by simp [go_sem]⟩}
end
end Go.Proofs.YtannmobmmnoegaaGreat
