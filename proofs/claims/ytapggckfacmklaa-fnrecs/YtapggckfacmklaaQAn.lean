/- AppendRec, by the model: spec.l3Append. -/
import Derived.Test.YtapggckfacmklaaQAm
namespace Go.Proofs.Ytapggckfacmklaa
open Go.RowKit Go.Deep
set_option linter.unusedVariables false
set_option maxRecDepth 20000

theorem zL_zOf (zs : List Int) : zL (zOf zs) zs.length = zs := by
  apply List.ext_getElem?
  intro i
  by_cases h : i < zs.length
  · rw [List.getElem?_eq_getElem h]
    simp [zL, zOf, h]
  · have h1 : zs[i]? = none := List.getElem?_eq_none (by omega)
    have h2 : (zL (zOf zs) zs.length)[i]? = none := List.getElem?_eq_none (by rw [zL_len]; omega)
    rw [h1, h2]
theorem Two.below {m : Nat} {w w' : World} {v1 v2 : Value} {xs ys : List Int} (h : Two m w v1 v2 xs ys) (hb : Below w.heap.size w w') : Two m w' v1 v2 xs ys :=
  ⟨own_keep h.1 fun q hq => hb.block q (own_lt2 h.1 q hq).2, own_keep h.2.1 fun q hq => hb.block q (own_lt2 h.2.1 q hq).2, h.2.2⟩
theorem Two.writes {m lo hi : Nat} {w w' : World} {v1 v2 : Value} {xs ys : List Int} (h : Two m w v1 v2 xs ys) (hw : Writes lo hi w w') (hd : ∀ q, (v1.ownBlock = some q ∨ v2.ownBlock = some q) → q < lo ∨ hi ≤ q) : Two m w' v1 v2 xs ys :=
  ⟨own_keep h.1 fun q hq => hw.block q (own_lt2 h.1 q hq).2 (hd q (.inl hq)), own_keep h.2.1 fun q hq => hw.block q (own_lt2 h.2.1 q hq).2 (hd q (.inr hq)), h.2.2⟩
/-- The second list has grown. -/
theorem Two.grow {m : Nat} {w w' : World} {v1 v2 v3 : Value} {xs ys zs : List Int} (h : Two m w v1 v2 xs ys) (hg : w.grownBy w' v2.ownBlock) (ho : w'.ownsRow m 5 1 v3 zs.length (bl zs)) (hl : ∀ q, v3.ownBlock = some q → v2.ownBlock = some q ∨ q = w.heap.size) : Two m w' v1 v3 xs zs := by
  refine ⟨own_keep h.1 fun q hq => ?_, ho, fun q hq hq3 => ?_⟩
  · exact hg.block q (own_lt2 h.1 q hq).2 fun e => h.2.2 q hq e.symm
  · rcases hl q hq3 with h1 | h1
    · exact h.2.2 q hq h1
    · have := (own_lt2 h.1 q hq).2; omega
theorem Two.down {m m' : Nat} {w : World} {v1 v2 : Value} {xs ys : List Int} (h : Two m w v1 v2 xs ys) (hm : m' ≤ m) : Two m' w v1 v2 xs ys := ⟨own_down h.1 hm, own_down h.2.1 hm, h.2.2⟩
theorem grown_w {w w' : World} {r : Option Nat} {lo hi : Nat} (hg : w.grownBy w' r) (h : ∀ q, r = some q → lo ≤ q ∧ q < hi) : Writes lo hi w w' :=
  ⟨hg.os, hg.tape, hg.output, hg.size, fun k hk hd => hg.block k hk fun e => by have := h k e.symm; omega⟩
theorem row_shape2 {w : World} {base n : Nat} {v : Value} {zs : List Int} (h : w.ownsRow base 5 1 v zs.length (bl zs)) (hn : zs.length = n) : ∃ a cap, v = .slice a n cap := by
  obtain ⟨a, cap, e, _⟩ := ownB_of_row h
  exact ⟨a, cap, by rw [e, hn]⟩
/-- What l3Append answers. -/
def ApA (L : Lo) (a1 a2 : Option Addr) (c1 c2 : Nat) (rs : List Int) (w : World) (e : Ending) (w' : World) : Prop :=
  Below w.heap.size w w' ∧ ((4000 < L.n1 + L.n2 + 13 ∧ e = .returned (.tuple #[.agg #[.slice a1 L.n1 c1, .slice a2 L.n2 c2], .int .i64 2])) ∨ (L.n1 + L.n2 + 13 ≤ 4000 ∧ ∃ x1 d1 x2 d2, e = .returned (.tuple #[.agg #[.slice x1 L.n1 d1, .slice x2 (L.n2 + 13) d2], .int .i64 0]) ∧ Two (w.heap.size + 2) w' (.slice x1 L.n1 d1) (.slice x2 (L.n2 + 13) d2) (zL L.z1 L.n1) (zL L.z2 L.n2 ++ rs)))
set_option maxHeartbeats 4000000 in
theorem l3Append_any (L : Lo) (a1 a2 : Option Addr) (c1 c2 : Nat) (k t key : Int) (hd : Bool) (old : Int) (hs : Bool) (nw bk : Int) (w : World) (hsz : L.n1 + L.n2 ≤ 4000) (g : GoodR k t key hd old hs nw bk) (h : LogAt w a1 a2 L) :
    Calls Try.prog 36 #[.agg #[.slice a1 L.n1 c1, .slice a2 L.n2 c2], .agg #[.int .i64 k, .int .i64 t, .int .i64 key, .bool hd, .int .i64 old, .bool hs, .int .i64 nw, .int .i64 bk]] w (ApA L a1 a2 c1 c2 (rb k t key hd old hs nw bk) w) := by
  have HA : Hid (LogAt w a1 a2 L) := h
  have HG : Hid (GoodR k t key hd old hs nw bk) := g
  have HBX : Hid (∀ o1 o2 o3 : Obj, o1 = .cells #[.slice a1 L.n1 c1, .slice a2 L.n2 c2] 25 → o2 = .cells #[.int .i64 k, .int .i64 t, .int .i64 key, .bool hd, .int .i64 old, .bool hs, .int .i64 nw, .int .i64 bk] 37 → o3 = .cells #[.slice none 0 0, .slice none 0 0] 25 → Box2 (((w.alloc o1).alloc o2).alloc o3) w.heap.size (.slice a1 L.n1 c1) (.slice a2 L.n2 c2) ∧ Box8 (((w.alloc o1).alloc o2).alloc o3) (w.heap.size + 1) k t key hd old hs nw bk ∧ Box2 (((w.alloc o1).alloc o2).alloc o3) (w.heap.size + 2) (.slice none 0 0) (.slice none 0 0) ∧ (∀ i, (((w.alloc o1).alloc o2).alloc o3).frozen? ⟨w.heap.size + 2, i, none⟩ = false) ∧ Below w.heap.size w (((w.alloc o1).alloc o2).alloc o3) ∧ (((w.alloc o1).alloc o2).alloc o3).heap.size = w.heap.size + 3) := by
    rintro o1 o2 o3 rfl rfl rfl
    exact ⟨⟨by simp [go_sem], by simp [go_sem]⟩, ⟨by simp [go_sem], by simp [go_sem], by simp [go_sem], by simp [go_sem], by simp [go_sem], by simp [go_sem], by simp [go_sem], by simp [go_sem]⟩, ⟨by simp [go_sem], by simp [go_sem]⟩, fun i => by simp [go_sem], (((Below.refl _ _).alloc (Nat.le_refl _) _).alloc (by simp) _).alloc (by simp; omega) _, by simp⟩
  clear h g
  go_enter Try.func36, Try.ntmps36
  go_wp2_with fail
  obtain ⟨hb1, hb8, hb2, hbf, hbw, hbs⟩ := HBX.out _ _ _ rfl rfl rfl
  refine (l3Copy_any L a1 a2 c1 c2 _ (by omega) (HA.out.below hbw)).mono ?_
  rintro e w1 ⟨v1, v2, rfl, hbb, h2⟩
  obtain ⟨x1, d1, rfl⟩ := row_shape2 h2.1 (zL_len _ _)
  obtain ⟨x2, d2, rfl⟩ := row_shape2 h2.2.1 (zL_len _ _)
  rw [hbs] at h2
  have HB1 : Hid (Below w.heap.size w w1) := below_then hbw hbb
  have HL : Hid (Box2 w1 w.heap.size (.slice a1 L.n1 c1) (.slice a2 L.n2 c2)) := hb1.below hbb
  have HR8 : Hid (Box8 w1 (w.heap.size + 1) k t key hd old hs nw bk) := hb8.below hbb
  have HR2 : Hid (Box2 w1 (w.heap.size + 2) (.slice none 0 0) (.slice none 0 0)) := hb2.below hbb
  have HRF : Hid (∀ i, w1.frozen? ⟨w.heap.size + 2, i, none⟩ = false) := fun i => ((bcell hbb).2 _ _ (by rw [hbs]; omega)).trans (hbf i)
  have H2 : Hid (Two (w.heap.size + 3) w1 (.slice x1 L.n1 d1) (.slice x2 L.n2 d2) (zL L.z1 L.n1) (zL L.z2 L.n2)) := h2.down (by omega)
  have hz1 : w.heap.size + 3 ≤ w1.heap.size := by have := hbb.size; rw [hbs] at this; exact this
  clear hb1 hb8 hb2 hbf hbw hbs hbb h2 HBX
  go_upto_region 2 with fail
  obtain ⟨W, hW⟩ : ∃ x, x = w1.alloc (.cells #[.slice x1 L.n1 d1, .slice x2 L.n2 d2] 25) := ⟨_, rfl⟩
  have HBW : Hid (Below w1.heap.size w1 W) := by rw [hW]; exact below_new _ _
  have o0 : W.cell? ⟨w1.heap.size, 0, none⟩ = some (.slice x1 L.n1 d1) := by rw [hW]; simp [go_sem]
  have o1 : W.cell? ⟨w1.heap.size, 1, none⟩ = some (.slice x2 L.n2 d2) := by rw [hW]; simp [go_sem]
  have of : ∀ i, W.frozen? ⟨w1.heap.size, i, none⟩ = false := fun i => by rw [hW]; simp [go_sem]
  have HWS : Hid (W.heap.size = w1.heap.size + 1) := by rw [hW]; exact World.size_alloc _ _
  rw [← hW]
  clear hW
  obtain ⟨e0, e1, e2, e3, e4, e5, e6, e7⟩ := HR8.out.below HBW.out
  have H2W : Hid (Two (w.heap.size + 3) W (.slice x1 L.n1 d1) (.slice x2 L.n2 d2) (zL L.z1 L.n1) (zL L.z2 L.n2)) := H2.out.below HBW.out
  have HB2 : Hid (∀ q, ((Value.slice x1 L.n1 d1).ownBlock = some q ∨ (Value.slice x2 L.n2 d2).ownBlock = some q) → q < w1.heap.size) := fun q hq => by
    rcases hq with hq | hq
    · exact (own_lt2 H2.out.1 q hq).2
    · exact (own_lt2 H2.out.2.1 q hq).2
  have HLN : Hid ((zL L.z2 L.n2).length + 13 ≤ 100000) := by show (zL L.z2 L.n2).length + 13 ≤ 100000; rw [zL_len]; omega
  have HZR : Hid (zL L.z2 L.n2 ++ zL (zOf (rb k t key hd old hs nw bk)) 13 = zL L.z2 L.n2 ++ rb k t key hd old hs nw bk) := by
    have h := zL_zOf (rb k t key hd old hs nw bk)
    rw [rb_len] at h
    show _ = _
    rw [h]
  have HLR : Hid ((zL L.z2 L.n2 ++ rb k t key hd old hs nw bk).length = L.n2 + 13) := by show _ = _; rw [List.length_append, zL_len, rb_len]
  go_region_law (first | (go_simp; go_at_call 49; refine (specL3_any k t key hd old hs nw bk _ HG.out).mono ?_; rintro e w3 ⟨v, rfl, hb3, ho3, -⟩; have hB3 := drewB6 hb3; obtain ⟨pa, pc, rfl, hown3⟩ := ownB_of_row ho3; rw [rb_len]; rw [rb_len] at hown3; have f0 := cell_below o0 hB3; have f1 := cell_below o1 hB3; have ff := fun i : Nat => (hB3.frozen (p := ⟨w1.heap.size, i, none⟩) (by have := Go.block_lt_of_cell o0; exact this)).trans (of i); clear hb3 ho3) | (refine step_appL w3 rfl (.tmp 10) (.tmp 12) rfl (w.heap.size + 3) (.slice x2 L.n2 d2) (zL L.z2 L.n2) rfl (H2W.out.below hB3).2.1 pa 13 pc (zOf (rb k t key hd old hs nw bk)) rfl hown3.at HLN.out (by have := hB3.size; have := HWS.out; omega) ?_; intro v4 w4 ho4 hg4 hl4; have hZ : zL L.z2 L.n2 ++ zL (zOf (rb k t key hd old hs nw bk)) 13 = zL L.z2 L.n2 ++ rb k t key hd old hs nw bk := HZR.out; rw [hZ] at ho4; obtain ⟨x4, d4, rfl⟩ := row_shape2 ho4 HLR.out; have hw4 : Writes (w.heap.size + 3) w1.heap.size w3 w4 := grown_w hg4 fun q hq => ⟨(own_lt2 H2.out.2.1 q hq).1, HB2.out q (.inr hq)⟩; have F4 := (H2W.out.below hB3).grow hg4 ho4 hl4; have N4 : ∀ q, (Value.slice x4 (L.n2 + 13) d4).ownBlock = some q → q < w1.heap.size ∨ w1.heap.size + 1 ≤ q := (fun q hq => by have h1 := hB3.size; have h2 := HWS.out; rcases hl4 q hq with h | h; exact .inl (HB2.out q (.inr h)); exact .inr (by omega)); have hz3 := hB3.size; have hWS := HWS.out; have g0 := (hw4.cell (by omega) (.inr (Nat.le_refl _)) 0).trans f0; have g1 := (hw4.cell (by omega) (.inr (Nat.le_refl _)) 1).trans f1; have gf := fun i : Nat => (World.frozen?_of_block (w := w3) (a := ⟨w1.heap.size, i, none⟩) (hw4.block w1.heap.size (by omega) (.inr (Nat.le_refl _)))).trans (ff i); clear ho4 hg4 hl4 hZ))
  all_goals
    obtain ⟨S, hS⟩ : ∃ x, x = w4.setCell ⟨w1.heap.size, 1, none⟩ (.slice x4 (L.n2 + 13) d4) := ⟨_, rfl⟩
    have hwS : Writes w1.heap.size (w1.heap.size + 1) w4 S := by rw [hS]; exact Writes.setCell (Writes.refl _ _ _) (p := ⟨w1.heap.size, 1, none⟩) (Nat.le_refl _) (Nat.lt_succ_self _) _
    have hz4 := hw4.size
    have s0 : S.cell? ⟨w1.heap.size, 0, none⟩ = some (.slice x1 L.n1 d1) := by rw [hS]; exact (setO (by omega)).trans g0
    have s1 : S.cell? ⟨w1.heap.size, 1, none⟩ = some (.slice x4 (L.n2 + 13) d4) := by rw [hS]; exact setS g1
    have hc : ∀ b i v, b < w.heap.size + 3 → w1.cell? ⟨b, i, none⟩ = some v → S.cell? ⟨b, i, none⟩ = some v := fun b i v hb hv =>
      (hwS.cell (by omega) (.inl (by omega)) i).trans ((hw4.cell (by omega) (.inl hb) i).trans (cell_below (cell_below hv HBW.out) hB3))
    have m0 := hc _ _ _ (by omega) HL.out.1
    have m1 := hc _ _ _ (by omega) HL.out.2
    have n0 := hc _ _ _ (by omega) HR2.out.1
    have n1 := hc _ _ _ (by omega) HR2.out.2
    have nf : ∀ i, S.frozen? ⟨w.heap.size + 2, i, none⟩ = false := fun i => by
      rw [World.frozen?_of_block (w := w4) (a := ⟨w.heap.size + 2, i, none⟩) (hwS.block (w.heap.size + 2) (by omega) (.inl (by omega))), World.frozen?_of_block (w := w3) (a := ⟨w.heap.size + 2, i, none⟩) (hw4.block (w.heap.size + 2) (by omega) (.inl (by omega)))]
      exact (hB3.frozen (p := ⟨w.heap.size + 2, i, none⟩) (by show w.heap.size + 2 < W.heap.size; omega)).trans ((HBW.out.frozen (p := ⟨w.heap.size + 2, i, none⟩) (by show w.heap.size + 2 < w1.heap.size; omega)).trans (HRF.out i))
    have HBS : Hid (Below w.heap.size w S) := Writes.below (Writes.below (below_then (below_then HB1.out HBW.out) hB3) hw4 (by omega)) hwS (by omega)
    have HTS : Hid (Two (w.heap.size + 3) S (.slice x1 L.n1 d1) (.slice x4 (L.n2 + 13) d4) (zL L.z1 L.n1) (zL L.z2 L.n2 ++ rb k t key hd old hs nw bk)) := F4.writes hwS fun q hq => by
      rcases hq with hq | hq
      · exact .inl (HB2.out q (.inl hq))
      · exact N4 q hq
    rw [← hS]
    clear hS hwS hc hw4 hB3 hown3 f0 f1 ff g0 g1 gf F4 N4 o0 o1 of e0 e1 e2 e3 e4 e5 e6 e7 hWS hz3 hz4 HZR HLR HLN
    have hwr : IntKind.i64.wrap ((L.n1 : Int) + ((L.n2 + 13 : Nat) : Int)) = ((L.n1 + L.n2 + 13 : Nat) : Int) := by rw [IntKind.wrap_i64]; omega
    by_cases ho : 4000 < L.n1 + L.n2 + 13
    · have ho1 : (4000 : Int) < ((L.n1 + L.n2 + 13 : Nat) : Int) := by omega
      go_wp2_with fail
      refine bodyPost_ret (v := .tuple #[.agg #[.slice a1 L.n1 c1, .slice a2 L.n2 c2], .int .i64 2]) (by simp [results, Try.results36, go_sem, n0, n1]) rfl ⟨?_, .inl ⟨ho, rfl⟩⟩
      repeat (first | with_reducible exact HBS.out | with_reducible refine Below.setCell ?_ (by first | omega | (simp <;> omega)) _)
    · have ho1 : ¬ ((4000 : Int) < (L.n1 : Int) + ((L.n2 : Int) + 13)) := by omega
      have ho2 : decide ((4000 : Int) < (L.n1 : Int) + ((L.n2 : Int) + 13)) = false := decide_eq_false ho1
      have HW7 : Hid (∀ w7, Writes (w.heap.size + 2) (w.heap.size + 3) S w7 → Two (w.heap.size + 2) w7 (.slice x1 L.n1 d1) (.slice x4 (L.n2 + 13) d4) (zL L.z1 L.n1) (zL L.z2 L.n2 ++ rb k t key hd old hs nw bk)) := fun w7 h7 =>
        (HTS.out.writes h7 fun q hq => by
          rcases hq with hq | hq
          · exact .inr (own_lt2 HTS.out.1 q hq).1
          · exact .inr (own_lt2 HTS.out.2.1 q hq).1).down (by omega)
      clear HTS
      go_wp2_with fail
      refine bodyPost_ret (v := .tuple #[.agg #[.slice x1 L.n1 d1, .slice x4 (L.n2 + 13) d4], .int .i64 0]) (by simp [results, Try.results36, go_sem, n0, n1]) rfl ⟨?_, .inr ⟨by omega, x1, d1, x4, d4, rfl, HW7.out _ ?_⟩⟩
      · repeat (first | with_reducible exact HBS.out | with_reducible refine Below.setCell ?_ (by first | omega | (simp <;> omega)) _)
      · repeat (first | with_reducible exact Writes.refl _ _ _ | with_reducible refine Writes.setCell ?_ (by first | omega | (simp <;> omega)) (by first | omega | (simp <;> omega)) _)
end Go.Proofs.Ytapggckfacmklaa
