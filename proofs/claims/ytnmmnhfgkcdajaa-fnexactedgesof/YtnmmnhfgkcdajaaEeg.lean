/- Edges where they stand first: the program's eachOnce, walked. -/
import Derived.Test.YtnmmnhfgkcdajaaEef
namespace Go.Proofs.Ytnmmnhfgkcdajaa
open Go.RowKit Go.Shelf Go.Deep Go.Maps
set_option linter.unusedVariables false
attribute [local go_sem] Oper.semAt_some

/-- Where eachOnce stands, p having come. -/
def EO (w : World) (W : World) (p : List Ed) : Prop :=
  ((∃ v, Boxed W (w.heap.size + 1 + 1) 40 v ∧ OwnE W w.heap.size v (addAll [] p)) ∧ Boxed W (w.heap.size + 1) 81 (.map (some w.heap.size)) ∧
    ∃ nn D, W.ownsMap Try.prog 61 (plainElem (H := Unit) Try.prog 3) w.heap.size nn D ∧ nn ≤ p.length ∧ MapE p D) ∧ Below w.heap.size w W
theorem ke_put {Bo l : Nat} {W : World} {o o' : Obj} (hh : W.heap[l]? = some o) (hc : o.isCells = false) (hne : Bo ≠ l) : KE Bo (ExO Bo) W (W.putObj l o') := by
  have hg := grownBy_putObj' W l o'
  have hcell : (W.putObj l o').cell? ⟨Bo, 0, none⟩ = W.cell? ⟨Bo, 0, none⟩ := World.cell?_of_block (w := W) (a := ⟨Bo, 0, none⟩) (World.putObj_heap_other hne)
  have hex : ∀ b, ExO Bo (W.putObj l o') b → ExO Bo W b := fun b hx => by
    rcases hx with q | ⟨len, c9, q⟩
    · exact .inl q
    · exact .inr ⟨len, c9, hcell.symm.trans q⟩
  exact ⟨hg.size, fun q => Nat.lt_of_lt_of_le q hg.size, fun b i v _ e => cell_kept e hg (fun r e2 => by cases e2; exact ⟨_, hh, hc⟩), fun b hx => .inl (hex b hx), fun q b hx => Nat.lt_of_lt_of_le (q b (hex b hx)) hg.size⟩
theorem eo_own {α : Type} {f : α → Ed} {w : World} {B : Nat} (hB : w.heap.size < B) : OwnFrom B (fun (pre : List α) W => EO w W (pre.map f)) := by
  rintro s A A' row ⟨⟨⟨v, hv, ho⟩, hc, nn, D, hm, hnn, hME⟩, hb⟩ hg hr
  obtain ⟨v', hv', ho', _⟩ := holdsRow_own (β := List Ed) w.heap.size (w.heap.size + 1 + 1) 40 61 3 (fun p => (addAll [] p).length) (fun p => el (addAll [] p)) (fun _ _ => True) (s.map f) A A' row ⟨v, hv, ho, trivial⟩ hg (fun r e => (hr r e).2)
  refine ⟨⟨⟨v', hv', ho'⟩, boxed_own (w.heap.size + 1) 81 (fun (_ : Unit) => Value.map (some w.heap.size)) () A A' row hc hg (fun r e => (hr r e).2), nn, D, hm.kept hg (fun e => ?_), hnn, hME⟩, hb.grown hg hb.size (fun k e => ?_)⟩
  · have := (hr _ e.symm).1; omega
  · have := (hr k e).1; omega
theorem own_not_map {W : World} {v : Value} {L : List Ed} {B bm : Nat} {es : Array MapEntry} {ck : Nat} (ho : OwnE W B v L) (hh : W.heap[bm]? = some (.map es ck)) : v.ownBlock ≠ some bm := fun hq => by
  rcases ho.2 with ⟨rfl, _⟩ | ⟨g, cap, cur, rfl, _, hg2, _⟩
  · simp [Value.ownBlock] at hq
  · simp only [Value.ownBlock, Option.some.injEq] at hq
    subst hq
    rw [hh] at hg2
    cases hg2
theorem mixedT : Try.prog.follows .mixedOrders = true := by kernel_rfl
theorem own_map {W W2 : World} {v : Value} {L : List Ed} {B bm : Nat} {es : Array MapEntry} {ck : Nat} (ho : OwnE W B v L) (hg : W.grownBy W2 (some bm)) (hh : W.heap[bm]? = some (.map es ck)) : OwnE W2 B v L :=
  ownI_keep ho fun q hq => hg.block q (ownI_lt ho q hq).2 fun e => by
    simp only [Option.some.injEq] at e
    subst e
    rcases ho.2 with ⟨rfl, _⟩ | ⟨g, cap, cur, rfl, _, hg2, _⟩
    · simp [Value.ownBlock] at hq
    · simp only [Value.ownBlock, Option.some.injEq] at hq
      subst hq
      rw [hh] at hg2
      cases hg2
theorem ke_map {Bo bm : Nat} {W W2 : World} {es : Array MapEntry} {ck : Nat} (hg : W.grownBy W2 (some bm)) (hh : W.heap[bm]? = some (.map es ck)) (hne : Bo ≠ bm) (hBo : Bo < W.heap.size) : KE Bo (ExO Bo) W W2 := by
  have hcell : W2.cell? ⟨Bo, 0, none⟩ = W.cell? ⟨Bo, 0, none⟩ := World.cell?_of_block (w := W) (a := ⟨Bo, 0, none⟩) (hg.block Bo hBo (fun e => hne (by injection e)))
  have hex : ∀ b, ExO Bo W2 b → ExO Bo W b := fun b hx => by
    rcases hx with q | ⟨len, c9, q⟩
    · exact .inl q
    · exact .inr ⟨len, c9, hcell.symm.trans q⟩
  exact ⟨hg.size, fun q => Nat.lt_of_lt_of_le q hg.size, fun b i v _ e => cell_kept e hg (fun r e2 => by cases e2; exact ⟨_, hh, rfl⟩), fun b hx => .inl (hex b hx), fun q b hx => Nat.lt_of_lt_of_le (q b (hex b hx)) hg.size⟩
theorem ke_app {Bo g len cap : Nat} {W w1 : World} {v : Value} {tmp : Obj} {t : TypeId} {L : List Ed} {B : Nat} (hv : Boxed W Bo t v) (hte : t ≠ 61) (ho : OwnE W B v L) (hg : (W.alloc tmp).grownBy w1 v.ownBlock) (hl : v.ownBlock = some g ∨ g = (W.alloc tmp).heap.size) (hlt : g < w1.heap.size) :
    KE Bo (ExO Bo) W (w1.setCell ⟨Bo, 0, none⟩ (.slice (some ⟨g, 0, none⟩) len cap)) := by
  have hBo := hv.lt
  have hs1 : W.heap.size ≤ w1.heap.size := Nat.le_trans (by simp) hg.size
  have hsz : (w1.setCell ⟨Bo, 0, none⟩ (.slice (some ⟨g, 0, none⟩) len cap)).heap.size = w1.heap.size := by simp [World.setCell]
  have hown : ∀ q, v.ownBlock = some q → ExO Bo W q := fun q hq => by
    rcases ho.2 with ⟨rfl, _⟩ | ⟨g2, c2, cur, rfl, _⟩
    · simp [Value.ownBlock] at hq
    · simp only [Value.ownBlock, Option.some.injEq] at hq
      subst hq
      exact .inr ⟨_, _, hv.cell⟩
  have hexg : ∀ b, ExO Bo (w1.setCell ⟨Bo, 0, none⟩ (.slice (some ⟨g, 0, none⟩) len cap)) b → b = Bo ∨ b = g := fun b hx => by
    rcases hx with q | ⟨l9, c9, q⟩
    · exact .inl q
    · right
      have hb : ∃ u, w1.cell? ⟨Bo, 0, none⟩ = some u := by
        by_cases z : v.ownBlock = some Bo
        · exfalso
          exact hv.not_row hte ho z.symm
        · exact ⟨v, (World.cell?_of_block (w := W.alloc tmp) (a := ⟨Bo, 0, none⟩) (hg.block Bo (by simp; omega) (fun e => z e.symm))).trans (cell_alloc hv.cell _)⟩
      obtain ⟨u, hu⟩ := hb
      rw [World.cell?_setCell_same' w1 ⟨Bo, 0, none⟩ _ (by rw [hu]; rfl)] at q
      simp at q
      exact q.1.symm
  refine ⟨by omega, fun q => by omega, fun b i u hb hc => ?_, fun b hx => ?_, fun q b hx => ?_⟩
  · have hbl : b < W.heap.size := Go.block_lt_of_cell hc
    have hne : Bo ≠ b := fun e => hb (.inl e.symm)
    have h1 : w1.cell? ⟨b, i, none⟩ = some u := (World.cell?_of_block (w := W.alloc tmp) (a := ⟨b, i, none⟩) (hg.block b (by simp; omega) (fun e => hb (hown b e.symm)))).trans (cell_alloc hc _)
    exact (World.cell?_of_block (w := w1) (a := ⟨b, i, none⟩) (Below.heap_setCell _ _ _ b (fun e => hne e.symm))).trans h1
  · rcases hexg b hx with q | q
    · exact .inl (.inl q)
    · subst q
      rcases hl with z | z
      · exact .inl (hown _ z)
      · right; rw [z]; simp
  · rcases hexg b hx with z | z
    · omega
    · omega
set_option maxRecDepth 100000 in
set_option maxHeartbeats 1000000 in
theorem eachOnce_any (M : Nat) (hM : M = 32) (n : Nat) (R : Nat → Hp) (cm : List Int) (a ca : Option Addr) (cc Bh Bc : Nat) (w : World) (hn : n ≤ 400) (hhi : hiF R n = 0) (hl : cm.length ≤ 400) (hWF : ∀ e ∈ eI R n cm M, wfE e) (hLM : (eI R n cm M).length ≤ 38400)
    (hB1 : Bh < w.heap.size) (hB2 : Bc < w.heap.size) (hBh : w.cell? ⟨Bh, 0, none⟩ = some (.slice a n n)) (hBc : w.cell? ⟨Bc, 0, none⟩ = some (.slice ca cm.length cc)) (h : HopsAt w a n R) (hi : IntsAt w ca cm.length (zI cm)) :
    Calls Try.prog 48 #[.func (.func 62) #[] #[.pointer (some ⟨Bh, 0, none⟩), .pointer (some ⟨Bc, 0, none⟩)]] w (ERs (addAll [] (eI R n cm M)) w) := by
  refine (callsIn_wide (n := 6)).1 ?_
  have hF : ∀ f, Fence.wide.fn f := fun _ => trivial
  have hmm := @run_makeMap Try.prog
  refine callsIn_of_wp_marks Try.func48 rfl (hF _) ?_ rfl
  simp only [Try.ntmps48, List.size_toArray, List.length_cons, List.length_nil, Nat.reduceAdd, Nat.reduceSub, Array.replicate_succ, Array.replicate_zero, List.push_toArray, List.append_toArray, List.nil_append, List.cons_append]
  gi_wp2_with fail
  clear hmm
  have hm0 := World.ownsMap_made w Try.prog 61 (plainElem (H := Unit) Try.prog 3)
  have bS := (Boxed.new (w.alloc (.map #[] 0)) 81 (.map (some w.heap.size))).alloc (.cells #[.slice none 0 0] 40)
  have bN := Boxed.new ((w.alloc (.map #[] 0)).alloc (.cells #[.map (some w.heap.size)] 81)) 40 (.slice none 0 0)
  simp only [World.size_alloc] at bS bN
  have hB0 : Below w.heap.size w (((w.alloc (.map #[] 0)).alloc (.cells #[.map (some w.heap.size)] 81)).alloc (.cells #[.slice none 0 0] 40)) := (((Below.refl _ w).alloc (Nat.le_refl _) _).alloc (by simp) _).alloc (by simp; omega) _
  have hsz : (((w.alloc (.map #[] 0)).alloc (.cells #[.map (some w.heap.size)] 81)).alloc (.cells #[.slice none 0 0] 40)).heap.size = w.heap.size + 3 := by simp
  have hm3 := (hm0.alloc (.cells #[.map (some w.heap.size)] 81)).alloc (.cells #[.slice none 0 0] 40)
  obtain ⟨W0, hW0⟩ : ∃ W0, ((w.alloc (.map #[] 0)).alloc (.cells #[.map (some w.heap.size)] 81)).alloc (.cells #[.slice none 0 0] 40) = W0 := ⟨_, rfl⟩
  rw [hW0] at bS bN hB0 hsz hm3 ⊢
  clear hW0 hm0
  have hnx : ∀ b, b < w.heap.size → ¬ ExO (w.heap.size + 1 + 1) W0 b := fun b hb hx => by
    rcases hx with q | ⟨len, c9, q⟩
    · omega
    · rw [bN.cell] at q; simp at q
  have hV : ∀ b, ExO (w.heap.size + 1 + 1) W0 b → b < W0.heap.size := fun b hx => by
    rcases hx with q | ⟨len, c9, q⟩
    · omega
    · rw [bN.cell] at q; simp at q
  have hxh : HopsX (ExO (w.heap.size + 1 + 1)) W0 a n R := by
    rcases h with q | ⟨b, off, ha, hlb, hc⟩
    · exact .inl q
    · exact .inr ⟨b, off, ha, by omega, hnx b hlb, fun i hi => (hc i hi).block (hB0.block _ hlb)⟩
  have hxi : IntsX (ExO (w.heap.size + 1 + 1)) W0 ca cm.length (zI cm) := by
    rcases hi with q | ⟨b, off, ha, hlb, hc⟩
    · exact .inl q
    · exact .inr ⟨b, off, ha, by omega, hnx b hlb, fun i hi => cell_below (hc i hi) hB0⟩
  refine wpIn_rangeFunc_ownH rfl (by omega) (gf := 62) (lb := #[.pointer (some ⟨Bh, 0, none⟩), .pointer (some ⟨Bc, 0, none⟩)]) rfl (hF _) (enters_of Try.func62 (by kernel_rfl) rfl)
    (edgesIn_stopsW (w.heap.size + 1 + 1) (ExO (w.heap.size + 1 + 1)) (exO _) M hM _ (by omega) n R cm a ca n cc Bh Bc hn hhi hl W0 (by omega) (by omega) (cell_below hBh hB0) (cell_below hBc hB0) (by omega) hV (hnx _ hB1) (hnx _ hB2) hxh hxi) KE.trans
    (fun W l o o' hlw hh hc hw => ke_put hh hc (by omega)) (Below.refl _ _) (fun _ => rfl)
    (fun pre W => EO w W (pre.map (fun x => x.1)))
    (fun _ _ _ => False)
    (eo_own (by omega))
    (fun _ _ _ _ _ hs _ _ => hs)
    ⟨⟨⟨_, bN, World.ownsRow_nil _ _ _ _⟩, bS, 0, .map [], hm3, Nat.zero_le _, fun e _ => rfl⟩, hB0⟩
    (fun x a' W => ∃ Bx vb, w.heap.size + 1 + 1 < Bx ∧ (W.cell? ⟨w.heap.size + 1 + 1, 0, none⟩ = some vb ∧ vb.ownBlock ≠ some Bx) ∧ (W.cell? ⟨Bx, 0, none⟩ = some (.int .i64 x.1.f) ∧ W.cell? ⟨Bx, 1, none⟩ = some (.int .i64 x.1.t) ∧ W.cell? ⟨Bx, 2, none⟩ = some (.int .i64 x.1.k)) ∧ a' = { tmps := #[.func (.func 62) #[] #[.pointer (some ⟨Bh, 0, none⟩), .pointer (some ⟨Bc, 0, none⟩)], undef, .slice none 0 0, .pointer (some ⟨w.heap.size + 1, 0, none⟩), .pointer (some ⟨w.heap.size + 1 + 1, 0, none⟩), .pointer (some ⟨Bx, 0, none⟩), .map (some w.heap.size), .func (.func 62) #[] #[.pointer (some ⟨Bh, 0, none⟩), .pointer (some ⟨Bc, 0, none⟩)], .agg #[.int .i64 x.1.f, .int .i64 x.1.t, .int .i64 x.1.k], undef, undef, undef, undef, undef, undef, undef, undef, undef, undef, undef, undef, undef, undef, undef], defers := [] })
    (fun x a' _ X Y row hs hg hr => by obtain ⟨Bx, vb, h1, ⟨h6, h7⟩, ⟨h2, h3, h4⟩, h5⟩ := hs; exact ⟨Bx, vb, h1, ⟨cell_kept h6 hg (fun r e => (hr r e).2), h7⟩, ⟨cell_kept h2 hg (fun r e => (hr r e).2), cell_kept h3 hg (fun r e => (hr r e).2), cell_kept h4 hg (fun r e => (hr r e).2)⟩, h5⟩)
    ?assign ?body ?done ?stop
  case assign =>
    rintro l' pre x W K ⟨⟨⟨v, hv, ho⟩, hc, nn, D, hm, hnn, hME⟩, hB⟩ hK
    have hlt := hv.lt
    have k1 : KE (w.heap.size + 1 + 1) (ExO (w.heap.size + 1 + 1)) W (W.alloc (.cells #[.int .i64 x.1.f, .int .i64 x.1.t, .int .i64 x.1.k] 61)) := KE.of (exO _) hlt (below_new _ _)
    have e1 : EO w (W.alloc (.cells #[.int .i64 x.1.f, .int .i64 x.1.t, .int .i64 x.1.k] 61)) (pre.map (fun x => x.1)) := ⟨⟨⟨v, hv.alloc _, own_belowI ho (below_new _ _)⟩, hc.alloc _, nn, D, hm.alloc _, hnn, hME⟩, below_then hB (below_new _ _)⟩
    have b1 := Bx3.new W x.1 61
    have b2 : (W.alloc (.cells #[.int .i64 x.1.f, .int .i64 x.1.t, .int .i64 x.1.k] 61)).cell? ⟨w.heap.size + 1 + 1, 0, none⟩ = some v := (hv.alloc _).cell
    have b3 : v.ownBlock ≠ some W.heap.size := fun q => by have := (ownI_lt ho _ q).2; omega
    clear hv ho hc hm hME hB hxh hxi hm3
    simp only [encE]
    gi_wp2_with fail
    exact hK _ _ ((KeepsOthers.alloc _ _).from _) k1 e1 ⟨W.heap.size, v, hlt, ⟨b2, b3⟩, b1, rfl⟩
  case body =>
    rintro l' pre x a' W hl' ⟨r, hr⟩ ⟨⟨⟨v, hv, ho⟩, hc, nn, D, hm, hnn, hME⟩, hB⟩ ⟨Bx, vb, hBx, ⟨hvb, hvx⟩, ⟨x0, x1, x2⟩, rfl⟩ hlt
    have hvbe : vb = v := by have := hvb.symm.trans hv.cell; injection this
    rw [hvbe] at hvx
    clear hvb hvbe
    have hwf := hWF x.1 x.2
    have hpl : pre.length ≤ 38400 := Nat.le_trans (Nat.le_of_lt hlt) hLM
    have hnn2 : nn + 1 < maxLen := by rw [List.length_map] at hnn; unfold maxLen; omega
    obtain ⟨c, v0, st, W1, hat, hwc, hlk, -⟩ := entry_own hm hnn2 (keyE' hwf)
    have hcc : c = cn (pre.map (fun x => x.1)) x.1 := by
      have := hat.symm.trans (hME x.1 hwf)
      injection this with q; injection q
    have hcp := cn_pos (pre.map (fun x => x.1)) x.1
    rw [List.length_map] at hcp
    have hcb : 0 ≤ c ∧ c ≤ 38400 := by rw [hcc]; omega
    have HCC : Hid (c = cn (pre.map (fun x => x.1)) x.1) := hcc
    have hcv := hv.cell
    have hcm := hc.cell
    have hmi := hm.isMap
    clear hcc hcp
    clear hM hLM hWF hlt hxh hxi hV hnx
    by_cases hmem : x.1 ∈ pre.map (fun x => x.1)
    · have hc0 : ¬ c = 0 := fun q => (cn_mem _ _).1 (HCC.out.symm.trans q) hmem
      have hc1 : (c == 0) = false := by simpa using hc0
      have hmd : W.drew.ownsMap Try.prog 61 (plainElem (H := Unit) Try.prog 3) w.heap.size nn D := ownsMap_blockE hm rfl
      obtain ⟨c2, v2, st2, W1, hat2, hwc2, hl2, he2, hg2, hl3, hs2⟩ := entry_own hmd hnn2 (keyE' hwf)
      have hcc2 : c2 = c := by
        have := hat2.symm.trans hat
        injection this with q; injection q
      rw [hcc2] at hl2 hl3
      have hwr : IntKind.i64.wrap (c + 1) = c + 1 := by rw [IntKind.wrap_i64]; omega
      obtain ⟨W2, hst, hm2, hg22⟩ := hs2 (c + 1) (WalkArith.wf_i64 (by omega))
      have hst' : (Instr.entryStore 81 (.map (some w.heap.size)) (.int .i64 st2) (.int .i64 (c + 1))).run Try.prog W1 = .ok () W2 := hst
      have he2' : (Instr.mapEntry 81 (.map (some w.heap.size)) (.agg #[.int .i64 x.1.f, .int .i64 x.1.t, .int .i64 x.1.k])).run Try.prog W.drew = .ok (.tuple #[v2, .int .i64 st2]) W1 := he2
      have HMEM : Hid (x.1 ∈ pre.map (fun x => x.1)) := hmem
      have hgw : W.grownBy W2 (some w.heap.size) := grow_then ((Below.refl _ _).drew) hg22
      have hmix := mixedT
      have hP : KeepsFrom W0.heap.size W W2 ∧ KE (w.heap.size + 1 + 1) (ExO (w.heap.size + 1 + 1)) W W2 ∧ EO w W2 ((pre ++ [x]).map (fun x => x.1)) := by
        obtain ⟨es, ck, hh, _⟩ := hm
        have hme : MapE (pre.map (fun x => x.1) ++ [x.1]) (D.put (klE x.1) (.lit (.int .i64 (c + 1)))) := by rw [HCC.out]; exact mapE_step hME hmi hwf
        refine ⟨KeepsFrom.of_grownBy hgw (fun j e => by cases e; omega), ke_map hgw hh (by omega) hv.lt, ?_⟩
        rw [List.map_append]
        refine ⟨⟨⟨v, hv.kept hgw (fun e => by injection e; omega), ?_⟩, hc.kept hgw (fun e => by injection e; omega), nn + 1, _, hm2, by simp at hnn ⊢; omega, hme⟩, hB.grown hgw hB.size (fun k e => by cases e; exact Nat.le_refl _)⟩
        have h9 := own_map ho hgw hh
        rw [← add_old HMEM.out] at h9
        exact h9
      have HP : Hid (KeepsFrom W0.heap.size W W2 ∧ KE (w.heap.size + 1 + 1) (ExO (w.heap.size + 1 + 1)) W W2 ∧ EO w W2 ((pre ++ [x]).map (fun x => x.1))) := hP
      clear hst he2 hat2 hwc2 hcc2 hs2 hmd hmem hat hME hm hv ho hB hm2 hg22 hg2 hnn hc0 hP hgw hvx hc
      gi_wp2
      gi_region_o
      all_goals exact HP.out
    · have hc0 : c = 0 := HCC.out.trans ((cn_mem _ _).2 hmem)
      rw [hc0] at hlk
      have HMEM : Hid (x.1 ∉ pre.map (fun x => x.1)) := hmem
      have hLe : (addAll [] (pre.map (fun x => x.1))).length ≤ 90000 := by
        have h9 := addAll_len (pre.map (fun x => x.1)) []
        simp only [List.length_map, List.length_nil] at h9
        omega
      have HL9 : Hid ((addAll [] (pre.map (fun x => x.1))).length ≤ 90000) := hLe
      have hBw : w.heap.size ≤ W.heap.size := hB.size
      have HOA : Hid (∀ o, OwnE (W.alloc o) w.heap.size v (addAll [] (pre.map (fun x => x.1)))) := fun o => own_belowI ho (below_new _ _)
      have HBV : Hid (Boxed W (w.heap.size + 1 + 1) 40 v ∧ OwnE W w.heap.size v (addAll [] (pre.map (fun x => x.1))) ∧ Boxed W (w.heap.size + 1) 81 (.map (some w.heap.size)) ∧ W.ownsMap Try.prog 61 (plainElem (H := Unit) Try.prog 3) w.heap.size nn D ∧ MapE (pre.map (fun x => x.1)) D ∧ Below w.heap.size w W ∧ v.ownBlock ≠ some Bx ∧ nn ≤ (pre.map (fun x => x.1)).length) := ⟨hv, ho, hc, hm, hME, hB, hvx, hnn⟩
      have HX3 : Hid (Bx3 W Bx x.1) := ⟨x0, x1, x2⟩
      clear hat hME hm hv ho hc hB hmem hLe hvx hnn hc0
      obtain ⟨p, hp⟩ : ∃ p, p = pre.map (fun x => x.1) := ⟨_, rfl⟩
      have HPP : Hid (p = pre.map (fun x => x.1)) := hp
      rw [← hp] at HMEM HL9 HBV HCC
      have HOA2 : Hid (∀ o, OwnE (W.alloc o) w.heap.size v (addAll [] p)) := by rw [hp]; exact HOA
      clear hp HOA hcb
      gi_wp2_with (gi_at_builtin; refine wpListIn_appE _ rfl (.tmp 13) (.tmp 15) rfl w.heap.size v (addAll [] p) rfl (HOA2.out _) W.heap.size x.1 rfl (ed_new _ x.1 _) HL9.out (Nat.le_trans hBw (by simp)) ?_; intro g cap w1 ho1 hg1 hl1 hlt1; have hv1 := (HBV.out.1.alloc (.cells #[.int .i64 x.1.f, .int .i64 x.1.t, .int .i64 x.1.k] 61)).kept hg1 (HBV.out.1.not_row (by decide) HBV.out.2.1); have hcv1 := hv1.cell; have hfv1 := hv1.frozen)
      rw [show (addAll [] p ++ [x.1]).length = (addAll [] p).length + 1 by simp] at ho1
      obtain ⟨bV, oV, bM, hm, hME, hB, hvx, hnn⟩ := HBV.out
      have hrow1 : w1.ownsRow w.heap.size 61 3 (.slice (some ⟨g, 0, none⟩) ((addAll [] p).length + 1) cap) ((addAll [] p).length + 1) (el (addAll [] p ++ [x.1])) := by
        have h9 := ho1
        unfold OwnE at h9
        rw [show (addAll [] p ++ [x.1]).length = (addAll [] p).length + 1 by simp] at h9
        exact h9
      obtain ⟨-, hv2, hr2, hk2, hb2⟩ := bV.appended (by decide) oV hBw (by omega) hrow1 hg1
      have kA := ke_app (len := (addAll [] p).length + 1) (cap := cap) bV (by decide) oV hg1 hl1 hlt1
      have hmh : ∃ es ck, W.heap[w.heap.size]? = some (.map es ck) := by obtain ⟨es, ck, hh, _⟩ := hm; exact ⟨es, ck, hh⟩
      obtain ⟨es, ck, hh⟩ := hmh
      have bM2 := ((bM.alloc (.cells #[.int .i64 x.1.f, .int .i64 x.1.t, .int .i64 x.1.k] 61)).kept hg1 (bM.not_row (by decide) oV)).other (B' := w.heap.size + 1 + 1) (by omega) (.slice (some ⟨g, 0, none⟩) ((addAll [] p).length + 1) cap)
      have hblk : ∀ q, q < W.heap.size → q ≠ w.heap.size + 1 + 1 → v.ownBlock ≠ some q → (w1.setCell ⟨w.heap.size + 1 + 1, 0, none⟩ (.slice (some ⟨g, 0, none⟩) ((addAll [] p).length + 1) cap)).heap[q]? = W.heap[q]? := fun q hq h1 h2 =>
        ((Below.heap_setCell _ _ _ q h1).trans (hg1.block q (by simp; omega) (fun e => h2 e.symm))).trans (Below.heap_alloc W _ q hq)
      have hmA := ownsMap_blockE hm (hblk _ hm.lt (by omega) (own_not_map oV hh))
      have hhA := (hblk _ hm.lt (by omega) (own_not_map oV hh)).trans hh
      obtain ⟨q0, q1, q2⟩ := HX3.out
      have hbx := hblk Bx (Go.block_lt_of_cell q0) (by omega) hvx
      have p0 := (World.cell?_of_block (w := W) (a := ⟨Bx, 0, none⟩) hbx).trans q0
      have p1 := (World.cell?_of_block (w := W) (a := ⟨Bx, 1, none⟩) hbx).trans q1
      have p2 := (World.cell?_of_block (w := W) (a := ⟨Bx, 2, none⟩) hbx).trans q2
      generalize w1.setCell ⟨w.heap.size + 1 + 1, 0, none⟩ (.slice (some ⟨g, 0, none⟩) ((addAll [] p).length + 1) cap) = Wa at *
      have hmd : Wa.drew.ownsMap Try.prog 61 (plainElem (H := Unit) Try.prog 3) w.heap.size nn D := ownsMap_blockE hmA rfl
      obtain ⟨c2, v2, st2, W1, hat2, hwc2, hl2, he2, hg2, hl3, hs2⟩ := entry_own hmd hnn2 (keyE' hwf)
      have hcn : cn p x.1 = 0 := (cn_mem _ _).2 HMEM.out
      have hcc2 : c2 = 0 := by
        have := hat2.symm.trans (hME x.1 hwf)
        injection this with q; injection q with _ q; rw [q]; exact hcn
      rw [hcc2] at hl2 hl3
      obtain ⟨W2, hst, hm2, hg22⟩ := hs2 1 (by decide)
      have hst' : (Instr.entryStore 81 (.map (some w.heap.size)) (.int .i64 st2) (.int .i64 1)).run Try.prog W1 = .ok () W2 := hst
      have he2' : (Instr.mapEntry 81 (.map (some w.heap.size)) (.agg #[.int .i64 x.1.f, .int .i64 x.1.t, .int .i64 x.1.k])).run Try.prog Wa.drew = .ok (.tuple #[v2, .int .i64 st2]) W1 := he2
      have hgw : Wa.grownBy W2 (some w.heap.size) := grow_then ((Below.refl _ _).drew) hg22
      have hmix := mixedT
      have hP : KeepsFrom W0.heap.size W W2 ∧ KE (w.heap.size + 1 + 1) (ExO (w.heap.size + 1 + 1)) W W2 ∧ EO w W2 ((pre ++ [x]).map (fun x => x.1)) := by
        have hme : MapE (p ++ [x.1]) (D.put (klE x.1) (.lit (.int .i64 1))) := by
          have h9 := mapE_step hME hmi hwf
          rw [hcn] at h9
          exact h9
        have hBa : Below w.heap.size w Wa := hB.trans hb2
        refine ⟨(hk2.from _).trans (KeepsFrom.of_grownBy hgw (fun j e => by cases e; omega)), kA.trans (ke_map hgw hhA (by omega) hv2.lt), ?_⟩
        rw [List.map_append, ← HPP.out]
        refine ⟨⟨⟨_, hv2.kept hgw (fun e => by injection e; omega), ?_⟩, bM2.kept hgw (fun e => by injection e; omega), nn + 1, _, hm2, by rw [List.length_append]; simp; omega, hme⟩, hBa.grown hgw hBa.size (fun k e => by cases e; exact Nat.le_refl _)⟩
        have hoA : OwnE Wa w.heap.size (.slice (some ⟨g, 0, none⟩) ((addAll [] p).length + 1) cap) (addAll [] p ++ [x.1]) := by
          unfold OwnE
          rw [show (addAll [] p ++ [x.1]).length = (addAll [] p).length + 1 by simp]
          exact hr2
        have h9 := own_map hoA hgw hhA
        rw [← add_new HMEM.out] at h9
        exact h9
      have HP : Hid (KeepsFrom W0.heap.size W W2 ∧ KE (w.heap.size + 1 + 1) (ExO (w.heap.size + 1 + 1)) W W2 ∧ EO w W2 ((pre ++ [x]).map (fun x => x.1))) := hP
      have cM := bM2.cell
      have hwr1 : IntKind.i64.wrap 1 = 1 := by rw [IntKind.wrap_i64]; omega
      clear hst he2 hat2 hwc2 hcc2 hs2 hmd hME hm hB hm2 hg22 hg2 hnn hP hgw hvx hcn hblk hmA hhA hbx kA hk2 hr2 hb2 hv2 bM2 bM bV oV hrow1 ho1 hg1 hl1 hlt1 hv1 hcv1 hfv1 q0 q1 q2 x0 x1 x2 hcv hcm HBV hlk hh
      gi_region_o
      all_goals exact HP.out
  case done =>
    rintro D ys W hD hys ⟨⟨⟨v, hv, ho⟩, hc, nn, Dm, hm, hnn, hME⟩, hB⟩ hK
    rw [hys] at ho
    have hD2 : w.heap.size ≤ D := Nat.le_trans (by rw [hsz]; exact Nat.le_add_right _ _) hD
    generalize eI R n cm M = LL at *
    clear hM hLM hWF
    have hcv := hv.cell
    obtain ⟨va, vc, rfl⟩ := rowE_slice ho
    gi_wp2
    refine ⟨by simp, .inl ⟨_, _, rfl, run_takeDeferred hK, ?_⟩⟩
    exact ⟨_, results_tmp rfl _ _ _, _, rfl, hB.trans (belowK_b (w := w) (Nat.le_refl _) W D _ _ hD2 hK rfl rfl), ownsRow_putObj ho _ hK rfl⟩
  case stop =>
    rintro D c pre W _ _ h _
    exact h.elim
end Go.Proofs.Ytnmmnhfgkcdajaa
