/- StartOrdered: the program's side. -/
import Derived.Test.YtnmmnhfgkcdajaaEdf
namespace Go.Proofs.Ytnmmnhfgkcdajaa
open Go.RowKit Go.Shelf Go.Deep
set_option linter.unusedVariables false
attribute [local go_sem] Oper.semAt_some

/-- An edge that was begun too early. -/
def badE (R : Nat → Hp) (n : Nat) (e : Ed) : Bool := e.k != 4 && bgA R n e.t e.f
def soD (R : Nat → Hp) (n : Nat) (M : Nat) : Bool := (eI R n (cmL R n) M).all fun e => !badE R n e
def soC (R : Nat → Hp) (n : Nat) (M : Nat) : Bool := hsC R n == 0 && soD R n M
theorem soD_no {R : Nat → Hp} {n M : Nat} {e : Ed} (h : e ∈ eI R n (cmL R n) M) (hb : badE R n e = true) : soD R n M = false := by
  cases hq : soD R n M
  · rfl
  · have := List.all_eq_true.1 hq e h; rw [hb] at this; simp at this
theorem soD_yes {R : Nat → Hp} {n M : Nat} (h : ∀ e ∈ eI R n (cmL R n) M, badE R n e = false) : soD R n M = true :=
  List.all_eq_true.2 fun e he => by rw [h e he]; rfl
def BRs (b : Bool) (w : World) (e : Ending) (w' : World) : Prop := e = .returned (.bool b) ∧ Below w.heap.size w w'
theorem keepsB {W W3 : World} (hb : Below W.heap.size W W3) (B : Nat) : KeepsFrom B W W3 := ⟨hb.size, fun k o _ hk _ => (hb.block k (Array.getElem?_eq_some_iff.1 hk).1).trans hk⟩
set_option maxHeartbeats 2000000 in
theorem implSo_bad (M n : Nat) (R : Nat → Hp) (a : Option Addr) (w : World) (hn : n ≤ 1048576) (hw : HpW n R) (h : HopsAt w a n R) (hc : hsC R n ≠ 0) :
    Calls Try.prog 22 #[.slice a n n] w (BRs (soC R n M) w) := by
  have HX : Hid (HopsAt w a n R) := h
  have HW : Hid (HpW n R) := hw
  have HE : Hid (soC R n M = false) := by show soC R n M = false; simp [soC, hc]
  have HBX : Hid (∀ o1 o2 : Obj, o1 = .cells #[.slice a n n] 28 → o2 = .cells #[.bool false] 4 → ((w.alloc o1).alloc o2).cell? ⟨w.heap.size, 0, none⟩ = some (.slice a n n) ∧ ((w.alloc o1).alloc o2).cell? ⟨w.heap.size + 1, 0, none⟩ = some (.bool false) ∧ ((w.alloc o1).alloc o2).frozen? ⟨w.heap.size + 1, 0, none⟩ = false ∧ Below w.heap.size w ((w.alloc o1).alloc o2) ∧ ((w.alloc o1).alloc o2).heap.size = w.heap.size + 2) := by
    rintro o1 o2 rfl rfl
    exact ⟨by simp [go_sem], by simp [go_sem], by simp [go_sem], below_then (below_new _ _) (below_new _ _), by simp⟩
  clear h hw
  obtain ⟨p0, p1, p2, p3, p4⟩ := HBX.out _ _ rfl rfl
  go_enter Try.func22, Try.ntmps22
  go_wp2_with fail
  refine (implCm_any n R a n _ hn HW.out (HX.out.below p3)).mono ?_
  rintro e w1 ⟨ca, cc, rfl, hb1, OC⟩
  have c0 := cell_below p0 hb1
  have c1 := cell_below p1 hb1
  have hlt1 : w.heap.size + 1 < ((w.alloc (.cells #[.slice a n n] 28)).alloc (.cells #[.bool false] 4)).heap.size := by rw [p4]; omega
  have f1 : w1.frozen? ⟨w.heap.size + 1, 0, none⟩ = false := ((bcell hb1).2 _ _ hlt1).trans p2
  have HB : Hid (Below w.heap.size w w1) := below_then p3 hb1
  have hs1 : w.heap.size + 2 ≤ w1.heap.size := by have := hb1.size; rw [p4] at this; exact this
  have c0a := fun o : Obj => cell_alloc c0 o
  have c1a := fun o : Obj => cell_alloc c1 o
  have f1a : ∀ o : Obj, (w1.alloc o).frozen? ⟨w.heap.size + 1, 0, none⟩ = false := fun o => ((bcell (below_new w1 o)).2 _ _ (by omega)).trans f1
  have hc2 : (hsC R n != 0) = true := by simp [hc]
  clear OC hb1 p0 p1 p2 p3 p4 HBX hlt1 hc
  generalize (if hsC R n = 0 then cmL R n else []).length = len at *
  generalize hsC R n = uu at *
  go_wp2_with fail
  refine bodyPost_ret (v := .bool false) (by simp [results, Try.results22, go_sem, *]) rfl ?_
  refine ⟨by rw [HE.out], ?_⟩
  repeat (first | with_reducible exact HB.out | with_reducible refine Below.setCell ?_ (by first | omega | (simp <;> omega)) _ | with_reducible refine Below.alloc ?_ (by first | omega | (simp <;> omega)) _)
set_option maxRecDepth 100000 in
set_option maxHeartbeats 1000000 in
theorem implSo_good (M : Nat) (hM : M = 32) (n : Nat) (R : Nat → Hp) (l : List Int) (HLE : Hid (cmL R n = l)) (a : Option Addr) (w : World) (hw : HpW n R) (h : HopsAt w a n R) (hc : hsC R n = 0) :
    Calls Try.prog 22 #[.slice a n n] w (BRs (soC R n M) w) := by
  have hn4 := hs_few hc
  have hhi : hiF R n = 0 := by rw [← hsC_few hn4]; exact hc
  have HX : Hid (HopsAt w a n R) := h
  have HCM : Hid (∀ m wv, HopsAt wv a n R → CallsIn Fence.wide m Try.prog 32 #[.slice a n n] wv (fun e w' => ∃ ca cc, e = .returned (.agg #[.int .i64 0, .slice ca l.length cc]) ∧ Below wv.heap.size wv w' ∧ IntsAt w' ca l.length (zI l))) := fun m wv h => by
    refine callsIn_wide.2 ((implCm_any n R a n wv (by omega) hw h).mono ?_)
    rintro e w' ⟨ca, cc, rfl, hb, OC⟩
    rw [hc, if_pos rfl, HLE.out] at OC ⊢
    exact ⟨ca, cc, rfl, hb, OC.at⟩
  have HLL : Hid (l.length ≤ 400) := by rw [← HLE.out]; exact Nat.le_trans (cmL_len R n) hn4
  have HSN : Hid (∀ e ∈ eI R n l M, badE R n e = true → soC R n M = false) := fun e he hb => by
    rw [← HLE.out] at he
    simp [soC, soD_no he hb]
  have HSY : Hid ((∀ e ∈ eI R n l M, badE R n e = false) → soC R n M = true) := fun hh => by
    rw [← HLE.out] at hh
    simp [soC, hc, soD_yes hh]
  clear h hw hc HLE
  refine (callsIn_wide (n := 6)).1 ?_
  have hF : ∀ f, Fence.wide.fn f := fun _ => trivial
  refine callsIn_of_wp_marks Try.func22 rfl (hF _) ?_ rfl
  simp only [Try.ntmps22, List.size_toArray, List.length_cons, List.length_nil, Nat.reduceAdd, Nat.reduceSub, Array.replicate_succ, Array.replicate_zero, List.push_toArray, List.append_toArray, List.nil_append, List.cons_append]
  have HBX : Hid (∀ o1 o2 : Obj, o1 = .cells #[.slice a n n] 28 → o2 = .cells #[.bool false] 4 → ((w.alloc o1).alloc o2).cell? ⟨w.heap.size, 0, none⟩ = some (.slice a n n) ∧ ((w.alloc o1).alloc o2).cell? ⟨w.heap.size + 1, 0, none⟩ = some (.bool false) ∧ ((w.alloc o1).alloc o2).frozen? ⟨w.heap.size + 1, 0, none⟩ = false ∧ Below w.heap.size w ((w.alloc o1).alloc o2) ∧ ((w.alloc o1).alloc o2).heap.size = w.heap.size + 2) := by
    rintro o1 o2 rfl rfl
    exact ⟨by simp [go_sem], by simp [go_sem], by simp [go_sem], below_then (below_new _ _) (below_new _ _), by simp⟩
  obtain ⟨p0, p1, p2, p3, p4⟩ := HBX.out _ _ rfl rfl
  have hFc := hF 32
  have hFe := hF 46
  have HEI : Hid (∀ m ca cc wv, CallsIn Fence.wide m Try.prog 46 #[.slice a n n, .slice ca l.length cc] wv (fun e w' => e = .returned (.func (.func 62) #[] #[.pointer (some ⟨wv.heap.size, 0, none⟩), .pointer (some ⟨wv.heap.size + 1, 0, none⟩)]) ∧ w' = (wv.alloc (.cells #[.slice a n n] 28)).alloc (.cells #[.slice ca l.length cc] 24))) := fun m ca cc wv => callsIn_wide.2 (edgesIn_any a ca n n l.length cc wv)
  gi_wp2_with (first
    | (gi_at_call 32; refine (HCM.out _ _ (HX.out.below p3)).mono ?_; rintro e w1 ⟨ca, cc, rfl, hb1, hoc⟩; have c0 := cell_below p0 hb1; have c1 := cell_below p1 hb1; have c0a := fun o : Obj => cell_alloc c0 o; have c1a := fun o : Obj => cell_alloc c1 o)
    | (gi_at_call 46; refine (HEI.out _ ca cc _).mono ?_; rintro e w2 ⟨rfl, hw2⟩))
  have hs1 : w.heap.size + 2 ≤ w1.heap.size := by have := hb1.size; rw [p4] at this; exact this
  have f1 : w1.frozen? ⟨w.heap.size + 1, 0, none⟩ = false := ((bcell hb1).2 _ _ (by rw [p4]; omega)).trans p2
  have hb2 : Below w1.heap.size w1 w2 := by rw [hw2]; exact below_then (below_then (below_new _ _) (below_new _ _)) (below_new _ _)
  have hz2 : w2.heap.size = w1.heap.size + 3 := by rw [hw2]; simp
  have qh : w2.cell? ⟨w1.heap.size + 1, 0, none⟩ = some (.slice a n n) := by rw [hw2]; simp [go_sem]
  have qc : w2.cell? ⟨w1.heap.size + 1 + 1, 0, none⟩ = some (.slice ca l.length cc) := by rw [hw2]; simp [go_sem]
  rw [← hw2]
  have hB2 : Below w.heap.size w w2 := below_then (below_then p3 hb1) hb2
  have q0 := cell_below c0 hb2
  have q1 := cell_below c1 hb2
  have qf : w2.frozen? ⟨w.heap.size + 1, 0, none⟩ = false := ((bcell hb2).2 _ _ (by omega)).trans f1
  have hx2 := HX.out.below hB2
  have hi2 := hoc.below hb2
  have hn6 : n ≤ 1048576 := by omega
  clear hw2 c0 c1 c0a c1a f1 hb1 hb2 hoc p0 p1 p2 p3 p4 HBX HCM HEI hFc hFe
  generalize hw1z : w1.heap.size = B1 at *
  have HBG : Hid (∀ x y m l' wv, HopsAt wv a n R → CallsIn (Fence.wide.inRound l') m Try.prog 47 #[.slice a n n, .int .i64 x, .int .i64 y] wv fun e w' => e = .returned (.bool (bgA R n x y)) ∧ Below wv.heap.size wv w') := fun x y m l' wv h => CallsIn.inRound l' (callsIn_wide.2 (beganAhead_any n R a x y wv hn6 (hopAt_le R _ n) h))
  refine wpIn_rangeFunc_ownH rfl (by omega) (gf := 62) (lb := #[.pointer (some ⟨B1 + 1, 0, none⟩), .pointer (some ⟨B1 + 1 + 1, 0, none⟩)]) rfl (hF _) (enters_of Try.func62 (by kernel_rfl) rfl)
    (edgesIn_stops M hM _ (by omega) n R l a ca n cc (B1 + 1) (B1 + 1 + 1) hn4 hhi HLL.out w2 (by omega) (by omega) qh qc hx2 hi2) KC.trans (fun W l o o' _ h hc _ => KC.put W l o o' h hc) (Below.refl _ _) (fun _ => rfl)
    (fun pre W => ((∀ e ∈ pre, badE R n e = false) ∧ W.cell? ⟨w.heap.size, 0, none⟩ = some (.slice a n n) ∧ W.cell? ⟨w.heap.size + 1, 0, none⟩ = some (.bool false) ∧ W.frozen? ⟨w.heap.size + 1, 0, none⟩ = false) ∧ Below w.heap.size w W)
    (fun c pre W => ((c = .ret ∧ ∃ e ∈ pre, badE R n e = true) ∧ W.cell? ⟨w.heap.size + 1, 0, none⟩ = some (.bool false)) ∧ Below w.heap.size w W)
    (OwnFrom.and (Own.from (fun s A B row hs hg hr => ⟨hs.1, cell_kept hs.2.1 hg hr, cell_kept hs.2.2.1 hg hr, (frozen_kept hs.2.2.1 hg hr).trans hs.2.2.2⟩) _) (ownFrom_below (Nat.le_refl _) (by omega)))
    (fun c => OwnFrom.and (Own.from (fun s A B row hs hg hr => ⟨hs.1, cell_kept hs.2 hg hr⟩) _) (ownFrom_below (Nat.le_refl _) (by omega)))
    ⟨⟨fun e he => by simp at he, q0, q1, qf⟩, hB2⟩
    (fun x a' W => ∃ Bx, w.heap.size + 1 < Bx ∧ (W.cell? ⟨Bx, 0, none⟩ = some (.int .i64 x.f) ∧ W.cell? ⟨Bx, 1, none⟩ = some (.int .i64 x.t) ∧ W.cell? ⟨Bx, 2, none⟩ = some (.int .i64 x.k)) ∧ a' = { tmps := #[.slice a n n, .pointer (some ⟨w.heap.size, 0, none⟩), .pointer (some ⟨w.heap.size + 1, 0, none⟩), .pointer (some ⟨B1, 0, none⟩), .pointer (some ⟨Bx, 0, none⟩), .slice a n n, .agg #[.int .i64 0, .slice ca l.length cc], .pointer (some ⟨B1, 0, none⟩), .int .i64 0, .bool false, .slice a n n, .pointer (some ⟨B1, 1, none⟩), .slice ca l.length cc, .func (.func 62) #[] #[.pointer (some ⟨B1 + 1, 0, none⟩), .pointer (some ⟨B1 + 1 + 1, 0, none⟩)], .agg #[.int .i64 x.f, .int .i64 x.t, .int .i64 x.k], undef, undef, undef, undef, undef, undef, undef, undef, undef, undef, undef], defers := [] })
    (fun x a' _ X Y row hs hg hr => by obtain ⟨Bx, h1, ⟨h2, h3, h4⟩, h5⟩ := hs; exact ⟨Bx, h1, ⟨cell_kept h2 hg (fun r e => (hr r e).2), cell_kept h3 hg (fun r e => (hr r e).2), cell_kept h4 hg (fun r e => (hr r e).2)⟩, h5⟩)
    ?assign ?body ?done ?stop
  case assign =>
    rintro l' pre x W K ⟨⟨hp, k0, k1, kf⟩, hB⟩ hK
    have hlt := Go.block_lt_of_cell k1
    simp only [encE]
    gi_wp2_with fail
    exact hK _ _ ((KeepsOthers.alloc _ _).from _) (KC.of (below_new _ _)) ⟨⟨hp, cell_alloc k0 _, cell_alloc k1 _, ((bcell (below_new W _)).2 _ _ hlt).trans kf⟩, below_then hB (below_new _ _)⟩ ⟨W.heap.size, hlt, ⟨by simp [go_sem], by simp [go_sem], by simp [go_sem]⟩, rfl⟩
  case body =>
    rintro l' pre x a' W hl ⟨r, hr⟩ ⟨⟨hp, k0, k1, kf⟩, hB⟩ ⟨Bx, hBx, ⟨x0, x1, x2⟩, rfl⟩ hlt
    have hxW := HX.out.below hB
    have hFb : (Fence.wide.inRound l').fn 47 := trivial
    have hlt1 := Go.block_lt_of_cell k1
    have HIN : Hid (badE R n x = false → ∀ e ∈ pre ++ [x], badE R n e = false) := fun hb e he => by
      rcases List.mem_append.1 he with h | h
      · exact hp e h
      · rw [List.mem_singleton.1 h]; exact hb
    have HIX : Hid (badE R n x = true → ∃ e ∈ pre ++ [x], badE R n e = true) := fun hb => ⟨x, by simp, hb⟩
    have HBE : Hid (badE R n x = (x.k != 4 && bgA R n x.t x.f)) := rfl
    clear hp
    obtain h1 | h1 := boolor (x.k != 4)
    · obtain h2 | h2 := boolor (bgA R n x.t x.f)
      · have HE := HIX.out (by rw [HBE.out, h1, h2]; rfl)
        have hcall := HBG.out x.t x.f (6 - 1 - 1 - 1) l' W hxW
        rw [h2] at hcall
        clear HIN HIX HBE
        gi_wp2_with (gi_at_call 47; refine hcall.mono ?_; rintro e W3 ⟨rfl, hb3⟩; have j1 := cell_below k1 hb3; have jf := ((bcell hb3).2 _ _ hlt1).trans kf)
        exact ⟨(keepsB hb3 _).trans ((KeepsOthers.setCell _ _ _).from _), ⟨⟨rfl, HE⟩, World.cell?_setCell_same' W3 ⟨w.heap.size + 1, 0, none⟩ (.bool false) (by rw [j1]; rfl)⟩, (below_then hB hb3).setCell (p := ⟨w.heap.size + 1, 0, none⟩) (by simp) _⟩
      · have HE := HIN.out (by rw [HBE.out, h1, h2]; rfl)
        have hcall := HBG.out x.t x.f (6 - 1 - 1 - 1) l' W hxW
        rw [h2] at hcall
        clear HIN HIX HBE
        gi_wp2_with (gi_at_call 47; refine hcall.mono ?_; rintro e W3 ⟨rfl, hb3⟩; have j1 := cell_below k1 hb3; have jf := ((bcell hb3).2 _ _ hlt1).trans kf)
        exact ⟨keepsB hb3 _, KC.of hb3, ⟨HE, cell_below k0 hb3, j1, jf⟩, below_then hB hb3⟩
    · have HE := HIN.out (by rw [HBE.out, h1]; rfl)
      clear HIN HIX HBE
      gi_wp2_with fail
      exact ⟨KeepsFrom.refl _ _, KC.refl _, ⟨HE, k0, k1, kf⟩, hB⟩
  case done =>
    rintro D ys W hD rfl ⟨⟨hp, k0, k1, kf⟩, hB⟩ hK
    have HE := HSY.out hp
    gi_wp2
    have hK' := (KeepsOthers.setCell W ⟨w.heap.size + 1, 0, none⟩ (.bool true)).same D _ hK rfl
    refine ⟨by simp, .inl ⟨_, _, rfl, run_takeDeferred hK', ?_⟩⟩
    have hc5 := cell_kept (World.cell?_setCell_same' W ⟨w.heap.size + 1, 0, none⟩ (.bool true) (by rw [k1]; rfl)) (grownBy_putObj' _ D (.deferred none)) (fun r e => by cases e; exact ⟨_, hK', rfl⟩)
    refine ⟨.bool true, ?_, by rw [HE], (hB.setCell (p := ⟨w.heap.size + 1, 0, none⟩) (by simp) _).trans (belowK_b (w := w) (Nat.le_refl _) _ D _ _ (by omega) hK' rfl rfl)⟩
    simp [results, Try.f22, go_sem, hc5]
  case stop =>
    rintro D c pre W hD hsub ⟨⟨⟨rfl, e, he, hbad⟩, k1⟩, hB⟩ hK
    have HE := HSN.out e (hsub e he) hbad
    gi_wp2
    refine ⟨by simp, .inl ⟨_, _, rfl, run_takeDeferred hK, ?_⟩⟩
    have hc5 := cell_kept k1 (grownBy_putObj' _ D (.deferred none)) (fun r e => by cases e; exact ⟨_, hK, rfl⟩)
    refine ⟨.bool false, ?_, by rw [HE], hB.trans (belowK_b (w := w) (Nat.le_refl _) W D _ _ (by omega) hK rfl rfl)⟩
    simp [results, Try.f22, go_sem, hc5]
theorem implSo_any (M : Nat) (hM : M = 32) (n : Nat) (R : Nat → Hp) (a : Option Addr) (w : World) (hn : n ≤ 1048576) (hw : HpW n R) (h : HopsAt w a n R) :
    Calls Try.prog 22 #[.slice a n n] w (BRs (soC R n M) w) := by
  by_cases hc : hsC R n = 0
  · exact implSo_good M hM n R _ rfl a w hw h hc
  · exact implSo_bad M n R a w hn hw h hc
end Go.Proofs.Ytnmmnhfgkcdajaa
