/- Draws of chains: spec.l5Chain, spec.l5Bent, spec.DrawPurgeChain. -/
import Derived.Test.YtiabblmjgfkijaaVi
import Derived.Test.YtiabblmjgfkijaaDsc
namespace Go.Proofs.Ytiabblmjgfkijaa
open Go.RowKit Go.Deep
set_option linter.unusedVariables false
set_option maxRecDepth 20000

theorem ownV_keep {w w' : World} {base n s : Nat} {e : TypeId} {v : Value} {xs : List Value} (h : w.ownsRow base e s v n xs) (hb : ∀ q, v.ownBlock = some q → w'.heap[q]? = w.heap[q]?) : w'.ownsRow base e s v n xs := by
  obtain ⟨h1, h2 | ⟨g, cap, cur, rfl, k1, k2, k3⟩⟩ := h
  · exact ⟨h1, .inl h2⟩
  · exact ⟨h1, .inr ⟨g, cap, cur, rfl, k1, (hb g rfl).trans k2, k3⟩⟩
/-- Versions are drawn: the source in block S, the list in blocks of its own. -/
structure Dv (w wr : World) (S : Nat) (a : Option Addr) (kk cap : Nat) (z : Nat → Int) (t : Nat) (v : Value) (xs : List Vr) : Prop where
  ws : Writes S (S + 1) w wr
  hS : S < w.heap.size
  src : Src wr S a kk cap z t
  own : wr.ownsRow w.heap.size 51 4 v xs.length (vb xs)
theorem Dv.dw {w wr w2 : World} {S : Nat} {a : Option Addr} {kk cap : Nat} {z : Nat → Int} {t t' : Nat} {v : Value} {xs : List Vr} (h : Dv w wr S a kk cap z t v xs) (g : Dw S a kk cap z t' wr w2) : Dv w w2 S a kk cap z t' v xs := by
  have h1 := h.hS
  exact ⟨h.ws.trans g.1, h1, g.2, ownV_keep h.own fun q hq => g.1.block q (h.own.lt q hq).2 (by have := (h.own.lt q hq).1; omega)⟩
theorem Dv.up {w wr w2 : World} {S : Nat} {a : Option Addr} {kk cap : Nat} {z : Nat → Int} {t : Nat} {v : Value} {xs : List Vr} (h : Dv w wr S a kk cap z t v xs) (g : Below wr.heap.size wr w2) : Dv w w2 S a kk cap z t v xs :=
  ⟨h.ws.trans (Writes.of_below g), h.hS, h.src.below g, ownV_keep h.own fun q hq => g.block q (h.own.lt q hq).2⟩
theorem src_block {w w2 : World} {S : Nat} {a : Option Addr} {kk cap : Nat} {z : Nat → Int} {t : Nat} (h : Src w S a kk cap z t) (hz : w.heap.size ≤ w2.heap.size) (e : ∀ b, b ≤ S → w2.heap[b]? = w.heap[b]?) : Src w2 S a kk cap z t := by
  have g : ∀ i, w2.cell? ⟨S, i, none⟩ = w.cell? ⟨S, i, none⟩ := fun i => World.cell?_of_block (w := w) (a := ⟨S, i, none⟩) (e S (Nat.le_refl _))
  refine ⟨(g 0).trans h.c0, (g 1).trans h.c1, fun i => (World.frozen?_of_block (w := w) (a := ⟨S, i, none⟩) (e S (Nat.le_refl _))).trans (h.f i), ?_, h.far, h.byt, h.len⟩
  rcases h.b with e1 | ⟨b, off, rfl, hl, hc⟩
  · exact .inl e1
  · rcases h.far b off rfl with e1 | e1
    · exact .inl e1
    · exact .inr ⟨b, off, rfl, Nat.lt_of_lt_of_le hl hz, fun i hi => (World.cell?_of_block (w := w) (a := ⟨b, off + i, none⟩) (e b (by omega))).trans (hc i hi)⟩
theorem Dv.app {w wr w2 : World} {S : Nat} {a : Option Addr} {kk cap : Nat} {z : Nat → Int} {t : Nat} {v v' : Value} {xs ys : List Vr} (h : Dv w wr S a kk cap z t v xs) (g : wr.grownBy w2 v.ownBlock) (ho : w2.ownsRow w.heap.size 51 4 v' ys.length (vb ys)) : Dv w w2 S a kk cap z t v' ys := by
  have h1 := h.hS
  have hq : ∀ q, v.ownBlock = some q → w.heap.size ≤ q := fun q hq => (h.own.lt q hq).1
  have hsz := h.ws.size
  exact ⟨⟨g.os.trans h.ws.os, g.tape.trans h.ws.tape, g.output.trans h.ws.output, Nat.le_trans hsz g.size, fun k hk hd => (g.block k (by omega) fun e => by have := hq k e.symm; omega).trans (h.ws.block k hk hd)⟩, h1, src_block h.src g.size fun b hb => g.block b (by omega) fun e => by have := hq b e.symm; omega, ho⟩
/-- A cell of a new block, not the list's, is set. -/
theorem Dv.set {w wr : World} {S : Nat} {a : Option Addr} {kk cap : Nat} {z : Nat → Int} {t : Nat} {v : Value} {xs : List Vr} (h : Dv w wr S a kk cap z t v xs) {B : Nat} (hB : w.heap.size ≤ B) (hne : v.ownBlock ≠ some B) (i : Nat) (x : Value) : Dv w (wr.setCell ⟨B, i, none⟩ x) S a kk cap z t v xs := by
  have h1 := h.hS
  have e : ∀ k, k ≠ B → (wr.setCell ⟨B, i, none⟩ x).heap[k]? = wr.heap[k]? := fun k hk => Below.heap_setCell _ _ _ _ (by show ¬ k = B; exact hk)
  have hz : (wr.setCell ⟨B, i, none⟩ x).heap.size = wr.heap.size := by simp [World.setCell]
  exact ⟨⟨h.ws.os, h.ws.tape, h.ws.output, by rw [hz]; exact h.ws.size, fun k hk hd => (e k (by omega)).trans (h.ws.block k hk hd)⟩, h1, src_block h.src (by rw [hz]; exact Nat.le_refl _) fun b hb => e b (by omega), ownV_keep h.own fun q hq => e q fun hh => hne (by rw [hq, hh])⟩
theorem Dv.own_ne {w wr : World} {S : Nat} {a : Option Addr} {kk cap : Nat} {z : Nat → Int} {t : Nat} {v : Value} {xs : List Vr} (h : Dv w wr S a kk cap z t v xs) {B : Nat} (hB : wr.heap.size ≤ B) : v.ownBlock ≠ some B := fun e => by have := (h.own.lt B e).2; omega
theorem C4.set1 {w : World} {B : Nat} {r : Vr} (h : C4 w B 0 r) (x : Int) : C4 (w.setCell ⟨B, 1, none⟩ (.int .i64 x)) B 0 { r with a := x } := by
  obtain ⟨h0, h1, h2, h3⟩ := h
  exact ⟨(setO (by omega)).trans h0, setS h1, (setO (by omega)).trans h2, (setO (by omega)).trans h3⟩
theorem C4.set2 {w : World} {B : Nat} {r : Vr} (h : C4 w B 0 r) (x : Bool) : C4 (w.setCell ⟨B, 2, none⟩ (.bool x)) B 0 { r with g := x } := by
  obtain ⟨h0, h1, h2, h3⟩ := h
  exact ⟨(setO (by omega)).trans h0, (setO (by omega)).trans h1, setS h2, (setO (by omega)).trans h3⟩
theorem C4.set3 {w : World} {B : Nat} {r : Vr} (h : C4 w B 0 r) (x : Int) : C4 (w.setCell ⟨B, 3, none⟩ (.int .i64 x)) B 0 { r with v := x } := by
  obtain ⟨h0, h1, h2, h3⟩ := h
  exact ⟨(setO (by omega)).trans h0, (setO (by omega)).trans h1, (setO (by omega)).trans h2, setS h3⟩
theorem ownV_nil (w : World) : (w.alloc (.cells #[] 51)).ownsRow w.heap.size 51 4 (.slice (some ⟨w.heap.size, 0, none⟩) 0 0) ([] : List Vr).length (vb []) := World.ownsRow_lit w #[] 0 (Nat.le_refl _) (Nat.zero_le _) rfl
theorem ownV_shape {w : World} {base : Nat} {v : Value} {xs : List Vr} (h : w.ownsRow base 51 4 v xs.length (vb xs)) (hv : v ≠ .slice none 0 0) : ∃ g c, v = .slice (some ⟨g, 0, none⟩) xs.length c ∧ xs.length ≤ c ∧ base ≤ g ∧ g < w.heap.size := by
  have h' := h
  obtain ⟨h1, ⟨e, h2⟩ | ⟨g, cap, cur, rfl, k1, k2, k3, -⟩⟩ := h
  · exact absurd e hv
  · exact ⟨g, cap, rfl, k3, k1, (h'.lt g rfl).2⟩
theorem ownV_ne {w : World} {base : Nat} {v : Value} {xs : List Vr} (h : w.ownsRow base 51 4 v xs.length (vb xs)) (hx : 0 < xs.length) : v ≠ .slice none 0 0 := by
  rintro rfl
  obtain ⟨h1, ⟨e, h2⟩ | ⟨g, cap, cur, e, _⟩⟩ := h
  · omega
  · simp at e
theorem lit_v (W : World) (r : Vr) : VersAt (W.alloc (.cells #[.int .i64 r.t, .int .i64 r.a, .bool r.g, .int .i64 r.v] 51)) (some ⟨W.heap.size, 0, none⟩) 1 (fun _ => r) := by
  refine .inr ⟨W.heap.size, 0, rfl, by simp, fun i hi => ?_⟩
  obtain rfl : i = 0 := by omega
  exact ⟨by simp [go_sem], by simp [go_sem], by simp [go_sem], by simp [go_sem]⟩
set_option maxHeartbeats 8000000 in
theorem l5Chain_any (S : Nat) (a : Option Addr) (kk cap : Nat) (z : Nat → Int) (t : Nat) (w : World) (ht : t ≤ 900000) (h : Src w S a kk cap z t) :
    Calls Try.prog 49 #[.pointer (some ⟨S, 0, none⟩)] w fun e w' => ∃ (v : Value) (xs : List Vr) (t' : Nat), e = .returned v ∧ v ≠ .slice none 0 0 ∧ xs.length ≤ 12 ∧ t' ≤ t + 100 ∧ Dv w w' S a kk cap z t' v xs := by
  have HS : Hid (Src w S a kk cap z t) := h
  clear h
  have HSl : Hid (S < w.heap.size) := HS.out.lt
  go_enter Try.func49, Try.ntmps49
  go_wp2_with fail
  obtain ⟨v, hv0⟩ : ∃ v : Value, v = .slice (some ⟨w.heap.size, 0, none⟩) 0 0 := ⟨_, rfl⟩
  obtain ⟨xs, hxs⟩ : ∃ xs : List Vr, xs = [] := ⟨_, rfl⟩
  have HD : Hid (Dv w (w.alloc (.cells #[] 51)) S a kk cap z t v xs) := by
    rw [hv0, hxs]
    exact ⟨Writes.of_below (below_new _ _), HSl.out, HS.out.below (below_new _ _), ownV_nil w⟩
  have HVN : Hid (v ≠ .slice none 0 0) := by rw [hv0]; show _ ≠ _; simp
  have HXL : Hid (xs.length = 0) := by rw [hxs]; rfl
  rw [← hv0]
  clear hv0 hxs
  generalize (w.alloc (.cells #[] 51)) = w0 at *
  refine (l1Next_any S a kk cap z t 20 _ (by omega) (by omega) HD.out.src).mono ?_
  rintro e w1 ⟨v1, rfl, hv, hn⟩
  have hw := hn.dw
  replace HD : Hid (Dv w w1 S a kk cap z (t + 1) v xs) := HD.out.dw hw
  clear hn hv hw
  go_wp2_with fail
  refine (l1Next_any S a kk cap z (t + 1) 5 _ (by omega) (by omega) HD.out.src).mono ?_
  rintro e w2 ⟨v2, rfl, hv, hn⟩
  have hw := hn.dw
  have HV2 : Hid (NxA 5 v2) := hv
  replace HD : Hid (Dv w w2 S a kk cap z (t + 2) v xs) := HD.out.dw hw
  clear hn hv hw
  go_wp2_with fail
  refine (l1Next_any S a kk cap z (t + 2) 5 _ (by omega) (by omega) HD.out.src).mono ?_
  rintro e w3 ⟨v3, rfl, hv, hn⟩
  have hw := hn.dw
  have HV3 : Hid (NxA 5 v3) := hv
  replace HD : Hid (Dv w w3 S a kk cap z (t + 3) v xs) := HD.out.dw hw
  clear hn hv hw
  go_wp2_with fail
  have hSl : S < w3.heap.size := HD.out.src.lt
  refine (l1Pick_any S a kk cap z (t + 3) w3.heap.size 0 3 3 (fun i => if i = 0 then v2 else if i = 1 then v3 else 12) _ (by omega) (by omega) (by omega) (by omega) (by simp [go_sem]) (fun i hi => ?_) (HD.out.src.below (below_new _ _))).mono ?_
  · rcases i with - | - | - | i
    · simp [go_sem]
    · simp [go_sem]
    · simp [go_sem]
    · omega
  rintro e w4 ⟨i, hi, rfl, hn⟩
  have hw := hn.dw
  replace HD : Hid (Dv w w4 S a kk cap z (t + 4) v xs) := (HD.out.up (below_new _ _)).dw hw
  obtain ⟨m, hm12, hm⟩ : ∃ m : Nat, m ≤ 12 ∧ (if i = 0 then v2 else if i = 1 then v3 else 12) = (m : Int) := by
    obtain ⟨a2, b2, -⟩ := HV2.out
    obtain ⟨a3, b3, -⟩ := HV3.out
    have b2 := b2 (by omega)
    have b3 := b3 (by omega)
    by_cases e0 : i = 0
    · exact ⟨v2.toNat, by omega, by simp only [e0, if_true]; omega⟩
    · by_cases e1 : i = 1
      · exact ⟨v3.toNat, by omega, by simp only [e1]; simp; omega⟩
      · exact ⟨12, by omega, by simp only [e0, e1, if_false]; rfl⟩
  rw [hm]
  clear hn hw hm hi HV2 HV3 hSl
  go_wp2_with fail
  go_loopw [3, 4, 5, 6] (fun u x k _ wr => ∃ (q : Nat) (y : Int) (zs : List Vr) (t' : Nat), k = .int .i64 (q : Int) ∧ q + zs.length ≤ 12 ∧ x = .int .i64 y ∧ t' ≤ t + 4 + zs.length * 6 ∧ Hid (u ≠ .slice none 0 0) ∧ Hid (Dv w wr S a kk cap z t' u zs)) (fun _ _ k _ _ => (intOf k).toNat)
  case atStart => exact ⟨m, _, xs, t + 4, rfl, by have := HXL.out; omega, rfl, by omega, HVN, HD⟩
  clear HD HVN HXL
  case round =>
    obtain ⟨q, y, xs, t1, rfl, hqx, rfl, ht1, HVN, HD⟩ := hrel
    obtain ⟨g, c, rfl, hgc, hgl, hgr⟩ := ownV_shape HD.out.own HVN.out
    by_cases hq0 : 0 < q
    · obtain ⟨q, rfl⟩ : ∃ p, q = p + 1 := ⟨q - 1, by omega⟩
      clear hq0
      have hqi : (0 : Int) < (q : Int) + 1 := by omega
      go_wp2_with fail
      refine (l1Next_any S a kk cap z t1 6 _ (by omega) (by omega) HD.out.src).mono ?_
      rintro e w1 ⟨a1, rfl, hv, hn⟩
      replace HD : Hid (Dv w w1 S a kk cap z (t1 + 1) (.slice (some ⟨g, 0, none⟩) xs.length c) xs) := HD.out.dw hn.dw
      have hwa : IntKind.i64.wrap (1 + a1) = 1 + a1 := by obtain ⟨u1, u2, -⟩ := hv; have u2 := u2 (by omega); rw [IntKind.wrap_i64]; omega
      clear hn hv
      go_wp2_with fail
      refine (l1Next_any S a kk cap z (t1 + 1) 90 _ (by omega) (by omega) HD.out.src).mono ?_
      rintro e w2 ⟨a2, rfl, hv, hn⟩
      replace HD : Hid (Dv w w2 S a kk cap z (t1 + 2) (.slice (some ⟨g, 0, none⟩) xs.length c) xs) := HD.out.dw hn.dw
      clear hn hv
      have hSl : S < w2.heap.size := HD.out.src.lt
      have hsz2 : w.heap.size ≤ w2.heap.size := HD.out.ws.size
      have hBne9 : (Value.slice (some ⟨g, 0, none⟩) xs.length c).ownBlock ≠ some w2.heap.size := HD.out.own_ne (Nat.le_refl _)
      go_upto_region 7 with fail
      obtain ⟨W, hW⟩ : ∃ x, x = w2.alloc (.cells #[.int .i64 (1 + a1), .int .i64 y, .bool false, .int .i64 a2] 51) := ⟨_, rfl⟩
      have hcc : C4 W w2.heap.size 0 ⟨1 + a1, y, false, a2⟩ := by rw [hW]; exact box_v w2 ⟨1 + a1, y, false, a2⟩ _
      have hbf : ∀ i, W.frozen? ⟨w2.heap.size, i, none⟩ = false := fun i => by rw [hW]; simp [go_sem]
      have hBw : w2.heap.size < W.heap.size := by rw [hW]; simp
      replace HD : Hid (Dv w W S a kk cap z (t1 + 2) (.slice (some ⟨g, 0, none⟩) xs.length c) xs) := by rw [hW]; exact HD.out.up (below_new _ _)
      rw [← hW]
      clear hW hwa
      obtain ⟨B, hBe⟩ : ∃ B, B = w2.heap.size := ⟨_, rfl⟩
      rw [← hBe] at hcc hbf hBw hBne9 hsz2 hSl ⊢
      have hBM : w.heap.size ≤ B := hsz2
      have hBne := hBne9
      clear hBe hBne9 hsz2
      generalize (1 + a1) = b1v at *
      obtain ⟨r, hr⟩ : ∃ r : Vr, r = ⟨b1v, y, false, a2⟩ := ⟨_, rfl⟩
      rw [← hr] at hcc
      clear hr
      go_wp2_with fail
      refine (l1Chance_any S a kk cap z (t1 + 2) 4 _ (by omega) (by omega) HD.out.src).mono ?_
      rintro e w3 ⟨b1, rfl, hn⟩
      have hw := hn.dw
      have hbk := hw.1.block B hBw (.inr (by omega))
      replace hcc := hcc.block hbk
      replace hbf : ∀ i, w3.frozen? ⟨B, i, none⟩ = false := fun i => (World.frozen?_of_block (a := ⟨B, i, none⟩) hbk).trans (hbf i)
      replace hBw : B < w3.heap.size := Nat.lt_of_lt_of_le hBw hw.1.size
      replace HD : Hid (Dv w w3 S a kk cap z (t1 + 3) (.slice (some ⟨g, 0, none⟩) xs.length c) xs) := HD.out.dw hw
      clear hn hw hbk
      cases b1 with
      | true =>
        obtain ⟨x0, x1, x2, x3⟩ := hcc
        go_upto_region 10 with fail
        obtain ⟨W3, hW3⟩ : ∃ x, x = (w3.setCell ⟨B, 2, none⟩ (.bool true)).setCell ⟨B, 3, none⟩ (.int .i64 0) := ⟨_, rfl⟩
        have hcc : C4 W3 B 0 { r with g := true, v := 0 } := by rw [hW3]; exact C4.set3 (r := { r with g := true }) (C4.set2 (r := r) ⟨x0, x1, x2, x3⟩ true) 0
        replace HD : Hid (Dv w W3 S a kk cap z (t1 + 3) (.slice (some ⟨g, 0, none⟩) xs.length c) xs) := by rw [hW3]; exact (HD.out.set hBM hBne 2 _).set hBM hBne 3 _
        replace hbf : ∀ i, W3.frozen? ⟨B, i, none⟩ = false := fun i => by rw [hW3, World.frozen?_setCell, World.frozen?_setCell]; exact hbf i
        replace hBw : B < W3.heap.size := by rw [hW3]; simpa [World.setCell] using hBw
        rw [← hW3]
        clear hW3 x0 x1 x2 x3
        obtain ⟨r, hr⟩ : ∃ s : Vr, s = { r with g := true, v := 0 } := ⟨_, rfl⟩
        rw [← hr] at hcc
        clear hr
        by_cases hx : xs.length = 0
        · obtain rfl : xs = [] := List.length_eq_zero_iff.1 hx
          replace HD : Hid (Dv w W3 S a kk cap z (t1 + 3) (.slice (some ⟨g, 0, none⟩) 0 c) ([] : List Vr)) := HD
          clear hx
          rw [List.length_nil]
          rw [List.length_nil] at hqx ht1
          go_wp2_with fail
          refine (l1Chance_any S a kk cap z (t1 + 3) 2 _ (by omega) (by omega) HD.out.src).mono ?_
          rintro e w4 ⟨b2, rfl, hn⟩
          have hw := hn.dw
          have hbk := hw.1.block B hBw (.inr (by omega))
          replace hcc := hcc.block hbk
          replace hbf : ∀ i, w4.frozen? ⟨B, i, none⟩ = false := fun i => (World.frozen?_of_block (a := ⟨B, i, none⟩) hbk).trans (hbf i)
          replace hBw : B < w4.heap.size := Nat.lt_of_lt_of_le hBw hw.1.size
          replace HD : Hid (Dv w w4 S a kk cap z (t1 + 3 + 1) (.slice (some ⟨g, 0, none⟩) 0 c) ([] : List Vr)) := HD.out.dw hw
          clear hn hw hbk
          cases b2 with
          | true =>
            obtain ⟨x0, x1, x2, x3⟩ := hcc
            try dsimp only at x0 x1 x2 x3
            go_upto_region 12 with fail
            obtain ⟨W4, hW4⟩ : ∃ x, x = w4.setCell ⟨B, 1, none⟩ (.int .i64 0) := ⟨_, rfl⟩
            have hcc : C4 W4 B 0 { r with a := 0 } := by rw [hW4]; exact C4.set1 (r := r) ⟨x0, x1, x2, x3⟩ 0
            replace HD : Hid (Dv w W4 S a kk cap z (t1 + 3 + 1) (.slice (some ⟨g, 0, none⟩) 0 c) ([] : List Vr)) := by rw [hW4]; exact HD.out.set hBM hBne 1 _
            rw [← hW4]
            clear hW4 x0 x1 x2 x3 hbf hBw
            obtain ⟨x0, x1, x2, x3⟩ := hcc
            have HAP : Hid (Dv w (W4.alloc (.cells #[.int .i64 ({ r with a := 0 } : Vr).t, .int .i64 ({ r with a := 0 } : Vr).a, .bool ({ r with a := 0 } : Vr).g, .int .i64 ({ r with a := 0 } : Vr).v] 51)) S a kk cap z (t1 + 3 + 1) (.slice (some ⟨g, 0, none⟩) 0 c) ([] : List Vr)) := HD.out.up (below_new _ _)
            have HLV : Hid (VersAt (W4.alloc (.cells #[.int .i64 ({ r with a := 0 } : Vr).t, .int .i64 ({ r with a := 0 } : Vr).a, .bool ({ r with a := 0 } : Vr).g, .int .i64 ({ r with a := 0 } : Vr).v] 51)) (some ⟨W4.heap.size, 0, none⟩) 1 (fun _ => ({ r with a := 0 } : Vr))) := lit_v W4 ({ r with a := 0 } : Vr)
            try dsimp only at x0 x1 x2 x3
            go_wp2_with (at_builtin; refine wpList_appV _ rfl (.tmp 41) (.tmp 43) rfl w.heap.size _ ([] : List Vr) rfl HAP.out.own (some ⟨W4.heap.size, 0, none⟩) 1 1 (fun _ => ({ r with a := 0 } : Vr)) rfl HLV.out (by first | omega | simp) (Nat.le_trans HAP.out.ws.size (Nat.le_refl _)) ?_)
            intro v1 w5 ho0 hg1
            have ho1 : w5.ownsRow w.heap.size 51 4 v1 (([] : List Vr) ++ vL (fun _ => ({ r with a := 0 } : Vr)) 1).length (vb (([] : List Vr) ++ vL (fun _ => ({ r with a := 0 } : Vr)) 1)) := by first | exact ho0 | (rw [List.length_append]; exact ho0) | simpa using ho0
            have HD5 : Hid (Dv w w5 S a kk cap z (t1 + 3 + 1) v1 (([] : List Vr) ++ vL (fun _ => ({ r with a := 0 } : Vr)) 1)) := HAP.out.app hg1 ho1
            have hlen : (([] : List Vr) ++ vL (fun _ => ({ r with a := 0 } : Vr)) 1).length = 0 + 1 := by simp [vL]
            have HVN1 : Hid (v1 ≠ .slice none 0 0) := ownV_ne ho1 (by rw [hlen]; omega)
            clear ho0 ho1 hg1 HAP HLV x0 x1 x2 x3 HD
            go_wp2_with fail
            refine (l1Next_any S a kk cap z (t1 + 3 + 1) 3 _ (by omega) (by omega) HD5.out.src).mono ?_
            rintro e w6 ⟨a6, rfl, hv6, hn6⟩
            have HD6 : Hid (Dv w w6 S a kk cap z (t1 + 3 + 1 + 1) v1 (([] : List Vr) ++ vL (fun _ => ({ r with a := 0 } : Vr)) 1)) := HD5.out.dw hn6.dw
            clear hv6 hn6 HD5
            generalize (([] : List Vr) ++ vL (fun _ => ({ r with a := 0 } : Vr)) 1) = ys at *
            go_wp2_with fail
            go_roundw
            case rel => exact ⟨q, _, ys, t1 + 3 + 1 + 1, by go_num, by omega, rfl, by omega, HVN1, HD6⟩
            case measure => first | (simp [intOf]; done) | (simp [intOf]; omega)
          | false =>
            clear hbf hBw
            obtain ⟨x0, x1, x2, x3⟩ := hcc
            have HAP : Hid (Dv w (w4.alloc (.cells #[.int .i64 r.t, .int .i64 r.a, .bool r.g, .int .i64 r.v] 51)) S a kk cap z (t1 + 3 + 1) (.slice (some ⟨g, 0, none⟩) 0 c) ([] : List Vr)) := HD.out.up (below_new _ _)
            have HLV : Hid (VersAt (w4.alloc (.cells #[.int .i64 r.t, .int .i64 r.a, .bool r.g, .int .i64 r.v] 51)) (some ⟨w4.heap.size, 0, none⟩) 1 (fun _ => r)) := lit_v w4 r
            try dsimp only at x0 x1 x2 x3
            go_wp2_with (at_builtin; refine wpList_appV _ rfl (.tmp 41) (.tmp 43) rfl w.heap.size _ ([] : List Vr) rfl HAP.out.own (some ⟨w4.heap.size, 0, none⟩) 1 1 (fun _ => r) rfl HLV.out (by first | omega | simp) (Nat.le_trans HAP.out.ws.size (Nat.le_refl _)) ?_)
            intro v1 w5 ho0 hg1
            have ho1 : w5.ownsRow w.heap.size 51 4 v1 (([] : List Vr) ++ vL (fun _ => r) 1).length (vb (([] : List Vr) ++ vL (fun _ => r) 1)) := by first | exact ho0 | (rw [List.length_append]; exact ho0) | simpa using ho0
            have HD5 : Hid (Dv w w5 S a kk cap z (t1 + 3 + 1) v1 (([] : List Vr) ++ vL (fun _ => r) 1)) := HAP.out.app hg1 ho1
            have hlen : (([] : List Vr) ++ vL (fun _ => r) 1).length = 0 + 1 := by simp [vL]
            have HVN1 : Hid (v1 ≠ .slice none 0 0) := ownV_ne ho1 (by rw [hlen]; omega)
            clear ho0 ho1 hg1 HAP HLV x0 x1 x2 x3 HD
            go_wp2_with fail
            refine (l1Next_any S a kk cap z (t1 + 3 + 1) 3 _ (by omega) (by omega) HD5.out.src).mono ?_
            rintro e w6 ⟨a6, rfl, hv6, hn6⟩
            have HD6 : Hid (Dv w w6 S a kk cap z (t1 + 3 + 1 + 1) v1 (([] : List Vr) ++ vL (fun _ => r) 1)) := HD5.out.dw hn6.dw
            clear hv6 hn6 HD5
            generalize (([] : List Vr) ++ vL (fun _ => r) 1) = ys at *
            go_wp2_with fail
            go_roundw
            case rel => exact ⟨q, _, ys, t1 + 3 + 1 + 1, by go_num, by omega, rfl, by omega, HVN1, HD6⟩
            case measure => first | (simp [intOf]; done) | (simp [intOf]; omega)
        · have hxi : ((xs.length : Int) == 0) = false := beq_eq_false_iff_ne.2 (by omega)
          clear hbf hBw
          obtain ⟨x0, x1, x2, x3⟩ := hcc
          have HAP : Hid (Dv w (W3.alloc (.cells #[.int .i64 r.t, .int .i64 r.a, .bool r.g, .int .i64 r.v] 51)) S a kk cap z (t1 + 3) (.slice (some ⟨g, 0, none⟩) xs.length c) xs) := HD.out.up (below_new _ _)
          have HLV : Hid (VersAt (W3.alloc (.cells #[.int .i64 r.t, .int .i64 r.a, .bool r.g, .int .i64 r.v] 51)) (some ⟨W3.heap.size, 0, none⟩) 1 (fun _ => r)) := lit_v W3 r
          try dsimp only at x0 x1 x2 x3
          go_wp2_with (at_builtin; refine wpList_appV _ rfl (.tmp 41) (.tmp 43) rfl w.heap.size _ xs rfl HAP.out.own (some ⟨W3.heap.size, 0, none⟩) 1 1 (fun _ => r) rfl HLV.out (by first | omega | simp) (Nat.le_trans HAP.out.ws.size (Nat.le_refl _)) ?_)
          intro v1 w5 ho0 hg1
          have ho1 : w5.ownsRow w.heap.size 51 4 v1 (xs ++ vL (fun _ => r) 1).length (vb (xs ++ vL (fun _ => r) 1)) := by first | exact ho0 | (rw [List.length_append]; exact ho0) | simpa using ho0
          have HD5 : Hid (Dv w w5 S a kk cap z (t1 + 3) v1 (xs ++ vL (fun _ => r) 1)) := HAP.out.app hg1 ho1
          have hlen : (xs ++ vL (fun _ => r) 1).length = xs.length + 1 := by simp [vL]
          have HVN1 : Hid (v1 ≠ .slice none 0 0) := ownV_ne ho1 (by rw [hlen]; omega)
          clear ho0 ho1 hg1 HAP HLV x0 x1 x2 x3 HD
          go_wp2_with fail
          refine (l1Next_any S a kk cap z (t1 + 3) 3 _ (by omega) (by omega) HD5.out.src).mono ?_
          rintro e w6 ⟨a6, rfl, hv6, hn6⟩
          have HD6 : Hid (Dv w w6 S a kk cap z (t1 + 3 + 1) v1 (xs ++ vL (fun _ => r) 1)) := HD5.out.dw hn6.dw
          clear hv6 hn6 HD5
          generalize (xs ++ vL (fun _ => r) 1) = ys at *
          go_wp2_with fail
          go_roundw
          case rel => exact ⟨q, _, ys, t1 + 3 + 1, by go_num, by omega, rfl, by omega, HVN1, HD6⟩
          case measure => first | (simp [intOf]; done) | (simp [intOf]; omega)
      | false =>
        by_cases hx : xs.length = 0
        · obtain rfl : xs = [] := List.length_eq_zero_iff.1 hx
          replace HD : Hid (Dv w w3 S a kk cap z (t1 + 3) (.slice (some ⟨g, 0, none⟩) 0 c) ([] : List Vr)) := HD
          clear hx
          rw [List.length_nil]
          rw [List.length_nil] at hqx ht1
          go_wp2_with fail
          refine (l1Chance_any S a kk cap z (t1 + 3) 2 _ (by omega) (by omega) HD.out.src).mono ?_
          rintro e w4 ⟨b2, rfl, hn⟩
          have hw := hn.dw
          have hbk := hw.1.block B hBw (.inr (by omega))
          replace hcc := hcc.block hbk
          replace hbf : ∀ i, w4.frozen? ⟨B, i, none⟩ = false := fun i => (World.frozen?_of_block (a := ⟨B, i, none⟩) hbk).trans (hbf i)
          replace hBw : B < w4.heap.size := Nat.lt_of_lt_of_le hBw hw.1.size
          replace HD : Hid (Dv w w4 S a kk cap z (t1 + 3 + 1) (.slice (some ⟨g, 0, none⟩) 0 c) ([] : List Vr)) := HD.out.dw hw
          clear hn hw hbk
          cases b2 with
          | true =>
            obtain ⟨x0, x1, x2, x3⟩ := hcc
            try dsimp only at x0 x1 x2 x3
            go_upto_region 12 with fail
            obtain ⟨W4, hW4⟩ : ∃ x, x = w4.setCell ⟨B, 1, none⟩ (.int .i64 0) := ⟨_, rfl⟩
            have hcc : C4 W4 B 0 { r with a := 0 } := by rw [hW4]; exact C4.set1 (r := r) ⟨x0, x1, x2, x3⟩ 0
            replace HD : Hid (Dv w W4 S a kk cap z (t1 + 3 + 1) (.slice (some ⟨g, 0, none⟩) 0 c) ([] : List Vr)) := by rw [hW4]; exact HD.out.set hBM hBne 1 _
            rw [← hW4]
            clear hW4 x0 x1 x2 x3 hbf hBw
            obtain ⟨x0, x1, x2, x3⟩ := hcc
            have HAP : Hid (Dv w (W4.alloc (.cells #[.int .i64 ({ r with a := 0 } : Vr).t, .int .i64 ({ r with a := 0 } : Vr).a, .bool ({ r with a := 0 } : Vr).g, .int .i64 ({ r with a := 0 } : Vr).v] 51)) S a kk cap z (t1 + 3 + 1) (.slice (some ⟨g, 0, none⟩) 0 c) ([] : List Vr)) := HD.out.up (below_new _ _)
            have HLV : Hid (VersAt (W4.alloc (.cells #[.int .i64 ({ r with a := 0 } : Vr).t, .int .i64 ({ r with a := 0 } : Vr).a, .bool ({ r with a := 0 } : Vr).g, .int .i64 ({ r with a := 0 } : Vr).v] 51)) (some ⟨W4.heap.size, 0, none⟩) 1 (fun _ => ({ r with a := 0 } : Vr))) := lit_v W4 ({ r with a := 0 } : Vr)
            try dsimp only at x0 x1 x2 x3
            go_wp2_with (at_builtin; refine wpList_appV _ rfl (.tmp 41) (.tmp 43) rfl w.heap.size _ ([] : List Vr) rfl HAP.out.own (some ⟨W4.heap.size, 0, none⟩) 1 1 (fun _ => ({ r with a := 0 } : Vr)) rfl HLV.out (by first | omega | simp) (Nat.le_trans HAP.out.ws.size (Nat.le_refl _)) ?_)
            intro v1 w5 ho0 hg1
            have ho1 : w5.ownsRow w.heap.size 51 4 v1 (([] : List Vr) ++ vL (fun _ => ({ r with a := 0 } : Vr)) 1).length (vb (([] : List Vr) ++ vL (fun _ => ({ r with a := 0 } : Vr)) 1)) := by first | exact ho0 | (rw [List.length_append]; exact ho0) | simpa using ho0
            have HD5 : Hid (Dv w w5 S a kk cap z (t1 + 3 + 1) v1 (([] : List Vr) ++ vL (fun _ => ({ r with a := 0 } : Vr)) 1)) := HAP.out.app hg1 ho1
            have hlen : (([] : List Vr) ++ vL (fun _ => ({ r with a := 0 } : Vr)) 1).length = 0 + 1 := by simp [vL]
            have HVN1 : Hid (v1 ≠ .slice none 0 0) := ownV_ne ho1 (by rw [hlen]; omega)
            clear ho0 ho1 hg1 HAP HLV x0 x1 x2 x3 HD
            go_wp2_with fail
            refine (l1Next_any S a kk cap z (t1 + 3 + 1) 3 _ (by omega) (by omega) HD5.out.src).mono ?_
            rintro e w6 ⟨a6, rfl, hv6, hn6⟩
            have HD6 : Hid (Dv w w6 S a kk cap z (t1 + 3 + 1 + 1) v1 (([] : List Vr) ++ vL (fun _ => ({ r with a := 0 } : Vr)) 1)) := HD5.out.dw hn6.dw
            clear hv6 hn6 HD5
            generalize (([] : List Vr) ++ vL (fun _ => ({ r with a := 0 } : Vr)) 1) = ys at *
            go_wp2_with fail
            go_roundw
            case rel => exact ⟨q, _, ys, t1 + 3 + 1 + 1, by go_num, by omega, rfl, by omega, HVN1, HD6⟩
            case measure => first | (simp [intOf]; done) | (simp [intOf]; omega)
          | false =>
            clear hbf hBw
            obtain ⟨x0, x1, x2, x3⟩ := hcc
            have HAP : Hid (Dv w (w4.alloc (.cells #[.int .i64 r.t, .int .i64 r.a, .bool r.g, .int .i64 r.v] 51)) S a kk cap z (t1 + 3 + 1) (.slice (some ⟨g, 0, none⟩) 0 c) ([] : List Vr)) := HD.out.up (below_new _ _)
            have HLV : Hid (VersAt (w4.alloc (.cells #[.int .i64 r.t, .int .i64 r.a, .bool r.g, .int .i64 r.v] 51)) (some ⟨w4.heap.size, 0, none⟩) 1 (fun _ => r)) := lit_v w4 r
            try dsimp only at x0 x1 x2 x3
            go_wp2_with (at_builtin; refine wpList_appV _ rfl (.tmp 41) (.tmp 43) rfl w.heap.size _ ([] : List Vr) rfl HAP.out.own (some ⟨w4.heap.size, 0, none⟩) 1 1 (fun _ => r) rfl HLV.out (by first | omega | simp) (Nat.le_trans HAP.out.ws.size (Nat.le_refl _)) ?_)
            intro v1 w5 ho0 hg1
            have ho1 : w5.ownsRow w.heap.size 51 4 v1 (([] : List Vr) ++ vL (fun _ => r) 1).length (vb (([] : List Vr) ++ vL (fun _ => r) 1)) := by first | exact ho0 | (rw [List.length_append]; exact ho0) | simpa using ho0
            have HD5 : Hid (Dv w w5 S a kk cap z (t1 + 3 + 1) v1 (([] : List Vr) ++ vL (fun _ => r) 1)) := HAP.out.app hg1 ho1
            have hlen : (([] : List Vr) ++ vL (fun _ => r) 1).length = 0 + 1 := by simp [vL]
            have HVN1 : Hid (v1 ≠ .slice none 0 0) := ownV_ne ho1 (by rw [hlen]; omega)
            clear ho0 ho1 hg1 HAP HLV x0 x1 x2 x3 HD
            go_wp2_with fail
            refine (l1Next_any S a kk cap z (t1 + 3 + 1) 3 _ (by omega) (by omega) HD5.out.src).mono ?_
            rintro e w6 ⟨a6, rfl, hv6, hn6⟩
            have HD6 : Hid (Dv w w6 S a kk cap z (t1 + 3 + 1 + 1) v1 (([] : List Vr) ++ vL (fun _ => r) 1)) := HD5.out.dw hn6.dw
            clear hv6 hn6 HD5
            generalize (([] : List Vr) ++ vL (fun _ => r) 1) = ys at *
            go_wp2_with fail
            go_roundw
            case rel => exact ⟨q, _, ys, t1 + 3 + 1 + 1, by go_num, by omega, rfl, by omega, HVN1, HD6⟩
            case measure => first | (simp [intOf]; done) | (simp [intOf]; omega)
        · have hxi : ((xs.length : Int) == 0) = false := beq_eq_false_iff_ne.2 (by omega)
          clear hbf hBw
          obtain ⟨x0, x1, x2, x3⟩ := hcc
          have HAP : Hid (Dv w (w3.alloc (.cells #[.int .i64 r.t, .int .i64 r.a, .bool r.g, .int .i64 r.v] 51)) S a kk cap z (t1 + 3) (.slice (some ⟨g, 0, none⟩) xs.length c) xs) := HD.out.up (below_new _ _)
          have HLV : Hid (VersAt (w3.alloc (.cells #[.int .i64 r.t, .int .i64 r.a, .bool r.g, .int .i64 r.v] 51)) (some ⟨w3.heap.size, 0, none⟩) 1 (fun _ => r)) := lit_v w3 r
          try dsimp only at x0 x1 x2 x3
          go_wp2_with (at_builtin; refine wpList_appV _ rfl (.tmp 41) (.tmp 43) rfl w.heap.size _ xs rfl HAP.out.own (some ⟨w3.heap.size, 0, none⟩) 1 1 (fun _ => r) rfl HLV.out (by first | omega | simp) (Nat.le_trans HAP.out.ws.size (Nat.le_refl _)) ?_)
          intro v1 w5 ho0 hg1
          have ho1 : w5.ownsRow w.heap.size 51 4 v1 (xs ++ vL (fun _ => r) 1).length (vb (xs ++ vL (fun _ => r) 1)) := by first | exact ho0 | (rw [List.length_append]; exact ho0) | simpa using ho0
          have HD5 : Hid (Dv w w5 S a kk cap z (t1 + 3) v1 (xs ++ vL (fun _ => r) 1)) := HAP.out.app hg1 ho1
          have hlen : (xs ++ vL (fun _ => r) 1).length = xs.length + 1 := by simp [vL]
          have HVN1 : Hid (v1 ≠ .slice none 0 0) := ownV_ne ho1 (by rw [hlen]; omega)
          clear ho0 ho1 hg1 HAP HLV x0 x1 x2 x3 HD
          go_wp2_with fail
          refine (l1Next_any S a kk cap z (t1 + 3) 3 _ (by omega) (by omega) HD5.out.src).mono ?_
          rintro e w6 ⟨a6, rfl, hv6, hn6⟩
          have HD6 : Hid (Dv w w6 S a kk cap z (t1 + 3 + 1) v1 (xs ++ vL (fun _ => r) 1)) := HD5.out.dw hn6.dw
          clear hv6 hn6 HD5
          generalize (xs ++ vL (fun _ => r) 1) = ys at *
          go_wp2_with fail
          go_roundw
          case rel => exact ⟨q, _, ys, t1 + 3 + 1, by go_num, by omega, rfl, by omega, HVN1, HD6⟩
          case measure => first | (simp [intOf]; done) | (simp [intOf]; omega)
    · have hqz : q = 0 := by omega
      subst hqz
      go_wp2_with fail
      go_ret
      exact ⟨_, xs, t1, rfl, HVN.out, by omega, by omega, HD.out⟩
theorem row4_put0 {w : World} {g n i : Nat} {R : Nat → Vr} (hi : i < n) (h : Row4 w g 0 n R) (x : Int) : Row4 (w.setCell ⟨g, i * 4, none⟩ (.int .i64 x)) g 0 n (fun j => if j = i then { R i with t := x } else R j) := by
  refine ⟨fun j hj => ?_, fun q => by rw [World.frozen?_setCell]; exact h.2 q⟩
  obtain ⟨h0, h1, h2, h3⟩ := h.1 j hj
  by_cases e : j = i
  · subst e
    simp only [if_true]
    rw [Nat.zero_add] at h0 h1 h2 h3 ⊢
    exact ⟨setS h0, (setO (by omega)).trans h1, (setO (by omega)).trans h2, (setO (by omega)).trans h3⟩
  · simp only [if_neg e]
    exact ⟨(setO (by omega)).trans h0, (setO (by omega)).trans h1, (setO (by omega)).trans h2, (setO (by omega)).trans h3⟩
theorem row4_put1 {w : World} {g n i : Nat} {R : Nat → Vr} (hi : i < n) (h : Row4 w g 0 n R) (x : Int) : Row4 (w.setCell ⟨g, i * 4 + 1, none⟩ (.int .i64 x)) g 0 n (fun j => if j = i then { R i with a := x } else R j) := by
  refine ⟨fun j hj => ?_, fun q => by rw [World.frozen?_setCell]; exact h.2 q⟩
  obtain ⟨h0, h1, h2, h3⟩ := h.1 j hj
  by_cases e : j = i
  · subst e
    simp only [if_true]
    rw [Nat.zero_add] at h0 h1 h2 h3 ⊢
    exact ⟨(setO (by omega)).trans h0, setS h1, (setO (by omega)).trans h2, (setO (by omega)).trans h3⟩
  · simp only [if_neg e]
    exact ⟨(setO (by omega)).trans h0, (setO (by omega)).trans h1, (setO (by omega)).trans h2, (setO (by omega)).trans h3⟩
theorem row4_put2 {w : World} {g n i : Nat} {R : Nat → Vr} (hi : i < n) (h : Row4 w g 0 n R) (x : Bool) : Row4 (w.setCell ⟨g, i * 4 + 2, none⟩ (.bool x)) g 0 n (fun j => if j = i then { R i with g := x } else R j) := by
  refine ⟨fun j hj => ?_, fun q => by rw [World.frozen?_setCell]; exact h.2 q⟩
  obtain ⟨h0, h1, h2, h3⟩ := h.1 j hj
  by_cases e : j = i
  · subst e
    simp only [if_true]
    rw [Nat.zero_add] at h0 h1 h2 h3 ⊢
    exact ⟨(setO (by omega)).trans h0, (setO (by omega)).trans h1, setS h2, (setO (by omega)).trans h3⟩
  · simp only [if_neg e]
    exact ⟨(setO (by omega)).trans h0, (setO (by omega)).trans h1, (setO (by omega)).trans h2, (setO (by omega)).trans h3⟩
theorem row4_put3 {w : World} {g n i : Nat} {R : Nat → Vr} (hi : i < n) (h : Row4 w g 0 n R) (x : Int) : Row4 (w.setCell ⟨g, i * 4 + 3, none⟩ (.int .i64 x)) g 0 n (fun j => if j = i then { R i with v := x } else R j) := by
  refine ⟨fun j hj => ?_, fun q => by rw [World.frozen?_setCell]; exact h.2 q⟩
  obtain ⟨h0, h1, h2, h3⟩ := h.1 j hj
  by_cases e : j = i
  · subst e
    simp only [if_true]
    rw [Nat.zero_add] at h0 h1 h2 h3 ⊢
    exact ⟨(setO (by omega)).trans h0, (setO (by omega)).trans h1, (setO (by omega)).trans h2, setS h3⟩
  · simp only [if_neg e]
    exact ⟨(setO (by omega)).trans h0, (setO (by omega)).trans h1, (setO (by omega)).trans h2, (setO (by omega)).trans h3⟩
theorem Dv.row {w wr : World} {S : Nat} {a : Option Addr} {kk cap : Nat} {z : Nat → Int} {t g c : Nat} {xs : List Vr} (h : Dv w wr S a kk cap z t (.slice (some ⟨g, 0, none⟩) xs.length c) xs) : Row4 wr g 0 xs.length (fun i => xs.getD i zV) := by
  have h4 := own4_of_row rfl h.own
  refine ⟨fun i hi => ?_, fun i => h.own.frozenAt _⟩
  obtain ⟨-, e | ⟨b, off, e, -, -, hr⟩⟩ := h4
  · omega
  · simp only [Option.some.injEq, Addr.mk.injEq, and_true] at e
    obtain ⟨rfl, rfl⟩ := e
    exact hr.1 i hi
/-- A chain that was drawn. -/
def BentA (S : Nat) (a : Option Addr) (kk cap : Nat) (z : Nat → Int) (t : Nat) (w : World) (e : Ending) (w' : World) : Prop :=
  ∃ (g n c : Nat) (R : Nat → Vr) (t' : Nat), e = .returned (.slice (some ⟨g, 0, none⟩) n c) ∧ n ≤ 13 ∧ n ≤ c ∧ t' ≤ t + 110 ∧ VersAt w' (some ⟨g, 0, none⟩) n R ∧ w.heap.size ≤ g ∧ Dw S a kk cap z t' w w'
theorem bent_of {w wr : World} {S : Nat} {a : Option Addr} {kk cap : Nat} {z : Nat → Int} {t t' g c o : Nat} {xs : List Vr} {R : Nat → Vr} {x : Value} (h : Dv w wr S a kk cap z t' (.slice (some ⟨g, 0, none⟩) xs.length c) xs) (hg : w.heap.size ≤ g) (hc : xs.length ≤ c) (hn : xs.length ≤ 13) (ht : t' ≤ t + 110) (hr : Row4 (wr.setCell ⟨g, o, none⟩ x) g 0 xs.length R) :
    BentA S a kk cap z t w (.returned (.slice (some ⟨g, 0, none⟩) xs.length c)) (wr.setCell ⟨g, o, none⟩ x) := by
  have hS := h.hS
  have hlt := (h.own.lt g rfl).2
  have e : ∀ k, k ≠ g → (wr.setCell ⟨g, o, none⟩ x).heap[k]? = wr.heap[k]? := fun k hk => Below.heap_setCell _ _ _ _ (by show ¬ k = g; exact hk)
  have hz : (wr.setCell ⟨g, o, none⟩ x).heap.size = wr.heap.size := by simp [World.setCell]
  exact ⟨g, xs.length, c, R, t', rfl, hn, hc, ht, .inr ⟨g, 0, rfl, by rw [hz]; exact hlt, hr.1⟩, hg, ⟨h.ws.os, h.ws.tape, h.ws.output, by rw [hz]; exact h.ws.size, fun k hk hd => (e k (by omega)).trans (h.ws.block k hk hd)⟩, src_block h.src (by rw [hz]; exact Nat.le_refl _) fun b hb => e b (by omega)⟩
theorem bent_plain {w wr : World} {S : Nat} {a : Option Addr} {kk cap : Nat} {z : Nat → Int} {t t' g c : Nat} {xs : List Vr} (h : Dv w wr S a kk cap z t' (.slice (some ⟨g, 0, none⟩) xs.length c) xs) (hg : w.heap.size ≤ g) (hc : xs.length ≤ c) (hn : xs.length ≤ 13) (ht : t' ≤ t + 110) :
    BentA S a kk cap z t w (.returned (.slice (some ⟨g, 0, none⟩) xs.length c)) wr :=
  ⟨g, xs.length, c, _, t', rfl, hn, hc, ht, .inr ⟨g, 0, rfl, (h.own.lt g rfl).2, h.row.1⟩, hg, h.ws, h.src⟩
set_option maxHeartbeats 8000000 in
theorem l5Bent_any (S : Nat) (a : Option Addr) (kk cap : Nat) (z : Nat → Int) (t : Nat) (w : World) (ht : t ≤ 800000) (h : Src w S a kk cap z t) :
    Calls Try.prog 20 #[.pointer (some ⟨S, 0, none⟩)] w (BentA S a kk cap z t w) := by
  have HS : Hid (Src w S a kk cap z t) := h
  clear h
  have hmk : ∀ u, (Instr.makeSlice 24 (.int .i64 13) (.int .i64 13)).run Try.prog u = _ := fun u => run_make_vers 13 (by omega) u
  go_enter Try.func20, Try.ntmps20
  go_wp2_with fail
  refine (l5Chain_any S a kk cap z t w (by omega) HS.out).mono ?_
  rintro e w1 ⟨v, xs, t1, rfl, hv, hx12, ht1, hd⟩
  have HD : Hid (Dv w w1 S a kk cap z t1 v xs) := hd
  obtain ⟨g, c, rfl, hgc, hgl, hgr⟩ := ownV_shape hd.own hv
  clear hd hv
  by_cases hx : xs.length = 0
  · have HFI : Hid (BentA S a kk cap z t w (.returned (.slice (some ⟨g, 0, none⟩) xs.length c)) w1) := bent_plain HD.out hgl hgc (by omega) (by omega)
    have hxi : ((xs.length : Int) == 0) = true := beq_iff_eq.2 (by omega)
    generalize xs.length = n at *
    clear hx HD
    go_wp2_with fail
    go_ret
    first | exact HFI.out | (have hn0 : n = 0 := by simpa using hxi
                             subst hn0
                             exact HFI.out)
  · have hxi : ((xs.length : Int) == 0) = false := beq_eq_false_iff_ne.2 (by omega)
    have hxp : (1 : Int) ≤ (xs.length : Int) := by omega
    go_wp2_with fail
    refine (l1Next_any S a kk cap z t1 (xs.length : Int) _ (by omega) (by omega) HD.out.src).mono ?_
    rintro e w2 ⟨iv, rfl, hv, hn⟩
    replace HD : Hid (Dv w w2 S a kk cap z (t1 + 1) (.slice (some ⟨g, 0, none⟩) xs.length c) xs) := HD.out.dw hn.dw
    obtain ⟨i, rfl, hi⟩ : ∃ i : Nat, iv = (i : Int) ∧ i < xs.length := by
      obtain ⟨u1, u2, -⟩ := hv
      have u2 := u2 hxp
      exact ⟨iv.toNat, by omega, by omega⟩
    have hi1 : (i : Int) < (xs.length : Int) := by omega
    have hi0 : (0 : Int) ≤ (i : Int) := by omega
    clear hn hv hxp
    go_wp2_with fail
    refine (l1Next_any S a kk cap z (t1 + 1) 20 _ (by omega) (by omega) HD.out.src).mono ?_
    rintro e w3 ⟨sv, rfl, hv, hn⟩
    replace HD : Hid (Dv w w3 S a kk cap z (t1 + 2) (.slice (some ⟨g, 0, none⟩) xs.length c) xs) := HD.out.dw hn.dw
    clear hn hv
    by_cases c0 : sv = 0
    · subst c0
      have hSl : S < w3.heap.size := HD.out.src.lt
      go_wp2_with fail
      refine (l1Pick_any S a kk cap z (t1 + 2) w3.heap.size 0 3 3 (fun i => if i = 0 then (0 : Int) else if i = 1 then 999 else 1000) _ (by omega) (by omega) (by omega) (by omega) (by simp [go_sem]) (fun i hi => ?_) (HD.out.src.below (below_new _ _))).mono ?_
      · rcases i with - | - | - | i
        · simp [go_sem]
        · simp [go_sem]
        · simp [go_sem]
        · omega
      rintro e w4 ⟨ip, hip, rfl, hn⟩
      replace HD : Hid (Dv w w4 S a kk cap z (t1 + 3) (.slice (some ⟨g, 0, none⟩) xs.length c) xs) := (HD.out.up (below_new _ _)).dw hn.dw
      generalize (if ip = 0 then (0 : Int) else if ip = 1 then 999 else 1000) = pv at *
      have HRW : Hid (Row4 w4 g 0 xs.length (fun i => xs.getD i zV)) := HD.out.row
      obtain ⟨x0, x1, x2, x3⟩ := HRW.out.1 i hi
      rw [Nat.zero_add] at x0 x1 x2 x3
      have hfz := HRW.out.2
      have HFI : Hid (BentA S a kk cap z t w (.returned (.slice (some ⟨g, 0, none⟩) xs.length c)) (w4.setCell ⟨g, i * 4, none⟩ (.int .i64 pv))) := bent_of HD.out hgl hgc (by omega) (by omega) (row4_put0 hi HRW.out pv)
      clear hn hSl hip HD HRW
      go_wp2_with fail
      go_ret
      exact HFI.out
    · have d0 : (sv == 0) = false := beq_eq_false_iff_ne.2 c0
      by_cases c1 : sv = 1
      · subst c1
        clear c0
        have hSl : S < w3.heap.size := HD.out.src.lt
        go_wp2_with fail
        refine (l1Pick_any S a kk cap z (t1 + 2) w3.heap.size 0 4 4 (fun i => if i = 0 then (0 : Int) else if i = 1 then (-1) else if i = 2 then 1000000 else 1000001) _ (by omega) (by omega) (by omega) (by omega) (by simp [go_sem]) (fun i hi => ?_) (HD.out.src.below (below_new _ _))).mono ?_
        · rcases i with - | - | - | - | i
          · simp [go_sem]
          · simp [go_sem]
          · simp [go_sem]
          · simp [go_sem]
          · omega
        rintro e w4 ⟨ip, hip, rfl, hn⟩
        replace HD : Hid (Dv w w4 S a kk cap z (t1 + 3) (.slice (some ⟨g, 0, none⟩) xs.length c) xs) := (HD.out.up (below_new _ _)).dw hn.dw
        generalize (if ip = 0 then (0 : Int) else if ip = 1 then (-1) else if ip = 2 then 1000000 else 1000001) = pv at *
        have HRW : Hid (Row4 w4 g 0 xs.length (fun i => xs.getD i zV)) := HD.out.row
        obtain ⟨x0, x1, x2, x3⟩ := HRW.out.1 i hi
        rw [Nat.zero_add] at x0 x1 x2 x3
        have hfz := HRW.out.2
        have HFI : Hid (BentA S a kk cap z t w (.returned (.slice (some ⟨g, 0, none⟩) xs.length c)) (w4.setCell ⟨g, i * 4 + 1, none⟩ (.int .i64 pv))) := bent_of HD.out hgl hgc (by omega) (by omega) (row4_put1 hi HRW.out pv)
        clear hn hSl hip HD HRW
        go_wp2_with fail
        go_ret
        exact HFI.out
      · have d1 : (sv == 1) = false := beq_eq_false_iff_ne.2 c1
        by_cases c2 : sv = 2
        · subst c2
          clear c0 c1
          have hSl : S < w3.heap.size := HD.out.src.lt
          go_wp2_with fail
          refine (l1Pick_any S a kk cap z (t1 + 2) w3.heap.size 0 3 3 (fun i => if i = 0 then (-1 : Int) else if i = 1 then 9999 else 10000) _ (by omega) (by omega) (by omega) (by omega) (by simp [go_sem]) (fun i hi => ?_) (HD.out.src.below (below_new _ _))).mono ?_
          · rcases i with - | - | - | i
            · simp [go_sem]
            · simp [go_sem]
            · simp [go_sem]
            · omega
          rintro e w4 ⟨ip, hip, rfl, hn⟩
          replace HD : Hid (Dv w w4 S a kk cap z (t1 + 3) (.slice (some ⟨g, 0, none⟩) xs.length c) xs) := (HD.out.up (below_new _ _)).dw hn.dw
          generalize (if ip = 0 then (-1 : Int) else if ip = 1 then 9999 else 10000) = pv at *
          have HRW : Hid (Row4 w4 g 0 xs.length (fun i => xs.getD i zV)) := HD.out.row
          obtain ⟨x0, x1, x2, x3⟩ := HRW.out.1 i hi
          rw [Nat.zero_add] at x0 x1 x2 x3
          have hfz := HRW.out.2
          have HFI : Hid (BentA S a kk cap z t w (.returned (.slice (some ⟨g, 0, none⟩) xs.length c)) (w4.setCell ⟨g, i * 4 + 3, none⟩ (.int .i64 pv))) := bent_of HD.out hgl hgc (by omega) (by omega) (row4_put3 hi HRW.out pv)
          clear hn hSl hip HD HRW
          go_wp2_with fail
          go_ret
          exact HFI.out
        · have d2 : (sv == 2) = false := beq_eq_false_iff_ne.2 c2
          by_cases c3 : sv = 3
          · subst c3
            clear c0 c1 c2
            have HRW : Hid (Row4 w3 g 0 xs.length (fun i => xs.getD i zV)) := HD.out.row
            obtain ⟨x0, x1, x2, x3⟩ := HRW.out.1 i hi
            rw [Nat.zero_add] at x0 x1 x2 x3
            have hfz := HRW.out.2
            have HFI : Hid (BentA S a kk cap z t w (.returned (.slice (some ⟨g, 0, none⟩) xs.length c)) (w3.setCell ⟨g, i * 4 + 2, none⟩ (.bool (!(xs.getD i zV).g)))) := bent_of HD.out hgl hgc (by omega) (by omega) (row4_put2 hi HRW.out _)
            generalize (xs.getD i zV).g = gg at *
            clear HD HRW
            go_wp2_with fail
            go_ret
            exact HFI.out
          · have d3 : (sv == 3) = false := beq_eq_false_iff_ne.2 c3
            by_cases c4 : sv = 4
            · subst c4
              clear c0 c1 c2 c3
              have HFI : Hid (BentA S a kk cap z t w (.returned (.slice (some ⟨w3.heap.size, 0, none⟩) 13 13)) (w3.alloc (.cells (madeCells #[.int .i64 0, .int .i64 0, .bool false, .int .i64 0] (13 * 4)) 51))) := by
                have hd := HD.out.up (below_new w3 (.cells (madeCells #[.int .i64 0, .int .i64 0, .bool false, .int .i64 0] (13 * 4)) 51))
                exact ⟨w3.heap.size, 13, 13, _, t1 + 2, rfl, Nat.le_refl _, Nat.le_refl _, by omega, .inr ⟨w3.heap.size, 0, rfl, by simp, (made_vers w3 13).1⟩, HD.out.ws.size, hd.ws, hd.src⟩
              clear HD
              go_wp2_with fail
              go_ret
              exact HFI.out
            · have d4 : (sv == 4) = false := beq_eq_false_iff_ne.2 c4
              have HFI : Hid (BentA S a kk cap z t w (.returned (.slice (some ⟨g, 0, none⟩) xs.length c)) w3) := bent_plain HD.out hgl hgc (by omega) (by omega)
              clear HD c0 c1 c2 c3 c4
              go_wp2_with fail
              go_ret
              exact HFI.out
end Go.Proofs.Ytiabblmjgfkijaa
