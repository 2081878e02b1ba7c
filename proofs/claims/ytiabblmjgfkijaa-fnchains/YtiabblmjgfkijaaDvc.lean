/- Draws: spec.l5DrawView, l1Max, l5With, DrawPushVersion. -/
import Derived.Test.YtiabblmjgfkijaaDvb
import Derived.Test.YtiabblmjgfkijaaVh
import Derived.Test.YtiabblmjgfkijaaVk
import Derived.Test.YtiabblmjgfkijaaWae
namespace Go.Proofs.Ytiabblmjgfkijaa
open Go.RowKit Go.Deep
set_option linter.unusedVariables false
set_option linter.unusedSimpArgs false
set_option maxRecDepth 20000

theorem below_dw {w wr w2 : World} {S : Nat} {a : Option Addr} {kk cap : Nat} {z : Nat → Int} {t : Nat} (h : Below w.heap.size w wr) (hs : w.heap.size ≤ S) (d : Dw S a kk cap z t wr w2) : Below w.heap.size w w2 := by
  have h1 := d.1
  exact ⟨h1.os.trans h.os, h1.tape.trans h.tape, h1.output.trans h.output, Nat.le_trans h.size h1.size, fun b hbl => (h1.block b (Nat.lt_of_lt_of_le hbl h.size) (.inl (by omega))).trans (h.block b hbl)⟩
theorem BoxR.dw {wr w2 : World} {S : Nat} {a : Option Addr} {kk cap : Nat} {z : Nat → Int} {t : Nat} {B : Nat} {c0 c1 : Value} (h : BoxR wr B c0 c1) (hb : B ≠ S) (d : Dw S a kk cap z t wr w2) : BoxR w2 B c0 c1 := by
  have hl : B < wr.heap.size := Go.block_lt_of_cell h.1
  have e := d.1.block B hl (by omega)
  exact ⟨(World.cell?_of_block (w := wr) (a := ⟨B, 0, none⟩) e).trans h.1, (World.cell?_of_block (w := wr) (a := ⟨B, 1, none⟩) e).trans h.2.1, fun i => (World.frozen?_of_block (w := wr) (a := ⟨B, i, none⟩) e).trans (h.2.2 i)⟩
theorem Box2.dw {wr w2 : World} {S : Nat} {a : Option Addr} {kk cap : Nat} {z : Nat → Int} {t : Nat} {B : Nat} {c0 c1 : Value} (h : Box2 wr B c0 c1) (hb : B ≠ S) (d : Dw S a kk cap z t wr w2) : Box2 w2 B c0 c1 := by
  have hl : B < wr.heap.size := Go.block_lt_of_cell h.1
  have e := d.1.block B hl (by omega)
  exact ⟨(World.cell?_of_block (w := wr) (a := ⟨B, 0, none⟩) e).trans h.1, (World.cell?_of_block (w := wr) (a := ⟨B, 1, none⟩) e).trans h.2⟩
theorem Box2.set2 {w : World} {V B : Nat} {c0 c1 u0 u1 : Value} (h : Box2 w V c0 c1) (hne : V ≠ B) : Box2 ((w.setCell ⟨B, 0, none⟩ u0).setCell ⟨B, 1, none⟩ u1) V c0 c1 := by
  have e : ∀ i, ((w.setCell ⟨B, 0, none⟩ u0).setCell ⟨B, 1, none⟩ u1).cell? ⟨V, i, none⟩ = w.cell? ⟨V, i, none⟩ := fun i => by
    rw [World.cell?_setCell_other _ _ _ _ (by simp [hne]), World.cell?_setCell_other _ _ _ _ (by simp [hne])]
  exact ⟨(e 0).trans h.1, (e 1).trans h.2⟩
theorem dw_set2 {w wr : World} {S : Nat} {a : Option Addr} {kk cap : Nat} {z : Nat → Int} {t : Nat} (h : Dw S a kk cap z t w wr) (hS : S < w.heap.size) {B : Nat} (hB : w.heap.size ≤ B) (u0 u1 : Value) : Dw S a kk cap z t w ((wr.setCell ⟨B, 0, none⟩ u0).setCell ⟨B, 1, none⟩ u1) := by
  have e : ∀ k, k ≠ B → ((wr.setCell ⟨B, 0, none⟩ u0).setCell ⟨B, 1, none⟩ u1).heap[k]? = wr.heap[k]? := fun k hk => (Below.heap_setCell _ _ _ _ (by show ¬ k = B; exact hk)).trans (Below.heap_setCell _ _ _ _ (by show ¬ k = B; exact hk))
  have hz : ((wr.setCell ⟨B, 0, none⟩ u0).setCell ⟨B, 1, none⟩ u1).heap.size = wr.heap.size := by simp [World.setCell]
  have h1 := h.1
  exact ⟨⟨h1.os, h1.tape, h1.output, by rw [hz]; exact h1.size, fun k hk hd => (e k (by omega)).trans (h1.block k hk hd)⟩, src_block h.2 (by rw [hz]; exact Nat.le_refl _) fun b hb => e b (by omega)⟩
theorem with_end {w wr : World} {g n B : Nat} {R : Nat → Vr} {x o : Int} {y0 y1 : Value} (hb : Below w.heap.size w wr) (hv : VersAt wr (some ⟨g, 0, none⟩) n R) (hB : w.heap.size ≤ B) (hg : g ≠ B) (q0 : wr.cell? ⟨B, 0, none⟩ = some y0) (q1 : wr.cell? ⟨B, 1, none⟩ = some y1) :
    Below w.heap.size w ((wr.setCell ⟨B, 0, none⟩ (.int .i64 x)).setCell ⟨B, 1, none⟩ (.int .i64 o)) ∧ VersAt ((wr.setCell ⟨B, 0, none⟩ (.int .i64 x)).setCell ⟨B, 1, none⟩ (.int .i64 o)) (some ⟨g, 0, none⟩) n R := by
  refine ⟨(hb.setCell (p := ⟨B, 0, none⟩) hB _).setCell (p := ⟨B, 1, none⟩) hB _, ?_⟩
  rcases hv with h | ⟨b, off, e, hl, hc⟩
  · exact .inl h
  · simp only [Option.some.injEq, Addr.mk.injEq, and_true] at e
    obtain ⟨rfl, rfl⟩ := e
    exact .inr ⟨_, _, rfl, by simpa [World.setCell] using hl, fun i hi => (hc i hi).block ((Below.heap_setCell _ _ _ _ (by show ¬ g = B; exact hg)).trans (Below.heap_setCell _ _ _ _ (by show ¬ g = B; exact hg)))⟩
def MaxA (w : World) (e : Ending) (w' : World) : Prop := ∃ m : Int, e = .returned (.int .i64 m) ∧ w' = w
theorem l1Max_any (p q : Int) (w : World) : Calls Try.prog 37 #[.int .i64 p, .int .i64 q] w (MaxA w) := by
  by_cases h : q < p
  · go_enter Try.func37, Try.ntmps37
    go_wp2
    go_ret
    exact ⟨_, rfl, rfl⟩
  · go_enter Try.func37, Try.ntmps37
    go_wp2
    go_ret
    exact ⟨_, rfl, rfl⟩
set_option maxHeartbeats 4000000 in
theorem l5DrawView_any (S : Nat) (a : Option Addr) (kk cap : Nat) (z : Nat → Int) (t : Nat) (w : World) (ht : t ≤ 900000) (h : Src w S a kk cap z t) :
    Calls Try.prog 52 #[.pointer (some ⟨S, 0, none⟩)] w fun e w' => ∃ (x o : Int) (t' : Nat), e = .returned (.agg #[.int .i64 x, .int .i64 o]) ∧ t' ≤ t + 10 ∧ Dw S a kk cap z t' w w' := by
  have HS : Hid (Src w S a kk cap z t) := h
  have HSl : Hid (S < w.heap.size) := h.lt
  clear h
  go_enter Try.func52, Try.ntmps52
  go_wp2_with fail
  have HD : Hid (Dw S a kk cap z t w (w.alloc (.cells #[.int .i64 0, .int .i64 0] 32))) := HS.out.self.below (below_new _ _)
  have BX := BoxR.new w (.int .i64 0) (.int .i64 0) 32
  obtain ⟨B, hB⟩ : ∃ B, B = w.heap.size := ⟨_, rfl⟩
  have HBw : Hid (w.heap.size ≤ B) := by show w.heap.size ≤ B; omega
  have HBS : Hid (B ≠ S) := by show B ≠ S; have := HSl.out; omega
  rw [← hB] at BX ⊢
  generalize (w.alloc (.cells #[.int .i64 0, .int .i64 0] 32)) = w0 at *
  clear hB HS
  refine (l1Next_any S a kk cap z t 40 _ (by omega) (by omega) HD.out.src).mono ?_
  rintro e w1 ⟨v1, rfl, hx, hn⟩
  replace BX : BoxR w1 B (.int .i64 0) (.int .i64 0) := BX.dw HBS.out hn.dw
  replace HD : Hid (Dw S a kk cap z (t + 1) w w1) := HD.out.trans hn.dw
  have hqv1 : 0 ≤ v1 ∧ v1 < 40 := ⟨hx.1, hx.2.1 (by omega)⟩
  have hw1 : IntKind.i64.wrap (30 + v1) = 30 + v1 := by rw [IntKind.wrap_i64]; omega
  clear hn hx hqv1
  go_wp2_with fail
  refine (l1Next_any S a kk cap z (t + 1) 40 _ (by omega) (by omega) HD.out.src).mono ?_
  rintro e w2 ⟨v2, rfl, hx, hn⟩
  replace BX : BoxR w2 B (.int .i64 0) (.int .i64 0) := BX.dw HBS.out hn.dw
  replace HD : Hid (Dw S a kk cap z ((t + 1) + 1) w w2) := HD.out.trans hn.dw
  have hqv2 : 0 ≤ v2 ∧ v2 < 40 := ⟨hx.1, hx.2.1 (by omega)⟩
  have hw2 : IntKind.i64.wrap (30 + v2) = 30 + v2 := by rw [IntKind.wrap_i64]; omega
  clear hn hx hqv2
  go_wp2_with fail
  have hSl2 : S < w2.heap.size := HD.out.src.lt
  have BX2 := BX.below (below_new w2 (.cells #[.int .i64 (30 + v1), .int .i64 (30 + v2), .int .i64 0, .int .i64 1000000, .int .i64 1000001, .int .i64 (-1)] 2))
  have HD2 : Hid (∀ ob : Obj, Dw S a kk cap z (t + 1 + 1) w (w2.alloc ob)) := fun ob => HD.out.below (below_new _ _)
  refine (l1Pick_any S a kk cap z (t + 1 + 1) w2.heap.size 0 6 6 (fun i => if i = 0 then 30 + v1 else if i = 1 then 30 + v2 else if i = 2 then 0 else if i = 3 then 1000000 else if i = 4 then 1000001 else -1) _ (by omega) (by omega) (by omega) (by omega) (by simp [go_sem]) (fun i hi => ?_) (HD2.out _).src).mono ?_
  · rcases i with - | - | - | - | - | - | i
    · simp [go_sem]
    · simp [go_sem]
    · simp [go_sem]
    · simp [go_sem]
    · simp [go_sem]
    · simp [go_sem]
    · omega
  rintro e w3 ⟨i, hi, rfl, hn⟩
  replace BX : BoxR w3 B (.int .i64 0) (.int .i64 0) := BX2.dw HBS.out hn.dw
  replace HD : Hid (Dw S a kk cap z (t + 1 + 1 + 1) w w3) := (HD2.out _).trans hn.dw
  generalize (if i = 0 then 30 + v1 else if i = 1 then 30 + v2 else if i = 2 then (0 : Int) else if i = 3 then (1000000 : Int) else if i = 4 then (1000001 : Int) else (-1 : Int)) = x at *
  clear hn hi hw1 hw2 hSl2 BX2 HD2
  go_wp2_with fail
  refine (l1Next_any S a kk cap z (t + 1 + 1 + 1) 7 _ (by omega) (by omega) HD.out.src).mono ?_
  rintro e w4 ⟨v3, rfl, hx, hn⟩
  replace BX : BoxR w4 B (.int .i64 0) (.int .i64 0) := BX.dw HBS.out hn.dw
  replace HD : Hid (Dw S a kk cap z ((t + 1 + 1 + 1) + 1) w w4) := HD.out.trans hn.dw
  have hqv3 : 0 ≤ v3 ∧ v3 < 7 := ⟨hx.1, hx.2.1 (by omega)⟩
  clear hn hx hqv3
  go_wp2_with fail
  refine (l1Next_any S a kk cap z (t + 1 + 1 + 1 + 1) 7 _ (by omega) (by omega) HD.out.src).mono ?_
  rintro e w5 ⟨v4, rfl, hx, hn⟩
  replace BX : BoxR w5 B (.int .i64 0) (.int .i64 0) := BX.dw HBS.out hn.dw
  replace HD : Hid (Dw S a kk cap z ((t + 1 + 1 + 1 + 1) + 1) w w5) := HD.out.trans hn.dw
  have hqv4 : 0 ≤ v4 ∧ v4 < 7 := ⟨hx.1, hx.2.1 (by omega)⟩
  clear hn hx hqv4
  go_wp2_with fail
  have hSl2 : S < w5.heap.size := HD.out.src.lt
  have BX2 := BX.below (below_new w5 (.cells #[.int .i64 v3, .int .i64 v4, .int .i64 1, .int .i64 999, .int .i64 1000] 2))
  have HD2 : Hid (∀ ob : Obj, Dw S a kk cap z (t + 1 + 1 + 1 + 1 + 1) w (w5.alloc ob)) := fun ob => HD.out.below (below_new _ _)
  refine (l1Pick_any S a kk cap z (t + 1 + 1 + 1 + 1 + 1) w5.heap.size 0 5 5 (fun i => if i = 0 then v3 else if i = 1 then v4 else if i = 2 then 1 else if i = 3 then 999 else 1000) _ (by omega) (by omega) (by omega) (by omega) (by simp [go_sem]) (fun i hi => ?_) (HD2.out _).src).mono ?_
  · rcases i with - | - | - | - | - | i
    · simp [go_sem]
    · simp [go_sem]
    · simp [go_sem]
    · simp [go_sem]
    · simp [go_sem]
    · omega
  rintro e w6 ⟨j, hj, rfl, hn⟩
  replace BX : BoxR w6 B (.int .i64 0) (.int .i64 0) := BX2.dw HBS.out hn.dw
  replace HD : Hid (Dw S a kk cap z (t + 1 + 1 + 1 + 1 + 1 + 1) w w6) := (HD2.out _).trans hn.dw
  generalize (if j = 0 then v3 else if j = 1 then v4 else if j = 2 then (1 : Int) else if j = 3 then (999 : Int) else (1000 : Int)) = o at *
  clear hn hj hSl2 BX2 HD2
  have HF : Hid (∀ u0 u1 : Value, Dw S a kk cap z (t + 1 + 1 + 1 + 1 + 1 + 1) w ((w6.setCell ⟨B, 0, none⟩ u0).setCell ⟨B, 1, none⟩ u1)) := fun u0 u1 => dw_set2 HD.out HSl.out HBw.out u0 u1
  obtain ⟨q0, q1, qf⟩ := BX
  go_wp2_with fail
  exact bodyPost_ret (v := .agg #[.int .i64 x, .int .i64 o]) (by simp [results, Try.results52, go_sem, *]) rfl ⟨x, o, _, rfl, by omega, HF.out _ _⟩
def WithA (w : World) (e : Ending) (w' : World) : Prop := ∃ (g n c : Nat) (R : Nat → Vr) (x o : Int), e = .returned (.tuple #[.slice (some ⟨g, 0, none⟩) n c, .agg #[.int .i64 x, .int .i64 o]]) ∧ w.heap.size ≤ g ∧ n ≤ 13 ∧ n ≤ c ∧ VersAt w' (some ⟨g, 0, none⟩) n R ∧ Below w.heap.size w w'
set_option maxHeartbeats 8000000 in
theorem l5With_any (a : Option Addr) (kk cap : Nat) (z : Nat → Int) (w : World) (hk : kk ≤ 1048576) (hz : Byt kk z) (h : BytesAt w a kk z) :
    Calls Try.prog 35 #[.slice a kk cap] w (WithA w) := by
  have HA : Hid (BytesAt w a kk z) := h
  have HZ : Hid (Byt kk z) := hz
  clear h hz
  go_enter Try.func35, Try.ntmps35
  go_wp2_with fail
  have BX := BoxR.new w (.int .i64 0) (.int .i64 0) 32
  have HB : Hid (Below w.heap.size w (w.alloc (.cells #[.int .i64 0, .int .i64 0] 32))) := below_new _ _
  have HA0 : Hid (BytesAt (w.alloc (.cells #[.int .i64 0, .int .i64 0] 32)) a kk z) := HA.out.below (below_new _ _)
  obtain ⟨B, hB⟩ : ∃ B, B = w.heap.size := ⟨_, rfl⟩
  have HBW : Hid (w.heap.size ≤ B) := by show w.heap.size ≤ B; omega
  rw [← hB] at BX ⊢
  generalize (w.alloc (.cells #[.int .i64 0, .int .i64 0] 32)) = w0 at *
  have hBl : B < w0.heap.size := Go.block_lt_of_cell BX.1
  refine (l1Source_any a kk cap z w0 hk HZ.out HA0.out).mono ?_
  rintro e w1 ⟨rfl, hb1, hs1, hsrc⟩
  obtain ⟨S, hS⟩ : ∃ S, S = w0.heap.size := ⟨_, rfl⟩
  rw [← hS] at hsrc ⊢
  have hw0 := HB.out.size
  have HSw : Hid (w.heap.size ≤ S) := by show w.heap.size ≤ S; omega
  have HBS : Hid (B ≠ S) := by show B ≠ S; omega
  have HS1 : Hid (Src w1 S a kk cap z 0) := hsrc
  have hSB : B < w1.heap.size ∧ S < w1.heap.size := by omega
  replace BX := BX.below hb1
  replace HB : Hid (Below w.heap.size w w1) := below_then HB.out hb1
  have HSB : Hid (B < w1.heap.size ∧ S < w1.heap.size) := hSB
  clear hsrc hS hB hs1 hb1 HA HA0 HZ hw0 hSB hBl
  go_wp2_with fail
  refine (l5Bent_any S a kk cap z 0 w1 (by omega) HS1.out).mono ?_
  rintro e w2 ⟨g, n, c, R, t', rfl, hn13, hnc, ht, hv, hg, hd⟩
  have HNC : Hid (n ≤ 13 ∧ n ≤ c) := ⟨hn13, hnc⟩
  have HGB : Hid (g ≠ B) := by show g ≠ B; have := HSB.out; omega
  have HGS : Hid (g ≠ S) := by show g ≠ S; have := HSB.out; omega
  have HGW : Hid (w.heap.size ≤ g) := by show w.heap.size ≤ g; have := HB.out.size; omega
  replace BX := BX.dw HBS.out hd
  replace HB : Hid (Below w.heap.size w w2) := below_dw HB.out HSw.out hd
  have HSr : Hid (Src w2 S a kk cap z t') := hd.2
  have HV : Hid (VersAt w2 (some ⟨g, 0, none⟩) n R) := hv
  clear hd hv hg hnc hn13 HS1 HSB
  go_wp2_with fail
  refine (l5DrawView_any S a kk cap z t' w2 (by omega) HSr.out).mono ?_
  rintro e w3 ⟨x, o, t2, rfl, ht2, hd⟩
  replace BX := BX.dw HBS.out hd
  replace HB : Hid (Below w.heap.size w w3) := below_dw HB.out HSw.out hd
  replace HV : Hid (VersAt w3 (some ⟨g, 0, none⟩) n R) := HV.out.dw HGS.out hd
  replace HSr : Hid (Src w3 S a kk cap z t2) := hd.2
  clear hd
  go_upto_region 4 with fail
  obtain ⟨W, hW⟩ : ∃ y, y = w3.alloc (.cells #[.int .i64 x, .int .i64 o] 32) := ⟨_, rfl⟩
  have hb4 : Below w3.heap.size w3 W := by rw [hW]; exact below_new _ _
  have BV : BoxR W w3.heap.size (.int .i64 x) (.int .i64 o) := by rw [hW]; exact BoxR.new _ _ _ _
  have hBl : B < w3.heap.size := Go.block_lt_of_cell BX.1
  have hSl : S < w3.heap.size := HSr.out.lt
  have HVS : Hid (w3.heap.size ≠ S) := by show w3.heap.size ≠ S; omega
  have HNE : Hid (w3.heap.size ≠ B) := by show w3.heap.size ≠ B; omega
  have HGV : Hid (0 < n → g ≠ w3.heap.size) := fun hp => by
    obtain ⟨b, off, e, hl, -⟩ := HV.out.first hp
    simp only [Option.some.injEq, Addr.mk.injEq] at e
    omega
  have HVW : Hid (w.heap.size ≤ w3.heap.size) := HB.out.size
  replace BX := BX.below hb4
  replace HB : Hid (Below w.heap.size w W) := below_then HB.out hb4
  replace HV : Hid (VersAt W (some ⟨g, 0, none⟩) n R) := HV.out.below hb4
  replace HSr : Hid (Src W S a kk cap z t2) := HSr.out.below hb4
  rw [← hW]
  clear hW hb4 hBl hSl
  generalize w3.heap.size = V at *
  by_cases hn : 0 < n
  · have hni : (0 : Int) < (n : Int) := by omega
    obtain ⟨b9, o9, e9, hl, hc4⟩ := HV.out.first hn
    simp only [Option.some.injEq, Addr.mk.injEq, and_true] at e9
    obtain ⟨rfl, rfl⟩ := e9
    have hgV := HGV.out hn
    obtain ⟨c0, c1, c2, c3⟩ := hc4
    simp only [Nat.zero_add] at c0 c1 c2 c3
    generalize hr0 : R 0 = r0 at *
    by_cases ha : r0.a = 0
    · have ha1 : (r0.a == 0) = true := by simp [ha]
      go_wp2_with fail
      refine (l1Chance_any S a kk cap z t2 2 _ (by omega) (by omega) HSr.out).mono ?_
      rintro e w5 ⟨b, rfl, hn5⟩
      have hd := hn5.dw
      have hgb := hd.1.block g hl (by have := HGS.out; omega)
      replace c0 := (World.cell?_of_block (a := ⟨g, 0, none⟩) hgb).trans c0
      replace BX := BX.dw HBS.out hd
      replace BV := BV.dw HVS.out hd
      replace HB : Hid (Below w.heap.size w w5) := below_dw HB.out HSw.out hd
      replace HV : Hid (VersAt w5 (some ⟨g, 0, none⟩) n R) := HV.out.dw HGS.out hd
      clear hd hn5 hgb hl c1 c2 c3 HSr
      cases b with
      | true =>
        obtain ⟨p0, p1, pf⟩ := BV
        go_upto_region 6 with fail
        obtain ⟨W6, hW6⟩ : ∃ y, y = w5.setCell ⟨V, 1, none⟩ (.int .i64 r0.t) := ⟨_, rfl⟩
        have BV : Box2 W6 V (.int .i64 x) (.int .i64 r0.t) := by rw [hW6]; exact ⟨(setO (by omega)).trans p0, setS p1⟩
        have hbo : ∀ k, k ≠ V → W6.heap[k]? = w5.heap[k]? := fun k hk => by rw [hW6]; exact Below.heap_setCell _ _ _ _ (by show ¬ k = V; exact hk)
        have hbB := hbo B (by have := HNE.out; omega)
        replace BX : BoxR W6 B (.int .i64 0) (.int .i64 0) := ⟨(World.cell?_of_block (w := w5) (a := ⟨B, 0, none⟩) hbB).trans BX.1, (World.cell?_of_block (w := w5) (a := ⟨B, 1, none⟩) hbB).trans BX.2.1, fun i => (World.frozen?_of_block (w := w5) (a := ⟨B, i, none⟩) hbB).trans (BX.2.2 i)⟩
        replace HB : Hid (Below w.heap.size w W6) := by rw [hW6]; exact HB.out.setCell (p := ⟨V, 1, none⟩) HVW.out _
        replace HV : Hid (VersAt W6 (some ⟨g, 0, none⟩) n R) := by
          rcases HV.out with h | ⟨b, off, e, hl, hc⟩
          · exact .inl h
          · simp only [Option.some.injEq, Addr.mk.injEq, and_true] at e
            obtain ⟨rfl, rfl⟩ := e
            exact .inr ⟨_, _, rfl, by rw [hW6]; simpa [World.setCell] using hl, fun i hi => (hc i hi).block (hbo g hgV)⟩
        rw [← hW6]
        clear hW6 hbo hbB p0 p1 pf c0
        generalize r0.t = o at *
        have hne := HNE.out
        refine wp_region_E 999 (S := fun u => Box2 u V (.int .i64 x) (.int .i64 o)) (by kernel_rfl) BV (fun hS => ?_)
        obtain ⟨u0, hu0⟩ : ∃ y, y = W6.drew := ⟨_, rfl⟩
        have HBu : Hid (Below w.heap.size w u0) := by rw [hu0]; exact HB.out.drew
        have HVu : Hid (VersAt u0 (some ⟨g, 0, none⟩) n R) := by rw [hu0]; exact HV.out.below ((Below.refl _ _).drew)
        have BXu : BoxR u0 B (.int .i64 0) (.int .i64 0) := by rw [hu0]; exact BX
        rw [← hu0] at hS ⊢
        clear hu0 BV BX HB HV
        refine wpAnyE_takeD (L := 999) (i := 0) (v := .slice (some ⟨g, 0, none⟩) n c) (some 32) rfl rfl (by kernel_rfl) (by kernel_rfl) (by kernel_rfl) (by kernel_rfl) (fun _ _ _ h => h) (Or.inl ⟨by kernel_rfl, by intro u hSu; go_simp⟩) hS ?_
        try simp only [Act.put, List.setIfInBounds_toArray, List.set_cons_zero, List.set_cons_succ]
        refine wpAnyE_takeD (L := 999) (i := 1) (v := .agg #[.int .i64 x, .int .i64 o]) (some 33) rfl rfl (by kernel_rfl) (by kernel_rfl) (by kernel_rfl) (by kernel_rfl) (fun _ _ _ h => h) (Or.inl ⟨by kernel_rfl, by intro u hSu; obtain ⟨h0, h1⟩ := hSu; go_simp⟩) hS ?_
        try simp only [Act.put, List.setIfInBounds_toArray, List.set_cons_zero, List.set_cons_succ]
        refine wpAnyE_takeD (L := 999) (i := 2) (v := .slice (some ⟨g, 0, none⟩) n c) (some 2) rfl rfl (by kernel_rfl) (by kernel_rfl) (by kernel_rfl) (by kernel_rfl) (fun _ _ _ h => h) (Or.inl ⟨by kernel_rfl, by intro u hSu; go_simp⟩) hS ?_
        try simp only [Act.put, List.setIfInBounds_toArray, List.set_cons_zero, List.set_cons_succ]
        refine wpAnyE_ready (rs := [3]) (by kernel_rfl) (by simp) ?_
        refine AllReadyE.cons rfl (fun K hK => ?_) AllReadyE.nil
        obtain ⟨q0, q1, qf⟩ := BXu
        go_simp
        refine hK.out _ _ (hS.set2 hne) (fun hS9 => ?_)
        try simp only [Act.put, List.setIfInBounds_toArray, List.set_cons_zero, List.set_cons_succ]
        clear hK K hS
        have hS := hS9
        clear hS9
        refine wpAnyE_done (by kernel_rfl) ?_ _
        go_simp
        have HF := with_end (x := x) (o := o) HBu.out HVu.out HBW.out HGB.out q0 q1
        go_wp2_with fail
        exact bodyPost_ret (v := .tuple #[.slice (some ⟨g, 0, none⟩) n c, .agg #[.int .i64 x, .int .i64 o]]) (by simp [results, Try.results35, go_sem, *]) rfl ⟨g, n, c, R, x, o, rfl, HGW.out, HNC.out.1, HNC.out.2, HF.2, HF.1⟩
      | false =>
        replace BV : Box2 w5 V (.int .i64 x) (.int .i64 o) := ⟨BV.1, BV.2.1⟩
        clear c0
        have hne := HNE.out
        go_upto_region 6 with fail
        refine wp_region_E 999 (S := fun u => Box2 u V (.int .i64 x) (.int .i64 o)) (by kernel_rfl) BV (fun hS => ?_)
        obtain ⟨u0, hu0⟩ : ∃ y, y = w5.drew := ⟨_, rfl⟩
        have HBu : Hid (Below w.heap.size w u0) := by rw [hu0]; exact HB.out.drew
        have HVu : Hid (VersAt u0 (some ⟨g, 0, none⟩) n R) := by rw [hu0]; exact HV.out.below ((Below.refl _ _).drew)
        have BXu : BoxR u0 B (.int .i64 0) (.int .i64 0) := by rw [hu0]; exact BX
        rw [← hu0] at hS ⊢
        clear hu0 BV BX HB HV
        refine wpAnyE_takeD (L := 999) (i := 0) (v := .slice (some ⟨g, 0, none⟩) n c) (some 32) rfl rfl (by kernel_rfl) (by kernel_rfl) (by kernel_rfl) (by kernel_rfl) (fun _ _ _ h => h) (Or.inl ⟨by kernel_rfl, by intro u hSu; go_simp⟩) hS ?_
        try simp only [Act.put, List.setIfInBounds_toArray, List.set_cons_zero, List.set_cons_succ]
        refine wpAnyE_takeD (L := 999) (i := 1) (v := .agg #[.int .i64 x, .int .i64 o]) (some 33) rfl rfl (by kernel_rfl) (by kernel_rfl) (by kernel_rfl) (by kernel_rfl) (fun _ _ _ h => h) (Or.inl ⟨by kernel_rfl, by intro u hSu; obtain ⟨h0, h1⟩ := hSu; go_simp⟩) hS ?_
        try simp only [Act.put, List.setIfInBounds_toArray, List.set_cons_zero, List.set_cons_succ]
        refine wpAnyE_takeD (L := 999) (i := 2) (v := .slice (some ⟨g, 0, none⟩) n c) (some 2) rfl rfl (by kernel_rfl) (by kernel_rfl) (by kernel_rfl) (by kernel_rfl) (fun _ _ _ h => h) (Or.inl ⟨by kernel_rfl, by intro u hSu; go_simp⟩) hS ?_
        try simp only [Act.put, List.setIfInBounds_toArray, List.set_cons_zero, List.set_cons_succ]
        refine wpAnyE_ready (rs := [3]) (by kernel_rfl) (by simp) ?_
        refine AllReadyE.cons rfl (fun K hK => ?_) AllReadyE.nil
        obtain ⟨q0, q1, qf⟩ := BXu
        go_simp
        refine hK.out _ _ (hS.set2 hne) (fun hS9 => ?_)
        try simp only [Act.put, List.setIfInBounds_toArray, List.set_cons_zero, List.set_cons_succ]
        clear hK K hS
        have hS := hS9
        clear hS9
        refine wpAnyE_done (by kernel_rfl) ?_ _
        go_simp
        have HF := with_end (x := x) (o := o) HBu.out HVu.out HBW.out HGB.out q0 q1
        go_wp2_with fail
        exact bodyPost_ret (v := .tuple #[.slice (some ⟨g, 0, none⟩) n c, .agg #[.int .i64 x, .int .i64 o]]) (by simp [results, Try.results35, go_sem, *]) rfl ⟨g, n, c, R, x, o, rfl, HGW.out, HNC.out.1, HNC.out.2, HF.2, HF.1⟩
    · have ha1 : (r0.a == 0) = false := by simp [ha]
      replace BV : Box2 W V (.int .i64 x) (.int .i64 o) := ⟨BV.1, BV.2.1⟩
      have hne := HNE.out
      go_upto_region 6 with fail
      clear c0 c1 c2 c3
      refine wp_region_E 999 (S := fun u => Box2 u V (.int .i64 x) (.int .i64 o)) (by kernel_rfl) BV (fun hS => ?_)
      obtain ⟨u0, hu0⟩ : ∃ y, y = W.drew := ⟨_, rfl⟩
      have HBu : Hid (Below w.heap.size w u0) := by rw [hu0]; exact HB.out.drew
      have HVu : Hid (VersAt u0 (some ⟨g, 0, none⟩) n R) := by rw [hu0]; exact HV.out.below ((Below.refl _ _).drew)
      have BXu : BoxR u0 B (.int .i64 0) (.int .i64 0) := by rw [hu0]; exact BX
      rw [← hu0] at hS ⊢
      clear hu0 BV BX HB HV
      refine wpAnyE_takeD (L := 999) (i := 0) (v := .slice (some ⟨g, 0, none⟩) n c) (some 32) rfl rfl (by kernel_rfl) (by kernel_rfl) (by kernel_rfl) (by kernel_rfl) (fun _ _ _ h => h) (Or.inl ⟨by kernel_rfl, by intro u hSu; go_simp⟩) hS ?_
      try simp only [Act.put, List.setIfInBounds_toArray, List.set_cons_zero, List.set_cons_succ]
      refine wpAnyE_takeD (L := 999) (i := 1) (v := .agg #[.int .i64 x, .int .i64 o]) (some 33) rfl rfl (by kernel_rfl) (by kernel_rfl) (by kernel_rfl) (by kernel_rfl) (fun _ _ _ h => h) (Or.inl ⟨by kernel_rfl, by intro u hSu; obtain ⟨h0, h1⟩ := hSu; go_simp⟩) hS ?_
      try simp only [Act.put, List.setIfInBounds_toArray, List.set_cons_zero, List.set_cons_succ]
      refine wpAnyE_takeD (L := 999) (i := 2) (v := .slice (some ⟨g, 0, none⟩) n c) (some 2) rfl rfl (by kernel_rfl) (by kernel_rfl) (by kernel_rfl) (by kernel_rfl) (fun _ _ _ h => h) (Or.inl ⟨by kernel_rfl, by intro u hSu; go_simp⟩) hS ?_
      try simp only [Act.put, List.setIfInBounds_toArray, List.set_cons_zero, List.set_cons_succ]
      refine wpAnyE_ready (rs := [3]) (by kernel_rfl) (by simp) ?_
      refine AllReadyE.cons rfl (fun K hK => ?_) AllReadyE.nil
      obtain ⟨q0, q1, qf⟩ := BXu
      go_simp
      refine hK.out _ _ (hS.set2 hne) (fun hS9 => ?_)
      try simp only [Act.put, List.setIfInBounds_toArray, List.set_cons_zero, List.set_cons_succ]
      clear hK K hS
      have hS := hS9
      clear hS9
      refine wpAnyE_done (by kernel_rfl) ?_ _
      go_simp
      have HF := with_end (x := x) (o := o) HBu.out HVu.out HBW.out HGB.out q0 q1
      go_wp2_with fail
      exact bodyPost_ret (v := .tuple #[.slice (some ⟨g, 0, none⟩) n c, .agg #[.int .i64 x, .int .i64 o]]) (by simp [results, Try.results35, go_sem, *]) rfl ⟨g, n, c, R, x, o, rfl, HGW.out, HNC.out.1, HNC.out.2, HF.2, HF.1⟩
  · have hni : ¬ ((0 : Int) < (n : Int)) := by omega
    replace BV : Box2 W V (.int .i64 x) (.int .i64 o) := ⟨BV.1, BV.2.1⟩
    have hne := HNE.out
    go_upto_region 6 with fail
    refine wp_region_E 999 (S := fun u => Box2 u V (.int .i64 x) (.int .i64 o)) (by kernel_rfl) BV (fun hS => ?_)
    obtain ⟨u0, hu0⟩ : ∃ y, y = W.drew := ⟨_, rfl⟩
    have HBu : Hid (Below w.heap.size w u0) := by rw [hu0]; exact HB.out.drew
    have HVu : Hid (VersAt u0 (some ⟨g, 0, none⟩) n R) := by rw [hu0]; exact HV.out.below ((Below.refl _ _).drew)
    have BXu : BoxR u0 B (.int .i64 0) (.int .i64 0) := by rw [hu0]; exact BX
    rw [← hu0] at hS ⊢
    clear hu0 BV BX HB HV
    refine wpAnyE_takeD (L := 999) (i := 0) (v := .slice (some ⟨g, 0, none⟩) n c) (some 32) rfl rfl (by kernel_rfl) (by kernel_rfl) (by kernel_rfl) (by kernel_rfl) (fun _ _ _ h => h) (Or.inl ⟨by kernel_rfl, by intro u hSu; go_simp⟩) hS ?_
    try simp only [Act.put, List.setIfInBounds_toArray, List.set_cons_zero, List.set_cons_succ]
    refine wpAnyE_takeD (L := 999) (i := 1) (v := .agg #[.int .i64 x, .int .i64 o]) (some 33) rfl rfl (by kernel_rfl) (by kernel_rfl) (by kernel_rfl) (by kernel_rfl) (fun _ _ _ h => h) (Or.inl ⟨by kernel_rfl, by intro u hSu; obtain ⟨h0, h1⟩ := hSu; go_simp⟩) hS ?_
    try simp only [Act.put, List.setIfInBounds_toArray, List.set_cons_zero, List.set_cons_succ]
    refine wpAnyE_takeD (L := 999) (i := 2) (v := .slice (some ⟨g, 0, none⟩) n c) (some 2) rfl rfl (by kernel_rfl) (by kernel_rfl) (by kernel_rfl) (by kernel_rfl) (fun _ _ _ h => h) (Or.inl ⟨by kernel_rfl, by intro u hSu; go_simp⟩) hS ?_
    try simp only [Act.put, List.setIfInBounds_toArray, List.set_cons_zero, List.set_cons_succ]
    refine wpAnyE_ready (rs := [3]) (by kernel_rfl) (by simp) ?_
    refine AllReadyE.cons rfl (fun K hK => ?_) AllReadyE.nil
    obtain ⟨q0, q1, qf⟩ := BXu
    go_simp
    refine hK.out _ _ (hS.set2 hne) (fun hS9 => ?_)
    try simp only [Act.put, List.setIfInBounds_toArray, List.set_cons_zero, List.set_cons_succ]
    clear hK K hS
    have hS := hS9
    clear hS9
    refine wpAnyE_done (by kernel_rfl) ?_ _
    go_simp
    have HF := with_end (x := x) (o := o) HBu.out HVu.out HBW.out HGB.out q0 q1
    go_wp2_with fail
    exact bodyPost_ret (v := .tuple #[.slice (some ⟨g, 0, none⟩) n c, .agg #[.int .i64 x, .int .i64 o]]) (by simp [results, Try.results35, go_sem, *]) rfl ⟨g, n, c, R, x, o, rfl, HGW.out, HNC.out.1, HNC.out.2, HF.2, HF.1⟩
end Go.Proofs.Ytiabblmjgfkijaa
