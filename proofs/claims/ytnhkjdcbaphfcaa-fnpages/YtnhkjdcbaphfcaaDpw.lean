/- Draws of bytes of pages: spec.l1Wire, spec.DrawUnpackPage, spec.DrawPackPage. -/
import Derived.Test.YtnhkjdcbaphfcaaDpc
import Derived.Test.YtnhkjdcbaphfcaaPgr
namespace Go.Proofs.Ytnhkjdcbaphfcaa
open Go.RowKit Go.Deep
set_option linter.unusedVariables false
set_option linter.unusedSimpArgs false
set_option maxRecDepth 20000

theorem row1_of {w : World} {base : Nat} {v : Value} {zs : List Int} {n : Nat} (hn : zs.length = n) (hp : 0 < n) (h : w.ownsRow base 5 1 v zs.length (bl zs)) : ∃ g c, v = .slice (some ⟨g, 0, none⟩) n c ∧ n ≤ c ∧ base ≤ g ∧ g < w.heap.size ∧ Row1 w g 0 n (zOf zs) := by
  have hb := h
  obtain ⟨h1, ⟨-, h0⟩ | ⟨g, cap, cur, rfl, k1, k2, k3⟩⟩ := h
  · omega
  · have hc := own_cap hb
    obtain ⟨a', c', e, ho⟩ := ownB_of_row hb
    refine ⟨g, cap, by rw [hn], by omega, k1, (Array.getElem?_eq_some_iff.1 k2).1, fun i hi => ?_, fun i hi => hb.frozenAt _⟩
    injection e with e1 e2 e3
    rcases ho.at with h | ⟨b', off', e4, _, hc4⟩
    · omega
    · rw [← e1] at e4
      injection e4 with e4
      injection e4 with e5 e6
      subst e5 e6
      exact hc4 i (by omega)
theorem Row1.ba {w : World} {b off n : Nat} {z : Nat → Int} (h : Row1 w b off n z) : BA w b off n z := h.1
theorem Row1.block {w w' : World} {b off n : Nat} {z : Nat → Int} (h : Row1 w b off n z) (e : w'.heap[b]? = w.heap[b]?) : Row1 w' b off n z :=
  ⟨fun i hi => (World.cell?_of_block (w := w) (a := ⟨b, off + i, none⟩) e).trans (h.1 i hi), fun i hi => (World.frozen?_of_block (w := w) (a := ⟨b, off + i, none⟩) e).trans (h.2 i hi)⟩
theorem Row1.set {w : World} {b n : Nat} {z : Nat → Int} (h : Row1 w b 0 n z) (k : Nat) (hk : k < n) (x : Int) : Row1 (w.setCell ⟨b, k, none⟩ (.int .u8 x)) b 0 n (fun i => if i = k then x else z i) := by
  refine ⟨fun i hi => ?_, fun i hi => by rw [World.frozen?_setCell]; exact h.2 i hi⟩
  by_cases e : i = k
  · subst e
    simp only [if_true, Nat.zero_add]
    have := h.1 i hi
    rw [Nat.zero_add] at this
    exact setS this
  · simp only [if_neg e, Nat.zero_add]
    rw [setO (by omega)]
    have := h.1 i hi
    rw [Nat.zero_add] at this
    exact this
theorem Byt.set {n : Nat} {z : Nat → Int} (h : Byt n z) (k : Nat) (x : Int) (hx : 0 ≤ x ∧ x ≤ 255) : Byt n (fun i => if i = k then x else z i) := fun i hi => by
  simp only
  split
  · exact hx
  · exact h i hi
theorem dw_set {w wr : World} {S : Nat} {a : Option Addr} {kk cap : Nat} {z : Nat → Int} {t g : Nat} (h : Dw S a kk cap z t w wr) (hg : w.heap.size ≤ g) (hS : S < w.heap.size) (k : Nat) (x : Value) : Dw S a kk cap z t w (wr.setCell ⟨g, k, none⟩ x) := by
  have e : ∀ q, q ≠ g → (wr.setCell ⟨g, k, none⟩ x).heap[q]? = wr.heap[q]? := fun q hq => Below.heap_setCell _ _ _ _ (by show ¬ q = g; exact hq)
  have hz : (wr.setCell ⟨g, k, none⟩ x).heap.size = wr.heap.size := by simp [World.setCell]
  have h1 := h.1
  exact ⟨⟨h1.os, h1.tape, h1.output, by rw [hz]; exact h1.size, fun q hq hd => (e q (by omega)).trans (h1.block q hq hd)⟩, src_block' h.2 (by rw [hz]; exact Nat.le_refl _) fun q hq => e q (by omega)⟩
def WireA (S : Nat) (a : Option Addr) (kk cap : Nat) (z : Nat → Int) (w : World) (e : Ending) (w' : World) : Prop :=
  ∃ (b n c : Nat) (y : Nat → Int) (t' : Nat), e = .returned (.slice (some ⟨b, 0, none⟩) n c) ∧ n ≤ 48 ∧ n ≤ c ∧ Byt n y ∧ b < w'.heap.size ∧ BA w' b 0 n y ∧ Dw S a kk cap z t' w w'
theorem byt_cut {n m : Nat} {z : Nat → Int} (h : Byt n z) (hm : m ≤ n) : Byt m z := fun i hi => h i (by omega)
set_option maxHeartbeats 16000000 in
theorem l1Wire_any (S : Nat) (a : Option Addr) (kk cap : Nat) (z : Nat → Int) (t0 : Nat) (w : World) (ht0 : t0 ≤ 700000) (h : Src w S a kk cap z t0) :
    Calls Try.prog 29 #[.pointer (some ⟨S, 0, none⟩)] w (WireA S a kk cap z w) := by
  have HS : Hid (Src w S a kk cap z t0) := h
  have HSl : Hid (S < w.heap.size) := h.lt
  clear h
  go_enter Try.func29, Try.ntmps29
  go_wp2_with fail
  refine (l1Page_any S a kk cap z t0 w (by omega) HS.out).mono ?_
  rintro e w1 ⟨id, ls, v, L, t1, rfl, hL, ht1, hd, -, hg⟩
  obtain ⟨ra, rc, rfl, hrc, hca⟩ := cells_shape hd.own
  go_wp2_with fail
  refine (specPk_any id ls L.length (kOf L) (vOf L) ra rc w1 hg hca).mono ?_
  rintro e w2 ⟨v2, rfl, hb2, ho2⟩
  obtain ⟨g, c, rfl, hc48, hg1, hg2, hrow⟩ := row1_of (pgb_48 hL) (by omega) ho2
  have HD : Hid (Dw S a kk cap z t1 w w2) := Dw.below (⟨hd.ws, hd.src⟩ : Dw S a kk cap z t1 w w1) hb2
  have hgw : w.heap.size ≤ g := Nat.le_trans hd.ws.size hg1
  have HGS : Hid (g ≠ S) := by show g ≠ S; have := HSl.out; omega
  have HGW : Hid (w.heap.size ≤ g) := hgw
  have HBY : Hid (Byt 48 (zOf (pgb id ls L.length (kOf L) (vOf L)))) := by
    have h9 := byt_of (pgb_byt id ls L.length (kOf L) (vOf L))
    rw [pgb_48 hL] at h9
    exact h9
  have HR : Hid (Row1 w2 g 0 48 (zOf (pgb id ls L.length (kOf L) (vOf L)))) := hrow
  generalize zOf (pgb id ls L.length (kOf L) (vOf L)) = y at *
  clear hd hg hca hb2 ho2 hg1 hrow hgw HS hrc hg2
  go_wp2_with fail
  refine (l1Next_any S a kk cap z t1 8 _ (by omega) (by omega) HD.out.src).mono ?_
  rintro e w3 ⟨q, rfl, -, hn⟩
  have hdw := hn.dw
  have hgl := Go.block_lt_of_cell (HR.out.1 0 (by omega))
  replace HR : Hid (Row1 w3 g 0 48 y) := HR.out.block (hdw.1.block g hgl (by have := HGS.out; omega))
  replace HD : Hid (Dw S a kk cap z (t1 + 1) w w3) := HD.out.trans hdw
  clear hdw hn hgl
  by_cases q0 : q = 0
  · subst q0
    go_wp2_with fail
    refine (l1Next_any S a kk cap z (t1 + 1) 48 _ (by omega) (by omega) HD.out.src).mono ?_
    rintro e w4 ⟨i, rfl, hi, hn⟩
    have hdw := hn.dw
    have hgl := Go.block_lt_of_cell (HR.out.1 0 (by omega))
    replace HR : Hid (Row1 w4 g 0 48 y) := HR.out.block (hdw.1.block g hgl (by have := HGS.out; omega))
    replace HD : Hid (Dw S a kk cap z (t1 + 1 + 1) w w4) := HD.out.trans hdw
    clear hdw hn hgl
    go_wp2_with fail
    refine (l1Next_any S a kk cap z (t1 + 1 + 1) 256 _ (by omega) (by omega) HD.out.src).mono ?_
    rintro e w5 ⟨x, rfl, hx, hn⟩
    have hdw := hn.dw
    have hgl := Go.block_lt_of_cell (HR.out.1 0 (by omega))
    replace HR : Hid (Row1 w5 g 0 48 y) := HR.out.block (hdw.1.block g hgl (by have := HGS.out; omega))
    replace HD : Hid (Dw S a kk cap z (t1 + 1 + 1 + 1) w w5) := HD.out.trans hdw
    clear hdw hn hgl
    obtain ⟨j, rfl⟩ : ∃ j : Nat, i = (j : Int) := ⟨i.toNat, by have := hi.1; omega⟩
    have hj : j < 48 := by have := hi.2.1 (by omega); omega
    have hj' : (j : Int) < 48 := by omega
    have hx1 : 0 ≤ x ∧ x ≤ 255 := ⟨hx.1, by have := hx.2.1 (by omega); omega⟩
    have hwx : IntKind.u8.wrap x = x := by rw [IntKind.wrap_u8]; omega
    have c0 := HR.out.1 j hj
    have cf := HR.out.2 j hj
    rw [Nat.zero_add] at c0 cf
    have HF : Hid (WireA S a kk cap z w (.returned (.slice (some ⟨g, 0, none⟩) 48 c)) (w5.setCell ⟨g, j, none⟩ (.int .u8 x))) := by
      have hr := HR.out.set j hj x
      refine ⟨g, 48, c, _, _, rfl, by omega, hc48, Byt.set HBY.out j x hx1, Go.block_lt_of_cell (hr.1 0 (by omega)), hr.1, dw_set HD.out HGW.out HSl.out j _⟩
    clear hi hx hx1 HR HD HBY
    go_wp2_with fail
    go_ret
    exact HF.out
  · have q0' : (q == 0) = false := by simp [q0]
    by_cases q1 : q = 1
    · subst q1
      go_wp2_with fail
      refine (l1Next_any S a kk cap z (t1 + 1) 48 _ (by omega) (by omega) HD.out.src).mono ?_
      rintro e w4 ⟨i, rfl, hi, hn⟩
      have hdw := hn.dw
      have hgl := Go.block_lt_of_cell (HR.out.1 0 (by omega))
      replace HR : Hid (Row1 w4 g 0 48 y) := HR.out.block (hdw.1.block g hgl (by have := HGS.out; omega))
      replace HD : Hid (Dw S a kk cap z (t1 + 1 + 1) w w4) := HD.out.trans hdw
      clear hdw hn hgl
      obtain ⟨j, rfl⟩ : ∃ j : Nat, i = (j : Int) := ⟨i.toNat, by have := hi.1; omega⟩
      have hj : j < 48 := by have := hi.2.1 (by omega); omega
      have hj' : (j : Int) ≤ (c : Int) := by omega
      have hj0 : (0 : Int) ≤ (j : Int) := by omega
      have HF : Hid (WireA S a kk cap z w (.returned (.slice (some ⟨g, 0, none⟩) j c)) w4) :=
        ⟨g, j, c, y, _, rfl, by omega, by omega, byt_cut HBY.out (by omega), Go.block_lt_of_cell (HR.out.1 0 (by omega)), fun i hi => HR.out.1 i (by omega), HD.out⟩
      clear hi HR HD HBY q0
      go_wp2_with fail
      go_ret
      exact HF.out
    · have q1' : (q == 1) = false := by simp [q1]
      by_cases q2 : q = 2
      · subst q2
        go_wp2_with fail
        refine (l1Next_any S a kk cap z (t1 + 1) 46 _ (by omega) (by omega) HD.out.src).mono ?_
        rintro e w4 ⟨i, rfl, hi, hn⟩
        have hdw := hn.dw
        have hgl := Go.block_lt_of_cell (HR.out.1 0 (by omega))
        replace HR : Hid (Row1 w4 g 0 48 y) := HR.out.block (hdw.1.block g hgl (by have := HGS.out; omega))
        replace HD : Hid (Dw S a kk cap z (t1 + 1 + 1) w w4) := HD.out.trans hdw
        clear hdw hn hgl
        go_wp2_with fail
        refine (l1Next_any S a kk cap z (t1 + 1 + 1) 40 _ (by omega) (by omega) HD.out.src).mono ?_
        rintro e w5 ⟨x, rfl, hx, hn⟩
        have hdw := hn.dw
        have hgl := Go.block_lt_of_cell (HR.out.1 0 (by omega))
        replace HR : Hid (Row1 w5 g 0 48 y) := HR.out.block (hdw.1.block g hgl (by have := HGS.out; omega))
        replace HD : Hid (Dw S a kk cap z (t1 + 1 + 1 + 1) w w5) := HD.out.trans hdw
        clear hdw hn hgl
        obtain ⟨j, rfl⟩ : ∃ j : Nat, i = (j : Int) := ⟨i.toNat, by have := hi.1; omega⟩
        have hj : j < 48 := by have := hi.2.1 (by omega); omega
        have hj' : (j : Int) < 48 := by omega
        have hx1 : 0 ≤ x ∧ x ≤ 255 := ⟨hx.1, by have := hx.2.1 (by omega); omega⟩
        have hwx : IntKind.u8.wrap x = x := by rw [IntKind.wrap_u8]; omega
        have c0 := HR.out.1 j hj
        have cf := HR.out.2 j hj
        rw [Nat.zero_add] at c0 cf
        have HR2 : Hid (Row1 (w5.setCell ⟨g, j, none⟩ (.int .u8 x)) g 0 48 (fun i => if i = j then x else y i)) := HR.out.set j hj x
        have HD2 : Hid (Dw S a kk cap z (t1 + 1 + 1 + 1) w (w5.setCell ⟨g, j, none⟩ (.int .u8 x))) := dw_set HD.out HGW.out HSl.out j _
        have HB2 : Hid (Byt 48 (fun i => if i = j then x else y i)) := Byt.set HBY.out j x hx1
        have hc46 : (46 : Int) ≤ (c : Int) := by omega
        clear hi hx hx1 HR HD HBY q0 q1
        go_wp2_with fail
        generalize (w5.setCell ⟨g, j, none⟩ (.int .u8 x)) = w6 at *
        generalize (fun i => if i = j then x else y i) = y2 at *
        refine (sumT y2 48 w6 HR2.out.1 HB2.out (by omega) (by omega)).mono ?_
        rintro e w7 ⟨rfl, hw7⟩
        have hw7' := hw7.symm
        clear hw7
        subst hw7'
        have hsb := sumB_bd y2 46
        generalize sumB y2 46 = sx at *
        have hw1 : IntKind.i64.wrap (sx.tdiv 256) = sx / 256 := by rw [Int.tdiv_eq_ediv_of_nonneg hsb.1, IntKind.wrap_i64]; omega
        have hu1 : IntKind.u8.wrap (sx / 256) = sx / 256 := by rw [IntKind.wrap_u8]; omega
        have d0 := HR2.out.1 46 (by omega)
        have df := HR2.out.2 46 (by omega)
        rw [Nat.zero_add] at d0 df
        have HR3 : Hid (Row1 (w6.setCell ⟨g, 46, none⟩ (.int .u8 (sx / 256))) g 0 48 (fun i => if i = 46 then sx / 256 else y2 i)) := HR2.out.set 46 (by omega) _
        have HD3 : Hid (Dw S a kk cap z (t1 + 1 + 1 + 1) w (w6.setCell ⟨g, 46, none⟩ (.int .u8 (sx / 256)))) := dw_set HD2.out HGW.out HSl.out 46 _
        have HB3 : Hid (Byt 48 (fun i => if i = 46 then sx / 256 else y2 i)) := Byt.set HB2.out 46 _ (by omega)
        clear HR2 HD2 HB2 c0 cf
        go_upto_region 11 with fail
        generalize (w6.setCell ⟨g, 46, none⟩ (.int .u8 (sx / 256))) = w8 at *
        generalize (fun i => if i = 46 then sx / 256 else y2 i) = y3 at *
        have e0 := HR3.out.1 47 (by omega)
        have ef := HR3.out.2 47 (by omega)
        rw [Nat.zero_add] at e0 ef
        have HF : Hid (WireA S a kk cap z w (.returned (.slice (some ⟨g, 0, none⟩) 48 c)) (w8.setCell ⟨g, 47, none⟩ (.int .u8 (sx.tmod 256 % 256)))) := by
          have hr := HR3.out.set 47 (by omega) (sx.tmod 256 % 256)
          exact ⟨g, 48, c, _, _, rfl, by omega, hc48, Byt.set HB3.out 47 _ (by omega), Go.block_lt_of_cell (hr.1 0 (by omega)), hr.1, dw_set HD3.out HGW.out HSl.out 47 _⟩
        clear HR3 HD3 HB3 d0 df hsb
        go_wp2_with fail
        go_ret
        exact HF.out
      · have q2' : (q == 2) = false := by simp [q2]
        have HF : Hid (WireA S a kk cap z w (.returned (.slice (some ⟨g, 0, none⟩) 48 c)) w3) :=
          ⟨g, 48, c, y, _, rfl, by omega, hc48, HBY.out, Go.block_lt_of_cell (HR.out.1 0 (by omega)), HR.out.1, HD.out⟩
        clear HR HD HBY q0 q1 q2
        go_wp2_with fail
        go_ret
        exact HF.out
def DrawUpA (w : World) (e : Ending) (w' : World) : Prop := ∃ (b n c : Nat) (y : Nat → Int), e = .returned (.slice (some ⟨b, 0, none⟩) n c) ∧ n ≤ 48 ∧ n ≤ c ∧ Byt n y ∧ b < w'.heap.size ∧ BA w' b 0 n y ∧ Below w.heap.size w w'
theorem drawUp_any (a : Option Addr) (kk cap : Nat) (z : Nat → Int) (w : World) (hk : kk ≤ 1048576) (hz : Byt kk z) (h : BytesAt w a kk z) :
    Calls Try.prog 8 #[.slice a kk cap] w (DrawUpA w) := by
  have HA : Hid (BytesAt w a kk z) := h
  have HZ : Hid (Byt kk z) := hz
  clear h hz
  go_enter Try.func8, Try.ntmps8
  go_wp2_with fail
  refine (l1Source_any a kk cap z w hk HZ.out HA.out).mono ?_
  rintro e w1 ⟨rfl, hb1, hs1, hsrc⟩
  obtain ⟨S, hS⟩ : ∃ S, S = w.heap.size := ⟨_, rfl⟩
  have HSw : Hid (w.heap.size ≤ S) := by show w.heap.size ≤ S; omega
  rw [← hS] at hsrc ⊢
  clear hS hs1
  go_wp2_with fail
  refine (l1Wire_any S a kk cap z 0 w1 (by omega) hsrc).mono ?_
  rintro e w2 ⟨b, n, c, y, t', rfl, h1, h2, h3, h4, h5, hd⟩
  have HF : Hid (DrawUpA w (.returned (.slice (some ⟨b, 0, none⟩) n c)) w2) := ⟨b, n, c, y, rfl, h1, h2, h3, h4, h5, below_dw hb1 HSw.out hd⟩
  clear h1 h2 h3 h4 h5 hd hb1 hsrc
  go_wp2_with fail
  go_ret
  exact HF.out
def DrawPkA (w : World) (e : Ending) (w' : World) : Prop := ∃ (id ls : Int) (b off n rc : Nat) (K V : Nat → Int), e = .returned (.agg #[.int .i64 id, .int .i64 ls, .slice (some ⟨b, off, none⟩) n rc]) ∧ n ≤ 13 ∧ n ≤ rc ∧ CellsAt w' (some ⟨b, off, none⟩) n K V ∧ Below w.heap.size w w'
theorem drawPk_any (a : Option Addr) (kk cap : Nat) (z : Nat → Int) (w : World) (hk : kk ≤ 1048576) (hz : Byt kk z) (h : BytesAt w a kk z) :
    Calls Try.prog 12 #[.slice a kk cap] w (DrawPkA w) := by
  have HA : Hid (BytesAt w a kk z) := h
  have HZ : Hid (Byt kk z) := hz
  clear h hz
  go_enter Try.func12, Try.ntmps12
  go_wp2_with fail
  have BX := BxP.new w (.int .i64 0) (.int .i64 0) (.slice none 0 0) 27
  have HB : Hid (Below w.heap.size w (w.alloc (.cells #[.int .i64 0, .int .i64 0, .slice none 0 0] 27))) := below_new _ _
  have HA0 : Hid (BytesAt (w.alloc (.cells #[.int .i64 0, .int .i64 0, .slice none 0 0] 27)) a kk z) := HA.out.below (below_new _ _)
  obtain ⟨B, hB⟩ : ∃ B, B = w.heap.size := ⟨_, rfl⟩
  have HBW : Hid (w.heap.size ≤ B) := by show w.heap.size ≤ B; omega
  rw [← hB] at BX ⊢
  generalize (w.alloc (.cells #[.int .i64 0, .int .i64 0, .slice none 0 0] 27)) = w0 at *
  have hBl : B < w0.heap.size := BX.lt
  refine (l1Source_any a kk cap z w0 hk HZ.out HA0.out).mono ?_
  rintro e w1 ⟨rfl, hb1, hs1, hsrc⟩
  obtain ⟨S, hS⟩ : ∃ S, S = w0.heap.size := ⟨_, rfl⟩
  rw [← hS] at hsrc ⊢
  have hw0 := HB.out.size
  have HSw : Hid (w.heap.size ≤ S) := by show w.heap.size ≤ S; omega
  have HBS : Hid (B ≠ S) := by show B ≠ S; omega
  have HSr : Hid (Src w1 S a kk cap z 0) := hsrc
  replace BX := BX.below hb1
  replace HB : Hid (Below w.heap.size w w1) := below_then HB.out hb1
  clear hsrc hS hB hs1 hb1 HA HA0 hw0 hBl HZ
  have HBM : Hid (B < w1.heap.size) := BX.lt
  go_wp2_with fail
  refine (l1Bent_any S a kk cap z 0 w1 (by omega) HSr.out).mono ?_
  rintro e w2 ⟨id, ls, ra, n, rc, K, V, t', rfl, hn13, hnc, ht', hcn, hdw, b, off, rfl⟩
  replace BX := BX.dw HBS.out hdw
  replace HB : Hid (Below w.heap.size w w2) := below_dw HB.out HSw.out hdw
  have HF : Hid (∀ u0 u1 u2 : Value, CellsAt (((w2.setCell ⟨B, 0, none⟩ u0).setCell ⟨B, 1, none⟩ u1).setCell ⟨B, 2, none⟩ u2) (some ⟨b, off, none⟩) n K V ∧ Below w.heap.size w (((w2.setCell ⟨B, 0, none⟩ u0).setCell ⟨B, 1, none⟩ u1).setCell ⟨B, 2, none⟩ u2)) := fun u0 u1 u2 => ⟨(((hcn.set HBM.out 0 u0).set HBM.out 1 u1).set HBM.out 2 u2).at, ((HB.out.setCell (p := ⟨B, 0, none⟩) HBW.out _).setCell (p := ⟨B, 1, none⟩) HBW.out _).setCell (p := ⟨B, 2, none⟩) HBW.out _⟩
  have HNC : Hid (n ≤ 13 ∧ n ≤ rc) := ⟨hn13, hnc⟩
  clear hcn hdw HB hn13 hnc ht'
  obtain ⟨q0, q1, q2, qf⟩ := BX
  go_wp2_with fail
  exact bodyPost_ret (v := .agg #[.int .i64 id, .int .i64 ls, .slice (some ⟨b, off, none⟩) n rc]) (by simp [results, Try.results12, go_sem, *]) rfl ⟨id, ls, b, off, n, rc, K, V, rfl, HNC.out.1, HNC.out.2, (HF.out _ _ _).1, (HF.out _ _ _).2⟩
end Go.Proofs.Ytnhkjdcbaphfcaa
