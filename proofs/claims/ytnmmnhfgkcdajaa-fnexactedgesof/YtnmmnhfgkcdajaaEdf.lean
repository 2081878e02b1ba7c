/- Edges: the iterator over all keys. -/
import Derived.RangeFuncNested
import Derived.RangeFuncBound
import Derived.RangeFuncCalls
import Derived.RangeFuncLeaves
import Derived.RangeFuncBox
import Derived.Shelf.Abstract
import Derived.OwnWalkIn
import Derived.TacticsInMore
import Derived.LoopNIn
import Derived.LoopIn
import Derived.Test.YtnmmnhfgkcdajaaEde
namespace Go.Proofs.Ytnmmnhfgkcdajaa
open Go.RowKit Go.Shelf Go.Deep
set_option linter.unusedVariables false
attribute [local go_sem] Oper.semAt_some

/-- The edges of the first keys. -/
def eI (R : Nat → Hp) (n : Nat) (cm : List Int) : Nat → List Ed
  | 0 => []
  | y + 1 => eI R n cm y ++ eA R n cm (y : Int)
theorem eI_le (R : Nat → Hp) (n : Nat) (cm : List Int) {y : Nat} : ∀ {m : Nat}, y ≤ m → (eI R n cm y).length ≤ (eI R n cm m).length
  | 0, h => by have : y = 0 := by omega
               subst this; exact Nat.le_refl _
  | m + 1, h => by
    by_cases q : y = m + 1
    · subst q; exact Nat.le_refl _
    · have := eI_le R n cm (y := y) (m := m) (by omega)
      simp only [eI, List.length_append]; omega
theorem eI_sub (R : Nat → Hp) (n : Nat) (cm : List Int) {y : Nat} {e : Ed} (he : e ∈ eI R n cm y) : ∀ {m : Nat}, y ≤ m → e ∈ eI R n cm m
  | 0, h => by have : y = 0 := by omega
               subst this; exact he
  | m + 1, h => by
    by_cases q : y = m + 1
    · subst q; exact he
    · have := eI_sub R n cm he (m := m) (by omega)
      simp only [eI, List.mem_append]; exact .inl this
/-- What a round keeps: all cells. -/
def KC (W W' : World) : Prop := W.heap.size ≤ W'.heap.size ∧ ∀ b o v, W.cell? ⟨b, o, none⟩ = some v → W'.cell? ⟨b, o, none⟩ = some v
theorem KC.refl (W : World) : KC W W := ⟨Nat.le_refl _, fun _ _ _ h => h⟩
theorem KC.trans {A B C : World} (h : KC A B) (k : KC B C) : KC A C := ⟨Nat.le_trans h.1 k.1, fun b o v e => k.2 b o v (h.2 b o v e)⟩
theorem KC.of {W W' : World} (h : Below W.heap.size W W') : KC W W' := ⟨h.size, fun b o v e => cell_below e h⟩
theorem KC.put (W : World) (l : Nat) (o o' : Obj) (h : W.heap[l]? = some o) (hc : o.isCells = false) : KC W (W.putObj l o') :=
  ⟨(grownBy_putObj' W l o').size, fun b i v e => cell_kept e (grownBy_putObj' W l o') (fun r e2 => by cases e2; exact ⟨_, h, hc⟩)⟩
theorem HopsAt.kc {w w' : World} {a : Option Addr} {n : Nat} {R : Nat → Hp} (h : HopsAt w a n R) (k : KC w w') : HopsAt w' a n R := by
  rcases h with h | ⟨b, off, ha, hl, hc⟩
  · exact .inl h
  · refine .inr ⟨b, off, ha, Nat.lt_of_lt_of_le hl k.1, fun i hi => ?_⟩
    obtain ⟨x0, x1, x2, x3⟩ := hc i hi
    exact ⟨k.2 _ _ _ x0, k.2 _ _ _ x1, k.2 _ _ _ x2, k.2 _ _ _ x3⟩
theorem IntsAt.kc {w w' : World} {a : Option Addr} {n : Nat} {F : Nat → Int} (h : IntsAt w a n F) (k : KC w w') : IntsAt w' a n F := by
  rcases h with h | ⟨b, off, ha, hl, hc⟩
  · exact .inl h
  · exact .inr ⟨b, off, ha, Nat.lt_of_lt_of_le hl k.1, fun i hi => k.2 _ _ _ (hc i hi)⟩
theorem EdsAt.kc {w w' : World} {a : Option Addr} {l : List Ed} (h : EdsAt w a l) (k : KC w w') : EdsAt w' a l := by
  rcases h with h | ⟨b, off, ha, hl, hc⟩
  · exact .inl h
  · exact .inr ⟨b, off, ha, Nat.lt_of_lt_of_le hl k.1, fun i u hi => k.2 _ _ _ (hc i u hi)⟩
theorem grown_of {W W' : World} (h : Below W.heap.size W W') : W.grownBy W' none := ⟨h.os, h.tape, h.output, h.size, fun k hk _ => h.block k hk⟩
theorem take_ed {l : List Ed} {k : Nat} (h : k < l.length) : l.take (k + 1) = l.take k ++ [eE l k] := by
  rw [List.take_add_one, eE, List.getD_eq_getElem?_getD]
  simp [List.getElem?_eq_getElem h]
theorem eA_len (R : Nat → Hp) (n : Nat) (cm : List Int) (y : Int) (hn : n ≤ 400) (hl : cm.length ≤ 400) : (eA R n cm y).length ≤ 100000 := by
  have h1 := eH_len R cm (wrL R n y cm) y n
  have h2 := wrL_len R n y cm
  simp only [eA, List.length_append, eW_len]
  omega
def SPost (X : List Ed) (J Jx : List Ed → World → Prop) (e : Ending) (W' : World) : Prop := (∃ v, e = .returned v) ∧ ((∃ ys, ys = X ∧ J ys W') ∨ (∃ pre : List Ed, (∀ e ∈ pre, e ∈ X) ∧ Jx pre W'))
def encE (e : Ed) : Array Value := #[.agg #[.int .i64 e.f, .int .i64 e.t, .int .i64 e.k]]
set_option maxRecDepth 100000 in
set_option maxHeartbeats 1000000 in
theorem edgesIn1_in (M : Nat) (hM : M = 32) (n0 : Nat) (hn0 : 1 ≤ n0) (n : Nat) (R : Nat → Hp) (cm : List Int) (a ca : Option Addr) (cap cc l Bh Bc : Nat) (hn : n ≤ 400) (hhi : hiF R n = 0) (hl : cm.length ≤ 400) (J Jx : List Ed → World → Prop) (W : World) (hJ : AbidesFrom W.heap.size J)
    (hY : ∀ pre x W1, J pre W1 → pre.length < (eI R n cm M).length → YieldAt Fence.wide (n0 - 1) Try.prog l (encE x) W1 fun e W' => (e = .returned (.bool true) ∧ J (pre ++ [x]) W' ∧ KC W1 W') ∨ (e = .returned (.bool false) ∧ Jx (pre ++ [x]) W'))
    (hBh : W.cell? ⟨Bh, 0, none⟩ = some (.slice a n cap)) (hBc : W.cell? ⟨Bc, 0, none⟩ = some (.slice ca cm.length cc)) (h : HopsAt W a n R) (hi : IntsAt W ca cm.length (zI cm)) (h0 : J [] W) :
    CallsIn Fence.wide n0 Try.prog 62 #[.func (.yield l) #[] #[], .pointer (some ⟨Bh, 0, none⟩), .pointer (some ⟨Bc, 0, none⟩)] W (SPost (eI R n cm M) J Jx) := by
  have HM : Hid (M = 32) := hM
  clear hM
  have HAL : Hid (∀ y : Int, (eA R n cm y).length ≤ 100000) := fun y => eA_len R n cm y hn hl
  have hF : Fence.wide.fn 63 := trivial
  have HX : Hid (HopsAt W a n R) := h
  have HI : Hid (IntsAt W ca cm.length (zI cm)) := hi
  have HEA : Hid (∀ (y : Nat) m wv, HopsAt wv a n R → IntsAt wv ca cm.length (zI cm) → CallsIn Fence.wide m Try.prog 63 #[.slice a n cap, .slice ca cm.length cc, .int .i64 (y : Int)] wv (ERs (eA R n cm (y : Int)) wv)) := fun y m wv h1 h2 => callsIn_wide.2 (edgesAt_any n R cm a ca cap cc (y : Int) wv hn hhi hl h1 h2)
  have HJ : Hid (AbidesFrom W.heap.size J) := hJ
  have HY : Hid (∀ pre x W1, J pre W1 → pre.length < (eI R n cm M).length → YieldAt Fence.wide (n0 - 1) Try.prog l (encE x) W1 fun e W' => (e = .returned (.bool true) ∧ J (pre ++ [x]) W' ∧ KC W1 W') ∨ (e = .returned (.bool false) ∧ Jx (pre ++ [x]) W')) := hY
  have HCE : Hid (W.cell? ⟨Bh, 0, none⟩ = some (.slice a n cap) ∧ W.cell? ⟨Bc, 0, none⟩ = some (.slice ca cm.length cc)) := ⟨hBh, hBc⟩
  clear h hi hJ hY hhi hl hBh hBc
  refine callsIn_of_wp Try.func62 rfl trivial ?_ rfl
  simp only [Try.ntmps62, List.size_toArray, List.length_cons, List.length_nil, Nat.reduceAdd, Nat.reduceSub, Array.replicate_succ, Array.replicate_zero, List.push_toArray, List.append_toArray, List.nil_append, List.cons_append]
  gi_wp2_with fail
  gi_loopw [4, 6, 7, 15] (fun _ _ i _ wr => ∃ y : Nat, y ≤ 32 ∧ i = .int .i64 y ∧ Hid (J (eI R n cm y) wr) ∧ Hid (KC W wr)) (fun _ _ i _ _ => 32 - (intOf i).toNat)
  case atStart => exact ⟨0, Nat.zero_le _, rfl, h0, KC.refl _⟩
  case round =>
    obtain ⟨y, hy, rfl, HJs, HK⟩ := hrel
    by_cases hlt : y < 32
    · have hlt' : (y : Int) < 32 := by omega
      have c1 := HK.out.2 _ _ _ HCE.out.1
      have c2 := HK.out.2 _ _ _ HCE.out.2
      gi_wp2_with (gi_at_call 63; refine (HEA.out y _ wr (HX.out.kc HK.out) (HI.out.kc HK.out)).mono ?_; rintro e w2 ⟨u, rfl, hb2, ho2⟩; obtain ⟨ua, uc, rfl⟩ := rowE_slice ho2)
      have HJ2 : Hid (J (eI R n cm y ++ (eA R n cm (y : Int)).take 0) w2) := by
        show J _ _
        rw [List.take_zero, List.append_nil]
        exact HJ.out _ _ _ none HJs.out (grown_of hb2) (fun r e => by cases e)
      have HK2 : Hid (KC W w2) := HK.out.trans (KC.of hb2)
      have HE2 : Hid (EdsAt w2 ua (eA R n cm (y : Int))) := ownE_at ho2
      have HLE : Hid ((eI R n cm y).length + (eA R n cm (y : Int)).length ≤ (eI R n cm M).length) := by
        have h := eI_le R n cm (y := y + 1) (m := M) (by rw [HM.out]; omega)
        have h2 : (eI R n cm (y + 1)).length = (eI R n cm y ++ eA R n cm (y : Int)).length := rfl
        rw [h2, List.length_append] at h
        exact h
      have HEND : Hid (eI R n cm y ++ eA R n cm (y : Int) = eI R n cm (y + 1)) := rfl
      have hes := HAL.out (y : Int)
      have HSUB : Hid (∀ e ∈ eI R n cm y ++ eA R n cm (y : Int), e ∈ eI R n cm M) := fun e he => eI_sub R n cm (y := y + 1) he (by rw [HM.out]; omega)
      clear hb2 ho2 HJs HK c1 c2
      generalize eA R n cm (y : Int) = es at *
      gi_loopw [6, 15] (fun _ i wr => ∃ k : Nat, k ≤ es.length ∧ i = .int .i64 k ∧ Hid (J (eI R n cm y ++ es.take k) wr) ∧ Hid (KC W wr) ∧ Hid (EdsAt wr ua es)) (fun _ i _ => es.length - (intOf i).toNat)
      case atStart => exact ⟨0, Nat.zero_le _, rfl, HJ2, HK2, HE2⟩
      case round =>
        clear HJ2 HK2 HE2
        obtain ⟨k, hk, rfl, HJs, HK, HE⟩ := hrel
        by_cases hlt2 : k < es.length
        · have hlt2' : (k : Int) < (es.length : Int) := by omega
          have hk0 : (0 : Int) ≤ (k : Int) := by omega
          rcases HE.out with h | ⟨b, off, rfl, hbl, hcc⟩
          · rw [h] at hlt2; simp at hlt2
          obtain ⟨e0, e1, e2⟩ := el_at es k hlt2
          have x0 := hcc _ _ e0
          have x1 := hcc _ _ e1
          have x2 := hcc _ _ e2
          rw [← Nat.add_assoc] at x1 x2
          have HTK : Hid (es.take (k + 1) = es.take k ++ [eE es k]) := take_ed hlt2
          have hlen : (eI R n cm y ++ es.take k).length < (eI R n cm M).length := by
            have := HLE.out
            rw [List.length_append, List.length_take]; omega
          clear hcc e0 e1 e2
          generalize eE es k = ed at *
          have hJa := HJ.out _ _ _ none HJs.out (World.grownBy_alloc wr (.cells #[.int .i64 ed.f, .int .i64 ed.t, .int .i64 ed.k] 61) none) (fun r e => by cases e)
          obtain ⟨fn, tmps, assign, body, hy9, hR⟩ := HY.out _ ed _ hJa hlen
          simp only [encE] at hy9
          have HKA : Hid (KC W (wr.alloc (.cells #[.int .i64 ed.f, .int .i64 ed.t, .int .i64 ed.k] 61))) := HK.out.trans (KC.of (below_new _ _))
          have HEA2 : Hid (EdsAt (wr.alloc (.cells #[.int .i64 ed.f, .int .i64 ed.t, .int .i64 ed.k] 61)) (some ⟨b, off, none⟩) es) := HE.out.below (below_new _ _)
          clear hJa HJs hlen HK HE
          gi_wp2_with fail
          refine hR.mono ?_
          rintro e W3 (⟨rfl, hJ3, hk3⟩ | ⟨rfl, hJx3⟩)
          · have HJ3 : Hid (J (eI R n cm y ++ es.take (k + 1)) W3) := by show J _ _; rw [HTK.out, ← List.append_assoc]; exact hJ3
            have HK3 : Hid (KC W W3) := HKA.out.trans hk3
            have HE3 : Hid (EdsAt W3 (some ⟨b, off, none⟩) es) := HEA2.out.kc hk3
            clear hJ3 hk3 HKA HEA2
            gi_wp2_with fail
            go_roundw
            case rel => exact ⟨k + 1, hlt2, by go_num, HJ3, HK3, HE3⟩
            case measure => simp [intOf]; omega
          · gi_wp2_with fail
            refine bodyPost_ret (results_none rfl _ _ _) rfl ?_
            refine (⟨⟨_, rfl⟩, .inr ⟨_, fun e he => HSUB.out e ?_, hJx3⟩⟩ : SPost _ _ _ _ _)
            rw [List.append_assoc, ← HTK.out, List.mem_append] at he
            rw [List.mem_append]
            rcases he with he | he
            · exact .inl he
            · exact .inr (List.mem_of_mem_take he)
        · have hkn : k = es.length := by omega
          have hnl : ¬ ((k : Int) < (es.length : Int)) := by omega
          have HJ3 : Hid (J (eI R n cm (y + 1)) wr) := by have h := HJs.out; rw [hkn, List.take_length, HEND.out] at h; exact h
          clear HJs hkn
          gi_wp2_with fail
          go_roundw
          case rel => exact ⟨y + 1, hlt, by go_num, HJ3, HK⟩
          case measure => simp [intOf]; omega
    · have hkn : y = 32 := by omega
      have hnl : ¬ ((y : Int) < 32) := by omega
      have HJ3 : Hid (J (eI R n cm M) wr) := by have h := HJs.out; rw [HM.out, ← hkn]; exact h
      clear hkn
      gi_wp2_with fail
      go_end0
      exact (⟨⟨_, rfl⟩, .inl ⟨_, rfl, HJ3.out⟩⟩ : SPost _ _ _ _ _)
theorem edgesIn_stops (M : Nat) (hM : M = 32) (n0 : Nat) (hn0 : 1 ≤ n0) (n : Nat) (R : Nat → Hp) (cm : List Int) (a ca : Option Addr) (cap cc Bh Bc : Nat) (hn : n ≤ 400) (hhi : hiF R n = 0) (hl : cm.length ≤ 400) (w : World) (hB1 : Bh < w.heap.size) (hB2 : Bc < w.heap.size)
    (hBh : w.cell? ⟨Bh, 0, none⟩ = some (.slice a n cap)) (hBc : w.cell? ⟨Bc, 0, none⟩ = some (.slice ca cm.length cc)) (h : HopsAt w a n R) (hi : IntsAt w ca cm.length (zI cm)) :
    SeqStopsK Fence.wide n0 Try.prog 62 #[.pointer (some ⟨Bh, 0, none⟩), .pointer (some ⟨Bc, 0, none⟩)] encE KC (fun ys => ys = eI R n cm M) (fun pre => ∀ e ∈ pre, e ∈ eI R n cm M) (eI R n cm M).length w := fun l J Jx W hW hJ hJx hY h0 =>
  edgesIn1_in M hM n0 hn0 n R cm a ca cap cc l Bh Bc hn hhi hl J Jx W hJ hY (cell_below hBh hW) (cell_below hBc hW) (h.below hW) (hi.below hW) h0
set_option maxHeartbeats 1000000 in
theorem edgesIn_any (a ca : Option Addr) (n cap len cc : Nat) (w : World) :
    Calls Try.prog 46 #[.slice a n cap, .slice ca len cc] w fun e w' => e = .returned (.func (.func 62) #[] #[.pointer (some ⟨w.heap.size, 0, none⟩), .pointer (some ⟨w.heap.size + 1, 0, none⟩)]) ∧ w' = (w.alloc (.cells #[.slice a n cap] 28)).alloc (.cells #[.slice ca len cc] 24) := by
  go_enter Try.func46, Try.ntmps46
  go_wp2_with fail
  go_ret
  exact ⟨by simp, rfl⟩
end Go.Proofs.Ytnmmnhfgkcdajaa
