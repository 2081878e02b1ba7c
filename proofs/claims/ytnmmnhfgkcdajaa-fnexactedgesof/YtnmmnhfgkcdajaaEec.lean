/- Edges: the iterator over all keys, for a body that turns blocks of its own. -/
import Derived.Test.YtnmmnhfgkcdajaaEdf
namespace Go.Proofs.Ytnmmnhfgkcdajaa
open Go.RowKit Go.Shelf Go.Deep
set_option linter.unusedVariables false
attribute [local go_sem] Oper.semAt_some

theorem eE_mem0 {l : List Ed} {i : Nat} (h : i < l.length) : eE l i ∈ l := by
  simp only [eE, List.getD_eq_getElem?_getD, List.getElem?_eq_getElem h, Option.getD_some]
  exact List.getElem_mem h
/-- The blocks that the body may turn, and how they come about. -/
structure ExOk (Bo : Nat) (Ex : World → Nat → Prop) : Prop where
  below : ∀ W W', Bo < W.heap.size → Below W.heap.size W W' → ∀ b, Ex W' b → Ex W b
/-- What a round keeps: all cells but those of the body's own blocks; these are old ones or new. -/
structure KE (Bo : Nat) (Ex : World → Nat → Prop) (W W' : World) : Prop where
  size : W.heap.size ≤ W'.heap.size
  bo : Bo < W.heap.size → Bo < W'.heap.size
  same : ∀ b o v, ¬ Ex W b → W.cell? ⟨b, o, none⟩ = some v → W'.cell? ⟨b, o, none⟩ = some v
  ex : ∀ b, Ex W' b → Ex W b ∨ W.heap.size ≤ b
  lt : (∀ b, Ex W b → b < W.heap.size) → ∀ b, Ex W' b → b < W'.heap.size
theorem KE.refl (Bo : Nat) (Ex : World → Nat → Prop) (W : World) : KE Bo Ex W W := ⟨Nat.le_refl _, fun h => h, fun _ _ _ _ h => h, fun b h => .inl h, fun h => h⟩
theorem KE.trans {Bo : Nat} {Ex : World → Nat → Prop} {A B C : World} (h : KE Bo Ex A B) (k : KE Bo Ex B C) : KE Bo Ex A C := by
  refine ⟨Nat.le_trans h.size k.size, fun q => k.bo (h.bo q), fun b o v hb hc => ?_, fun b hb => ?_, fun q => k.lt (h.lt q)⟩
  · have hlt : b < A.heap.size := Go.block_lt_of_cell hc
    refine k.same b o v (fun hx => ?_) (h.same b o v hb hc)
    rcases h.ex b hx with q | q
    · exact hb q
    · omega
  · rcases k.ex b hb with q | q
    · exact h.ex b q
    · exact .inr (Nat.le_trans h.size q)
theorem KE.of {Bo : Nat} {Ex : World → Nat → Prop} (X : ExOk Bo Ex) {W W' : World} (hBo : Bo < W.heap.size) (h : Below W.heap.size W W') : KE Bo Ex W W' :=
  ⟨h.size, fun q => Nat.lt_of_lt_of_le q h.size, fun b o v _ e => cell_below e h, fun b hb => .inl (X.below W W' hBo h b hb), fun q b hb => Nat.lt_of_lt_of_le (q b (X.below W W' hBo h b hb)) h.size⟩
def HopsX (Ex : World → Nat → Prop) (w : World) (a : Option Addr) (n : Nat) (R : Nat → Hp) : Prop := n = 0 ∨ ∃ b off, a = some ⟨b, off, none⟩ ∧ b < w.heap.size ∧ ¬ Ex w b ∧ ∀ i, i < n → CH w b (off + i * 4) (R i)
def IntsX (Ex : World → Nat → Prop) (w : World) (a : Option Addr) (n : Nat) (F : Nat → Int) : Prop := n = 0 ∨ ∃ b off, a = some ⟨b, off, none⟩ ∧ b < w.heap.size ∧ ¬ Ex w b ∧ ∀ i, i < n → w.cell? ⟨b, off + i, none⟩ = some (.int .i64 (F i))
def EdsX (Ex : World → Nat → Prop) (w : World) (a : Option Addr) (l : List Ed) : Prop := l = [] ∨ ∃ b off, a = some ⟨b, off, none⟩ ∧ b < w.heap.size ∧ ¬ Ex w b ∧ ∀ j u, (el l)[j]? = some u → w.cell? ⟨b, off + j, none⟩ = some u
theorem not_ex {Bo : Nat} {Ex : World → Nat → Prop} {W W' : World} (k : KE Bo Ex W W') {b : Nat} (hl : b < W.heap.size) (h : ¬ Ex W b) : ¬ Ex W' b := fun q => by
  rcases k.ex b q with x | x
  · exact h x
  · omega
theorem HopsX.at {Ex : World → Nat → Prop} {w : World} {a : Option Addr} {n : Nat} {R : Nat → Hp} (h : HopsX Ex w a n R) : HopsAt w a n R := by
  rcases h with h | ⟨b, off, ha, hl, _, hc⟩
  · exact .inl h
  · exact .inr ⟨b, off, ha, hl, hc⟩
theorem IntsX.at {Ex : World → Nat → Prop} {w : World} {a : Option Addr} {n : Nat} {F : Nat → Int} (h : IntsX Ex w a n F) : IntsAt w a n F := by
  rcases h with h | ⟨b, off, ha, hl, _, hc⟩
  · exact .inl h
  · exact .inr ⟨b, off, ha, hl, hc⟩
theorem HopsX.kc {Bo : Nat} {Ex : World → Nat → Prop} {w w' : World} {a : Option Addr} {n : Nat} {R : Nat → Hp} (h : HopsX Ex w a n R) (k : KE Bo Ex w w') : HopsX Ex w' a n R := by
  rcases h with h | ⟨b, off, ha, hl, hx, hc⟩
  · exact .inl h
  · refine .inr ⟨b, off, ha, Nat.lt_of_lt_of_le hl k.size, not_ex k hl hx, fun i hi => ?_⟩
    obtain ⟨x0, x1, x2, x3⟩ := hc i hi
    exact ⟨k.same _ _ _ hx x0, k.same _ _ _ hx x1, k.same _ _ _ hx x2, k.same _ _ _ hx x3⟩
theorem IntsX.kc {Bo : Nat} {Ex : World → Nat → Prop} {w w' : World} {a : Option Addr} {n : Nat} {F : Nat → Int} (h : IntsX Ex w a n F) (k : KE Bo Ex w w') : IntsX Ex w' a n F := by
  rcases h with h | ⟨b, off, ha, hl, hx, hc⟩
  · exact .inl h
  · exact .inr ⟨b, off, ha, Nat.lt_of_lt_of_le hl k.size, not_ex k hl hx, fun i hi => k.same _ _ _ hx (hc i hi)⟩
theorem EdsX.kc {Bo : Nat} {Ex : World → Nat → Prop} {w w' : World} {a : Option Addr} {l : List Ed} (h : EdsX Ex w a l) (k : KE Bo Ex w w') : EdsX Ex w' a l := by
  rcases h with h | ⟨b, off, ha, hl, hx, hc⟩
  · exact .inl h
  · exact .inr ⟨b, off, ha, Nat.lt_of_lt_of_le hl k.size, not_ex k hl hx, fun i u hi => k.same _ _ _ hx (hc i u hi)⟩
/-- A row that a call has made is none of the body's blocks. -/
theorem edsX_new {Bo : Nat} {Ex : World → Nat → Prop} (X : ExOk Bo Ex) {w w' : World} (hBo : Bo < w.heap.size) (hv : ∀ b, Ex w b → b < w.heap.size) {a : Option Addr} {cap : Nat} {l : List Ed} (hb : Below w.heap.size w w') (h : OwnE w' w.heap.size (.slice a l.length cap) l) : EdsX Ex w' a l := by
  have h9 := h
  rcases h.2 with ⟨e, h0⟩ | ⟨g, c, cur, e, hbg, hg, _⟩
  · exact .inl (List.length_eq_zero_iff.1 h0)
  · simp only [Value.slice.injEq] at e
    obtain ⟨rfl, -, rfl⟩ := e
    refine .inr ⟨g, 0, rfl, (Array.getElem?_eq_some_iff.1 hg).1, fun q => ?_, fun j u hj => ?_⟩
    · have := hv g (X.below w w' hBo hb g q); omega
    · have hj2 : j < l.length * 3 := by have := (List.getElem?_eq_some_iff.1 hj).1; rw [el_len] at this; exact this
      rw [Nat.zero_add]
      have := h9.cellAt j (by omega)
      rw [this]; exact hj
set_option maxRecDepth 100000 in
set_option maxHeartbeats 1000000 in
theorem edgesIn2_in (Bo : Nat) (Ex : World → Nat → Prop) (X : ExOk Bo Ex) (M : Nat) (hM : M = 32) (n0 : Nat) (hn0 : 1 ≤ n0) (n : Nat) (R : Nat → Hp) (cm : List Int) (a ca : Option Addr) (cap cc l Bh Bc : Nat) (hn : n ≤ 400) (hhi : hiF R n = 0) (hl : cm.length ≤ 400) (J Jx : List Ed → World → Prop) (W : World) (hJ : AbidesFrom W.heap.size J)
    (hY : ∀ pre x W1, x ∈ eI R n cm M → J pre W1 → pre.length < (eI R n cm M).length → YieldAt Fence.wide (n0 - 1) Try.prog l (encE x) W1 fun e W' => (e = .returned (.bool true) ∧ J (pre ++ [x]) W' ∧ KE Bo Ex W1 W') ∨ (e = .returned (.bool false) ∧ Jx (pre ++ [x]) W'))
    (hBh : W.cell? ⟨Bh, 0, none⟩ = some (.slice a n cap)) (hBc : W.cell? ⟨Bc, 0, none⟩ = some (.slice ca cm.length cc)) (hBo : Bo < W.heap.size) (hV : ∀ b, Ex W b → b < W.heap.size) (hXh : ¬ Ex W Bh) (hXc : ¬ Ex W Bc) (h : HopsX Ex W a n R) (hi : IntsX Ex W ca cm.length (zI cm)) (h0 : J [] W) :
    CallsIn Fence.wide n0 Try.prog 62 #[.func (.yield l) #[] #[], .pointer (some ⟨Bh, 0, none⟩), .pointer (some ⟨Bc, 0, none⟩)] W (SPost (eI R n cm M) J Jx) := by
  have HM : Hid (M = 32) := hM
  clear hM
  have HAL : Hid (∀ y : Int, (eA R n cm y).length ≤ 100000) := fun y => eA_len R n cm y hn hl
  have hF : Fence.wide.fn 63 := trivial
  have HX : Hid (HopsX Ex W a n R) := h
  have HI : Hid (IntsX Ex W ca cm.length (zI cm)) := hi
  have HV : Hid ((∀ b, Ex W b → b < W.heap.size) ∧ Bo < W.heap.size ∧ ¬ Ex W Bh ∧ ¬ Ex W Bc) := ⟨hV, hBo, hXh, hXc⟩
  have HEA : Hid (∀ (y : Nat) m wv, HopsAt wv a n R → IntsAt wv ca cm.length (zI cm) → CallsIn Fence.wide m Try.prog 63 #[.slice a n cap, .slice ca cm.length cc, .int .i64 (y : Int)] wv (ERs (eA R n cm (y : Int)) wv)) := fun y m wv h1 h2 => callsIn_wide.2 (edgesAt_any n R cm a ca cap cc (y : Int) wv hn hhi hl h1 h2)
  have HJ : Hid (AbidesFrom W.heap.size J) := hJ
  have HY : Hid (∀ pre x W1, x ∈ eI R n cm M → J pre W1 → pre.length < (eI R n cm M).length → YieldAt Fence.wide (n0 - 1) Try.prog l (encE x) W1 fun e W' => (e = .returned (.bool true) ∧ J (pre ++ [x]) W' ∧ KE Bo Ex W1 W') ∨ (e = .returned (.bool false) ∧ Jx (pre ++ [x]) W')) := hY
  have HCE : Hid (W.cell? ⟨Bh, 0, none⟩ = some (.slice a n cap) ∧ W.cell? ⟨Bc, 0, none⟩ = some (.slice ca cm.length cc)) := ⟨hBh, hBc⟩
  clear h hi hJ hY hhi hl hBh hBc hV hBo hXh hXc
  refine callsIn_of_wp Try.func62 rfl trivial ?_ rfl
  simp only [Try.ntmps62, List.size_toArray, List.length_cons, List.length_nil, Nat.reduceAdd, Nat.reduceSub, Array.replicate_succ, Array.replicate_zero, List.push_toArray, List.append_toArray, List.nil_append, List.cons_append]
  gi_wp2_with fail
  gi_loopw [4, 6, 7, 15] (fun _ _ i _ wr => ∃ y : Nat, y ≤ 32 ∧ i = .int .i64 y ∧ Hid (J (eI R n cm y) wr) ∧ Hid (KE Bo Ex W wr)) (fun _ _ i _ _ => 32 - (intOf i).toNat)
  case atStart => exact ⟨0, Nat.zero_le _, rfl, h0, KE.refl _ _ _⟩
  case round =>
    obtain ⟨y, hy, rfl, HJs, HK⟩ := hrel
    by_cases hlt : y < 32
    · have hlt' : (y : Int) < 32 := by omega
      have c1 := HK.out.same _ _ _ HV.out.2.2.1 HCE.out.1
      have c2 := HK.out.same _ _ _ HV.out.2.2.2 HCE.out.2
      gi_wp2_with (gi_at_call 63; refine (HEA.out y _ wr (HX.out.kc HK.out).at (HI.out.kc HK.out).at).mono ?_; rintro e w2 ⟨u, rfl, hb2, ho2⟩; obtain ⟨ua, uc, rfl⟩ := rowE_slice ho2)
      have HJ2 : Hid (J (eI R n cm y ++ (eA R n cm (y : Int)).take 0) w2) := by
        show J _ _
        rw [List.take_zero, List.append_nil]
        exact HJ.out _ _ _ none HJs.out (grown_of hb2) (fun r e => by cases e)
      have hBoR := HK.out.bo HV.out.2.1
      have HK2 : Hid (KE Bo Ex W w2) := HK.out.trans (KE.of X hBoR hb2)
      have HE2 : Hid (EdsX Ex w2 ua (eA R n cm (y : Int))) := edsX_new X hBoR (HK.out.lt HV.out.1) hb2 ho2
      have HLE : Hid ((eI R n cm y).length + (eA R n cm (y : Int)).length ≤ (eI R n cm M).length) := by
        have h := eI_le R n cm (y := y + 1) (m := M) (by rw [HM.out]; omega)
        have h2 : (eI R n cm (y + 1)).length = (eI R n cm y ++ eA R n cm (y : Int)).length := rfl
        rw [h2, List.length_append] at h
        exact h
      have HEND : Hid (eI R n cm y ++ eA R n cm (y : Int) = eI R n cm (y + 1)) := rfl
      have hes := HAL.out (y : Int)
      have HSUB : Hid (∀ e ∈ eI R n cm y ++ eA R n cm (y : Int), e ∈ eI R n cm M) := fun e he => eI_sub R n cm (y := y + 1) he (by rw [HM.out]; omega)
      clear hb2 ho2 HJs HK c1 c2 hBoR
      generalize eA R n cm (y : Int) = es at *
      gi_loopw [6, 15] (fun _ i wr => ∃ k : Nat, k ≤ es.length ∧ i = .int .i64 k ∧ Hid (J (eI R n cm y ++ es.take k) wr) ∧ Hid (KE Bo Ex W wr) ∧ Hid (EdsX Ex wr ua es)) (fun _ i _ => es.length - (intOf i).toNat)
      case atStart => exact ⟨0, Nat.zero_le _, rfl, HJ2, HK2, HE2⟩
      case round =>
        clear HJ2 HK2 HE2
        obtain ⟨k, hk, rfl, HJs, HK, HE⟩ := hrel
        by_cases hlt2 : k < es.length
        · have hlt2' : (k : Int) < (es.length : Int) := by omega
          have hk0 : (0 : Int) ≤ (k : Int) := by omega
          rcases HE.out with h | ⟨b, off, rfl, hbl, hxx, hcc⟩
          · rw [h] at hlt2; simp at hlt2
          obtain ⟨e0, e1, e2⟩ := el_at es k hlt2
          have x0 := hcc _ _ e0
          have x1 := hcc _ _ e1
          have x2 := hcc _ _ e2
          rw [← Nat.add_assoc] at x1 x2
          have HTK : Hid (es.take (k + 1) = es.take k ++ [eE es k]) := take_ed hlt2
          have hlen : (eI R n cm y ++ es.take k).length < (eI R n cm M).length := by
            have := HLE.out
            rw [List.length_append, List.length_take]; omega
          have HMEM : Hid (eE es k ∈ eI R n cm M) := HSUB.out _ (List.mem_append.2 (.inr (eE_mem0 hlt2)))
          clear hcc e0 e1 e2
          generalize eE es k = ed at *
          have hJa := HJ.out _ _ _ none HJs.out (World.grownBy_alloc wr (.cells #[.int .i64 ed.f, .int .i64 ed.t, .int .i64 ed.k] 61) none) (fun r e => by cases e)
          obtain ⟨fn, tmps, assign, body, hy9, hR⟩ := HY.out _ ed _ HMEM.out hJa hlen
          simp only [encE] at hy9
          have HKN : Hid (KE Bo Ex wr (wr.alloc (.cells #[.int .i64 ed.f, .int .i64 ed.t, .int .i64 ed.k] 61))) := KE.of X (HK.out.bo HV.out.2.1) (below_new _ _)
          have HKA : Hid (KE Bo Ex W (wr.alloc (.cells #[.int .i64 ed.f, .int .i64 ed.t, .int .i64 ed.k] 61))) := HK.out.trans HKN.out
          have HEA2 : Hid (EdsX Ex (wr.alloc (.cells #[.int .i64 ed.f, .int .i64 ed.t, .int .i64 ed.k] 61)) (some ⟨b, off, none⟩) es) := HE.out.kc HKN.out
          clear hJa HJs hlen HK HE HKN hxx
          gi_wp2_with fail
          refine hR.mono ?_
          rintro e W3 (⟨rfl, hJ3, hk3⟩ | ⟨rfl, hJx3⟩)
          · have HJ3 : Hid (J (eI R n cm y ++ es.take (k + 1)) W3) := by show J _ _; rw [HTK.out, ← List.append_assoc]; exact hJ3
            have HK3 : Hid (KE Bo Ex W W3) := HKA.out.trans hk3
            have HE3 : Hid (EdsX Ex W3 (some ⟨b, off, none⟩) es) := HEA2.out.kc hk3
            clear hJ3 hk3 HKA HEA2
            gi_wp2_with fail
            go_roundw
            case rel => exact ⟨k + 1, hlt2, by go_num, HJ3, HK3, HE3⟩
            case measure => simp [intOf]; omega
          · gi_wp2_with fail
            refine bodyPost_ret (results_none rfl _ _ _) rfl ?_
            refine (⟨⟨_, rfl⟩, .inr ⟨_, fun e he => HSUB.out e ?_, hJx3⟩⟩ : SPost _ _ _ _ _)
            rw [List.append_assoc, ← HTK.out, List.mem_append] at he
            rw [List.mem_append]
            rcases he with he | he
            · exact .inl he
            · exact .inr (List.mem_of_mem_take he)
        · have hkn : k = es.length := by omega
          have hnl : ¬ ((k : Int) < (es.length : Int)) := by omega
          have HJ3 : Hid (J (eI R n cm (y + 1)) wr) := by have h := HJs.out; rw [hkn, List.take_length, HEND.out] at h; exact h
          clear HJs hkn
          gi_wp2_with fail
          go_roundw
          case rel => exact ⟨y + 1, hlt, by go_num, HJ3, HK⟩
          case measure => simp [intOf]; omega
    · have hkn : y = 32 := by omega
      have hnl : ¬ ((y : Int) < 32) := by omega
      have HJ3 : Hid (J (eI R n cm M) wr) := by have h := HJs.out; rw [HM.out, ← hkn]; exact h
      clear hkn
      gi_wp2_with fail
      go_end0
      exact (⟨⟨_, rfl⟩, .inl ⟨_, rfl, HJ3.out⟩⟩ : SPost _ _ _ _ _)
theorem HopsX.below {Bo : Nat} {Ex : World → Nat → Prop} (X : ExOk Bo Ex) {w w' : World} (hBo : Bo < w.heap.size) {a : Option Addr} {n : Nat} {R : Nat → Hp} (h : HopsX Ex w a n R) (hb : Below w.heap.size w w') : HopsX Ex w' a n R := h.kc (KE.of X hBo hb)
theorem edgesIn_stops2 (Bo : Nat) (Ex : World → Nat → Prop) (X : ExOk Bo Ex) (M : Nat) (hM : M = 32) (n0 : Nat) (hn0 : 1 ≤ n0) (n : Nat) (R : Nat → Hp) (cm : List Int) (a ca : Option Addr) (cap cc Bh Bc : Nat) (hn : n ≤ 400) (hhi : hiF R n = 0) (hl : cm.length ≤ 400) (w : World) (hB1 : Bh < w.heap.size) (hB2 : Bc < w.heap.size)
    (hBh : w.cell? ⟨Bh, 0, none⟩ = some (.slice a n cap)) (hBc : w.cell? ⟨Bc, 0, none⟩ = some (.slice ca cm.length cc)) (hBo : Bo < w.heap.size) (hV : ∀ b, Ex w b → b < w.heap.size) (hXh : ¬ Ex w Bh) (hXc : ¬ Ex w Bc) (h : HopsX Ex w a n R) (hi : IntsX Ex w ca cm.length (zI cm)) :
    SeqStopsK Fence.wide n0 Try.prog 62 #[.pointer (some ⟨Bh, 0, none⟩), .pointer (some ⟨Bc, 0, none⟩)] encE (KE Bo Ex) (fun ys => ys = eI R n cm M) (fun pre => ∀ e ∈ pre, e ∈ eI R n cm M) (eI R n cm M).length w := fun l J Jx W hW hJ hJx hY h0 => by
  have k := KE.of X hBo hW
  exact edgesIn2_in Bo Ex X M hM n0 hn0 n R cm a ca cap cc l Bh Bc hn hhi hl J Jx W hJ (fun pre x W1 _ => hY pre x W1) (cell_below hBh hW) (cell_below hBc hW) (k.bo hBo) (k.lt hV) (not_ex k hB1 hXh) (not_ex k hB2 hXc) (h.kc k) (hi.kc k) h0
/-- The same for edges that are told to be of the history. -/
theorem edgesIn_stopsW (Bo : Nat) (Ex : World → Nat → Prop) (X : ExOk Bo Ex) (M : Nat) (hM : M = 32) (n0 : Nat) (hn0 : 1 ≤ n0) (n : Nat) (R : Nat → Hp) (cm : List Int) (a ca : Option Addr) (cap cc Bh Bc : Nat) (hn : n ≤ 400) (hhi : hiF R n = 0) (hl : cm.length ≤ 400) (w : World) (hB1 : Bh < w.heap.size) (hB2 : Bc < w.heap.size)
    (hBh : w.cell? ⟨Bh, 0, none⟩ = some (.slice a n cap)) (hBc : w.cell? ⟨Bc, 0, none⟩ = some (.slice ca cm.length cc)) (hBo : Bo < w.heap.size) (hV : ∀ b, Ex w b → b < w.heap.size) (hXh : ¬ Ex w Bh) (hXc : ¬ Ex w Bc) (h : HopsX Ex w a n R) (hi : IntsX Ex w ca cm.length (zI cm)) :
    SeqStopsK Fence.wide n0 Try.prog 62 #[.pointer (some ⟨Bh, 0, none⟩), .pointer (some ⟨Bc, 0, none⟩)] (fun x : { e : Ed // e ∈ eI R n cm M } => encE x.1) (KE Bo Ex) (fun ys => ys.map (fun x => x.1) = eI R n cm M) (fun _ => True) (eI R n cm M).length w := fun l J Jx W hW hJ hJx hY h0 => by
  have k := KE.of X hBo hW
  refine (edgesIn2_in Bo Ex X M hM n0 hn0 n R cm a ca cap cc l Bh Bc hn hhi hl (fun l' W' => ∃ l2, l2.map (fun x : { e : Ed // e ∈ eI R n cm M } => x.1) = l' ∧ J l2 W') (fun l' W' => ∃ l2, l2.map (fun x : { e : Ed // e ∈ eI R n cm M } => x.1) = l' ∧ Jx l2 W') W ?_ ?_ (cell_below hBh hW) (cell_below hBc hW) (k.bo hBo) (k.lt hV) (not_ex k hB1 hXh) (not_ex k hB2 hXc) (h.kc k) (hi.kc k) ⟨[], rfl, h0⟩).mono ?_
  · rintro s A B row ⟨l2, e, hs⟩ hg hr
    exact ⟨l2, e, hJ l2 A B row hs hg hr⟩
  · rintro pre x W1 hx ⟨l2, e, hs⟩ hlen
    have hlen2 : l2.length < (eI R n cm M).length := by rw [← e, List.length_map] at hlen; exact hlen
    refine (hY l2 ⟨x, hx⟩ W1 hs hlen2).mono ?_
    rintro en W' (⟨rfl, h1, h2⟩ | ⟨rfl, h1⟩)
    · exact .inl ⟨rfl, ⟨l2 ++ [⟨x, hx⟩], by simp [e], h1⟩, h2⟩
    · exact .inr ⟨rfl, ⟨l2 ++ [⟨x, hx⟩], by simp [e], h1⟩⟩
  · rintro en W' ⟨hv, (⟨ys, rfl, l2, e, hj⟩ | ⟨pre, _, l2, e, hj⟩)⟩
    · exact ⟨hv, .inl ⟨l2, e, hj⟩⟩
    · exact ⟨hv, .inr ⟨l2, trivial, hj⟩⟩
end Go.Proofs.Ytnmmnhfgkcdajaa
