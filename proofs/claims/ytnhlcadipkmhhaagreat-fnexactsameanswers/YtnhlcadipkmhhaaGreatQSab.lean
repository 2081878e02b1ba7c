/- SameAnswers: impl.openOf: the open transactions in a row. -/
import Derived.Test.YtnhlcadipkmhhaaGreatQSaa
import Derived.Test.YtnhlcadipkmhhaaGreatQEgt
namespace Go.Proofs.YtnhlcadipkmhhaaGreat
open Go.RowKit Go.Deep
set_option linter.unusedVariables false
set_option maxRecDepth 20000

/-- A row of transactions, whatever their undos are. -/
def OxAt (w : World) (a : Option Addr) (n : Nat) (X : Nat → Tx) : Prop :=
  n = 0 ∨ ∃ b off, a = some ⟨b, off, none⟩ ∧ b < w.heap.size ∧ ∀ i, i < n → ∃ ai ci, CTx w b (off + i * 5) (X i) ai ci
theorem OxAt.below {w w' : World} {a : Option Addr} {n : Nat} {X : Nat → Tx} (h : OxAt w a n X) (hb : Below w.heap.size w w') : OxAt w' a n X := by
  rcases h with h | ⟨b, off, ha, hl, hc⟩
  · exact .inl h
  · refine .inr ⟨b, off, ha, Nat.lt_of_lt_of_le hl hb.size, fun i hi => ?_⟩
    obtain ⟨ai, ci, h⟩ := hc i hi
    exact ⟨ai, ci, h.block (hb.block _ hl)⟩
theorem ox_of_row {w : World} {base n : Nat} {v : Value} {X : Nat → Tx} {A : Nat → Option Addr} {c : Nat → Nat} (h : w.ownsRow base 64 5 v n (rbTx X A c n)) : ∃ a cap, v = .slice a n cap ∧ OxAt w a n X := by
  rcases h.2 with ⟨rfl, h0⟩ | ⟨g, cap, cur, rfl, hbg, hg, _⟩
  · exact ⟨none, 0, by rw [h0], .inl h0⟩
  · have hlt : g < w.heap.size := by
      obtain ⟨hlt, _⟩ := Array.getElem?_eq_some_iff.1 hg
      exact hlt
    have hc : ∀ i j u, i < n → j < 5 → (rcTx (X i) (A i) (c i))[j]? = some u → w.cell? ⟨g, 0 + i * 5 + j, none⟩ = some u := fun i j u hi hj hu => by
      rw [Nat.zero_add, h.cellAt (i * 5 + j) (by omega), rbTx_get X A c n i j hi hj, hu]
    refine ⟨some ⟨g, 0, none⟩, cap, rfl, .inr ⟨g, 0, rfl, hlt, fun i hi => ⟨A i, c i, ?_⟩⟩⟩
    exact ⟨hc i 0 _ hi (by omega) rfl, hc i 1 _ hi (by omega) rfl, hc i 2 _ hi (by omega) rfl, hc i 3 _ hi (by omega) rfl, hc i 4 _ hi (by omega) rfl⟩
theorem wp_appX {o : Oper} {a : Act} {Kc : Act → World → Prop} {Q : Exit → Act → World → Prop} (w : World) (s x : Operand)
    (ho : o.op = .call { callee := .builtin .append, args := #[s, x], argTypes := #[28, 28] })
    (base : Nat) (v : Value) (n : Nat) (X : Nat → Tx) (A : Nat → Option Addr) (c : Nat → Nat) (hs : a.eval s = v) (hown : w.ownsRow base 64 5 v n (rbTx X A c n)) (Y cx : Nat) (t : Tx) (ai : Option Addr) (ci : Nat) (hx : a.eval x = .slice (some ⟨Y, 0, none⟩) 1 cx) (hC : CTx w Y 0 t ai ci) (hb : base ≤ w.heap.size) (hl : n ≤ 100000)
    (hK : ∀ v' w', w'.ownsRow base 64 5 v' (n + 1) (rbTx (upf X n t) (upf A n ai) (upf c n ci) (n + 1)) → w.grownBy w' v.ownBlock → Kc (a.put o.dst v') w') : o.wp Tryz.prog a w Kc Q := by
  obtain ⟨i0, hi, hz0, hz1, hz2⟩ := info_parts2 infoTx
  refine wp_append_own w s x 28 ho base 64 i0 _ 5 56 Tryz.underlying28 hi hz0 hz1 hz2 rfl (by decide) v n (rbTx X A c n) hs hown ⟨Y, 0, none⟩ 1 cx (rcTx t ai ci) hx rfl (fun j u hju => ?_) (rcTx_one _ _ _) (by unfold maxLen; omega) (by omega) hb fun v' w' h2 h3 _ => hK v' w' ?_ h3
  · obtain ⟨h0, h1, h2, h3, h4⟩ := hC
    rw [WideShapes.add_plain]
    have hd : j < 5 := by have := (List.getElem?_eq_some_iff.1 hju).1; simpa [rcTx] using this
    have hd2 : j = 0 ∨ j = 1 ∨ j = 2 ∨ j = 3 ∨ j = 4 := by omega
    rcases hd2 with rfl | rfl | rfl | rfl | rfl
    · rw [← hju]; exact h0
    · rw [← hju]; exact h1
    · rw [← hju]; exact h2
    · rw [← hju]; exact h3
    · rw [← hju]; exact h4
  · have e : rbTx (upf X n t) (upf A n ai) (upf c n ci) (n + 1) = rbTx X A c n ++ rcTx t ai ci := by
      rw [rbTx, upf_eq, upf_eq, upf_eq]
      congr 1
      exact rbTx_congr n fun i hi => ⟨upf_ne _ _ (by omega), upf_ne _ _ (by omega), upf_ne _ _ (by omega)⟩
    rw [e]
    exact h2
theorem wpList_appX {ops : Array Oper} {rest : List Oper} {o : Oper} {a : Act} {Q : Exit → Act → World → Prop} (w : World) (hgd : o.guard = none) (s x : Operand)
    (ho : o.op = .call { callee := .builtin .append, args := #[s, x], argTypes := #[28, 28] })
    (base : Nat) (v : Value) (n : Nat) (X : Nat → Tx) (A : Nat → Option Addr) (c : Nat → Nat) (hs : a.eval s = v) (hown : w.ownsRow base 64 5 v n (rbTx X A c n)) (Y cx : Nat) (t : Tx) (ai : Option Addr) (ci : Nat) (hx : a.eval x = .slice (some ⟨Y, 0, none⟩) 1 cx) (hC : CTx w Y 0 t ai ci) (hb : base ≤ w.heap.size) (hl : n ≤ 100000)
    (hK : ∀ v' w', w'.ownsRow base 64 5 v' (n + 1) (rbTx (upf X n t) (upf A n ai) (upf c n ci) (n + 1)) → w.grownBy w' v.ownBlock → wpList Tryz.prog ops Q rest (a.put o.dst v') w') : wpList Tryz.prog ops Q (o :: rest) a w :=
  wpList_plain hgd fun _ hKK => wp_appX w s x ho base v n X A c hs hown Y cx t ai ci hx hC hb hl fun v' w' h2 h3 => hKK _ _ (hK v' w' h2 h3)
/-- The list of the first k under way. -/
def OtR (w : World) (base : Nat) (v : Value) (T : Nat → Tx) (k : Nat) : Prop := ∃ A c, w.ownsRow base 64 5 v (otX T k).length (rbTx (fun i => (otX T k).getD i zTx) A c (otX T k).length)
theorem OtR.below {w w' : World} {base : Nat} {v : Value} {T : Nat → Tx} {k : Nat} (h : OtR w base v T k) (hb : Below w.heap.size w w') : OtR w' base v T k := by
  obtain ⟨A, c, h⟩ := h
  exact ⟨A, c, own_belowI h hb⟩
theorem OtR.skip {w : World} {base : Nat} {v : Value} {T : Nat → Tx} {k : Nat} (h : OtR w base v T k) (hs : (T k).st ≠ 1) : OtR w base v T (k + 1) := by
  unfold OtR
  rw [show otX T (k + 1) = otX T k from if_neg hs]
  exact h
theorem OtR.step {w : World} {base : Nat} {v : Value} {T : Nat → Tx} {k : Nat} (hs : (T k).st = 1) {A : Nat → Option Addr} {c : Nat → Nat} (h : w.ownsRow base 64 5 v ((otX T k).length + 1) (rbTx (upf (fun i => (otX T k).getD i zTx) (otX T k).length (T k)) A c ((otX T k).length + 1))) : OtR w base v T (k + 1) := by
  unfold OtR
  have e : otX T (k + 1) = otX T k ++ [T k] := if_pos hs
  refine ⟨A, c, ?_⟩
  rw [e, List.length_append]
  have e2 : rbTx (fun i => (otX T k ++ [T k]).getD i zTx) A c ((otX T k).length + 1) = rbTx (upf (fun i => (otX T k).getD i zTx) (otX T k).length (T k)) A c ((otX T k).length + 1) := by
    refine rbTx_congr _ fun i hi => ⟨?_, rfl, rfl⟩
    by_cases he : i = (otX T k).length
    · subst he
      rw [upf_eq]
      simp
    · rw [upf_ne _ _ he]
      have hi2 : i < (otX T k).length := by omega
      simp only [List.getD_eq_getElem?_getD]
      rw [List.getElem?_append_left hi2]
  exact e2 ▸ h
theorem isOpenX_any (t : Tx) (ai : Option Addr) (ci : Nat) (w : World) :
    Calls Tryz.prog 78 #[.agg #[.int .i64 t.id, .int .i64 t.am, .int .i64 t.st, .int .i64 t.dn, .slice ai t.n ci]] w fun e w' => e = .returned (.bool (t.st == 1)) ∧ Below w.heap.size w w' := by
  go_enter Tryz.func78, Tryz.ntmps78
  go_wp2_with fail
  go_ret
  exact ⟨rfl, below_new _ _⟩
def OxR (E : En) (w : World) (e : Ending) (w' : World) : Prop := ∃ va vc, e = .returned (.slice va (oN E) vc) ∧ Below w.heap.size w w' ∧ OxAt w' va (oN E) (oX E)
set_option maxHeartbeats 8000000 in
theorem openOf_any (E : En) (a : Option Addr) (cap : Nat) (a' : Option Addr) (cap' : Nat) (w : World) (hp : E.p ≤ 20) (h : EngAt w a a' E) :
    Calls Tryz.prog 40 #[.agg #[.int .i64 E.nx, .int .i64 E.ck, .slice a E.p cap, .slice a' E.q cap']] w (OxR E w) := by
  have HX : Hid (TxsAt w a E.p E.T) := h.1
  clear h
  go_enter Tryz.func40, Tryz.ntmps40
  go_wp2_with fail
  obtain ⟨W, hW⟩ : ∃ y, y = w.alloc (.cells #[.int .i64 E.nx, .int .i64 E.ck, .slice a E.p cap, .slice a' E.q cap'] 31) := ⟨_, rfl⟩
  rw [← hW]
  have HBW : Hid (Below w.heap.size w W) := by rw [hW]; exact below_new _ _
  clear hW
  go_loopw [3, 5, 9] (fun v _ i wr => ∃ k : Nat, k ≤ E.p ∧ i = .int .i64 k ∧ Hid (Below W.heap.size W wr) ∧ Hid (OtR wr W.heap.size v E.T k)) (fun _ _ i _ => E.p - (intOf i).toNat)
  case atStart => exact ⟨0, Nat.zero_le _, rfl, Below.refl _ _, fun _ => none, fun _ => 0, World.ownsRow_nil _ _ _ _⟩
  case round =>
    obtain ⟨k, hk, rfl, HB, HO⟩ := hrel
    by_cases hlt : k < E.p
    · have hlt' : (k : Int) < (E.p : Int) := by omega
      have hk0 : (0 : Int) ≤ (k : Int) := by omega
      rcases HX.out.below (below_then HBW.out HB.out) with h | ⟨bb, off, rfl, hl, hcc⟩
      · omega
      obtain ⟨ti, tc, ⟨x0, x1, x2, x3, x4⟩, -, -⟩ := hcc k hlt
      have hszr := HB.out.size
      have HN : Hid (∀ o, o = .cells #[.int .i64 (E.T k).id, .int .i64 (E.T k).am, .int .i64 (E.T k).st, .int .i64 (E.T k).dn, .slice ti (E.T k).n tc] 64 → CTx (wr.alloc o) wr.heap.size 0 (E.T k) ti tc) := by
        rintro o rfl
        simp [CTx, go_sem]
      clear hcc
      by_cases hst : (E.T k).st = 1
      · have HST : Hid ((E.T k).st = 1) := hst
        have hst2 : ((E.T k).st == 1) = true := by simp [hst]
        have HLK : Hid ((otX E.T k).length ≤ 100000) := by have := otX_len E.T k; show _ ≤ _; omega
        clear hst
        go_wp2_with fail
        refine (isOpenX_any (E.T k) ti tc _).mono ?_
        rintro e w2 ⟨rfl, hb2⟩
        have HB2 : Hid (Below wr.heap.size wr w2) := below_then (below_new _ _) hb2
        obtain ⟨y0, y1, y2, y3, y4⟩ := (HN.out _ rfl).block (hb2.block _ (by simp))
        rw [Nat.zero_add] at y1 y2 y3 y4
        obtain ⟨A, c, hO⟩ := HO.out
        have HOA : Hid (∀ o1 : Obj, (w2.alloc o1).ownsRow W.heap.size 64 5 _ (otX E.T k).length (rbTx (fun i => (otX E.T k).getD i zTx) A c (otX E.T k).length)) := fun o1 => own_belowI (own_belowI hO HB2.out) (below_new _ _)
        have HN2 : Hid (∀ o, o = .cells #[.int .i64 (E.T k).id, .int .i64 (E.T k).am, .int .i64 (E.T k).st, .int .i64 (E.T k).dn, .slice ti (E.T k).n tc] 64 → CTx (w2.alloc o) w2.heap.size 0 (E.T k) ti tc) := by
          rintro o rfl
          simp [CTx, go_sem]
        have hsz2 := HB2.out.size
        clear hb2 x0 x1 x2 x3 x4 hO
        rw [hst2]
        go_wp2_with (at_builtin; refine wpList_appX _ rfl (.tmp 15) (.tmp 17) rfl W.heap.size _ (otX E.T k).length (fun i => (otX E.T k).getD i zTx) A c rfl (HOA.out _) w2.heap.size 1 (E.T k) ti tc rfl (HN2.out _ rfl) (by simp; omega) HLK.out ?_)
        intro v2 w3 ho3 hg3
        have HB3 : Hid (Below W.heap.size W w3) := by
          refine (below_then HB.out (below_then HB2.out (below_new _ _))).grown hg3 (by simp; omega) fun q hq => ?_
          exact ((HOA.out (.cells #[.int .i64 (E.T k).id, .int .i64 (E.T k).am, .int .i64 (E.T k).st, .int .i64 (E.T k).dn, .slice ti (E.T k).n tc] 64)).lt q hq).1
        have HO3 : Hid (OtR w3 W.heap.size v2 E.T (k + 1)) := OtR.step HST.out ho3
        clear ho3 hg3 HOA HN HN2 HO HB HB2 y0 y1 y2 y3 y4
        go_wp2_with fail
        go_roundw
        case rel => exact ⟨k + 1, hlt, by go_num, HB3, HO3⟩
        case measure => simp [intOf]; omega
      · have HST : Hid ((E.T k).st ≠ 1) := hst
        have hst2 : ((E.T k).st == 1) = false := by simp [hst]
        clear hst
        go_wp2_with fail
        refine (isOpenX_any (E.T k) ti tc _).mono ?_
        rintro e w2 ⟨rfl, hb2⟩
        have HB2 : Hid (Below wr.heap.size wr w2) := below_then (below_new _ _) hb2
        have HO3 : Hid (OtR w2 W.heap.size _ E.T (k + 1)) := (HO.out.below HB2.out).skip HST.out
        have HB3 : Hid (Below W.heap.size W w2) := below_then HB.out HB2.out
        clear hb2 x0 x1 x2 x3 x4 HN HO
        rw [hst2]
        go_wp2_with fail
        go_roundw
        case rel => exact ⟨k + 1, hlt, by go_num, HB3, HO3⟩
        case measure => simp [intOf]; omega
    · have hkn : k = E.p := by omega
      have hnl : ¬ ((k : Int) < (E.p : Int)) := by omega
      obtain ⟨A, c, hO⟩ := HO.out
      obtain ⟨va, vc, rfl, hox⟩ := ox_of_row hO
      have HF : Hid (Below w.heap.size w wr ∧ OxAt wr va (oN E) (oX E)) := by
        refine ⟨below_then HBW.out HB.out, ?_⟩
        rw [hkn] at hox
        exact hox
      have HL : Hid ((otX E.T k).length = oN E) := by rw [hkn]; rfl
      clear HO hO hox hkn HB
      generalize (otX E.T k).length = len at *
      go_wp2_with fail
      go_ret
      exact ⟨va, vc, by rw [HL.out] <;> rfl, HF.out.1, HF.out.2⟩
end Go.Proofs.YtnhlcadipkmhhaaGreat
