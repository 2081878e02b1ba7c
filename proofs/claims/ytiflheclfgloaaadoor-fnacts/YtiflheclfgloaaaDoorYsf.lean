/- The model cuts a line: l15Cut, l15Words. -/
import Derived.Test.YtiflheclfgloaaaDoorYsc
import Derived.Test.YtiflheclfgloaaaDoorBox
namespace Go.Proofs.YtiflheclfgloaaaDoor
open Go.RowKit Go.Deep
set_option linter.unusedVariables false
set_option maxRecDepth 20000

theorem wpList_appS {ops : Array Oper} {rest : List Oper} {o : Oper} {a : Act} {Q : Exit → Act → World → Prop} (w : World) (hgd : o.guard = none) (s x : Operand)
    (ho : o.op = .call { callee := .builtin .append, args := #[s, x], argTypes := #[42, 42] })
    (base : Nat) (v : Value) (L : List ByteArray) (hs : a.eval s = v) (hown : w.ownsRow base 9 1 v L.length (svl L)) (b : Nat) (y : ByteArray) (hx : a.eval x = .slice (some ⟨b, 0, none⟩) 1 1)
    (hc : w.cell? ⟨b, 0, none⟩ = some (.string y)) (hl : L.length ≤ 2000000) (hbase : base ≤ w.heap.size)
    (h : ∀ v' w', w'.ownsRow base 9 1 v' (L ++ [y]).length (svl (L ++ [y])) → w.grownBy w' v.ownBlock → (∀ q, v'.ownBlock = some q → v.ownBlock = some q ∨ q = w.heap.size) → wpList Tryd.prog ops Q rest (a.put o.dst v') w') : wpList Tryd.prog ops Q (o :: rest) a w := by
  obtain ⟨i0, hi, hz0, hz1, hz2⟩ := info_partsY info9
  refine wpList_plain hgd fun _ hK => wp_append_lies w s x 42 ho base 9 i0 _ 1 16 Tryd.underlying42 hi hz0 hz1 hz2 rfl (by decide) v L.length (svl L) hs hown ⟨b, 0, none⟩ 1 1 [.string y] hx rfl ?_ (one_str _) (by omega) (by unfold maxLen; omega) (by omega) hbase _ rfl fun g cap w' h2 h3 h4 h5 => hK _ _ (h _ w' ?_ h3 fun q hq => ?_)
  · intro j u hj
    cases j with
    | zero => simp at hj; subst hj; rw [WideShapes.add_plain]; exact hc
    | succ j => simp at hj
  · rw [svl_app, List.length_append]
    exact h2
  · simp only [Value.ownBlock, Option.some.injEq] at hq
    subst hq
    exact h4
theorem cell_lit (w : World) (y : Value) (t : TypeId) : (w.alloc (.cells #[y] t)).cell? ⟨w.heap.size, 0, none⟩ = some y := by simp
theorem own_litS (w : World) : (w.alloc (.cells #[] 9)).ownsRow w.heap.size 9 1 (.slice (some ⟨w.heap.size, 0, none⟩) 0 0) ([] : List ByteArray).length (svl []) :=
  World.ownsRow_made w #[] (e := 9) (size := 1) (base := w.heap.size) 0 (Nat.le_refl _) (by unfold maxLen; omega) rfl
set_option maxHeartbeats 1000000 in
theorem l15Cut_any (s : ByteArray) (c : Int) (w : World) (hn : s.size ≤ 1048576) :
    Calls Tryd.prog 42 #[.string s, .int .u8 c] w fun e w' => ∃ v, e = .returned v ∧ Below w.heap.size w w' ∧ w'.ownsRow w.heap.size 9 1 v (pcs s c 0 0).length (svl (pcs s c 0 0)) := by
  have H0 := own_litS w
  have HL0 : Hid (∀ (f i : Nat) (O : List ByteArray), O ++ pcs s c f i = pcs s c 0 0 → O.length ≤ 1048577) := by
    intro f i O h
    have h1 := congrArg List.length h
    have h2 : (pcs s c 0 0).length ≤ s.size + 1 := pc_len s c (s.size - 0) 0 0
    rw [List.length_append] at h1
    omega
  go_enter Tryd.func42, Tryd.ntmps42
  go_wp2_with fail
  go_loopw [5, 6, 7] (fun v f i wr => ∃ (k f0 : Nat) (O : List ByteArray), k ≤ s.size + 1 ∧ f0 ≤ k ∧ i = .int .i64 k ∧ f = .int .i64 f0 ∧ Hid (Below w.heap.size w wr) ∧ Hid (wr.ownsRow w.heap.size 9 1 v O.length (svl O)) ∧ Hid (k ≤ s.size → O ++ pcs s c f0 k = pcs s c 0 0) ∧ Hid (k = s.size + 1 → O = pcs s c 0 0)) (fun _ _ i _ => s.size + 1 - (intOf i).toNat)
  case atStart => exact ⟨0, 0, [], Nat.zero_le _, Nat.le_refl _, rfl, rfl, below_new _ _, H0, fun _ => rfl, fun h => by omega⟩
  case round =>
    clear H0
    obtain ⟨k, f0, O, hk, hf, rfl, rfl, HB, HO, HE, HF⟩ := hrel
    by_cases hle : k ≤ s.size
    · have hle' : (k : Int) ≤ (s.size : Int) := by omega
      have h0 : (0 : Int) ≤ (f0 : Int) := by omega
      have h1 : (f0 : Int) ≤ (k : Int) := by omega
      have h3 : (0 : Int) ≤ (k : Int) := by omega
      have hO : O.length ≤ 2000000 := by have := HL0.out f0 k O (HE.out hle); omega
      have hsz := HB.out.size
      by_cases hlt : k < s.size
      · have hlt' : (k : Int) < (s.size : Int) := by omega
        have hne : ((k : Int) == (s.size : Int)) = false := by simp; omega
        have hbt := bt_at s k hlt
        by_cases hc : bt s k = c
        · have HE2 : Hid ((O ++ [s.extract f0 k]) ++ pcs s c (k + 1) (k + 1) = pcs s c 0 0) := by
            have h := HE.out hle
            rw [pcs_cut hlt hc] at h
            rw [List.append_assoc]
            exact h
          clear HE HF
          have hceq : (bt s k == c) = true := by simp [hc]
          clear hc
          go_wp2_with (at_builtin; refine wpList_appS _ rfl (.tmp 26) (.tmp 31) rfl w.heap.size _ O rfl (HO.out.alloc _) wr.heap.size (s.extract f0 k) rfl (cell_lit _ _ _) hO (by simp; omega) ?_)
          intro v1 w1 ho1 hg1 _
          have HO1 : Hid (w1.ownsRow w.heap.size 9 1 v1 (O ++ [s.extract f0 k]).length (svl (O ++ [s.extract f0 k]))) := by rw [List.length_append]; exact ho1
          have HB1 : Hid (Below w.heap.size w w1) := Below.grown (HB.out.alloc HB.out.size _) hg1 (by simp; omega) (fun q hq => by have := (HO.out.lt q hq).1; omega)
          clear ho1 hg1
          go_wp2_with fail
          go_roundw
          case rel => exact ⟨k + 1, k + 1, _, by omega, Nat.le_refl _, by go_num, by go_num, HB1, HO1, fun _ => HE2.out, fun h => by omega⟩
          case measure => simp [intOf]; omega
        · have HE2 : Hid (O ++ pcs s c f0 (k + 1) = pcs s c 0 0) := by
            have h := HE.out hle
            rw [pcs_on hlt hc] at h
            exact h
          clear HE HF
          have hceq : (bt s k == c) = false := by simp [hc]
          clear hc
          go_wp2_with fail
          go_roundw
          case rel => exact ⟨k + 1, f0, O, by omega, by omega, by go_num, rfl, HB, HO, fun _ => HE2.out, fun h => by omega⟩
          case measure => simp [intOf]; omega
      · have HE2 : Hid (O ++ [s.extract f0 k] = pcs s c 0 0) := by
          have h := HE.out hle
          have e : k = s.size := by omega
          rw [e, pcs_end] at h
          rw [e]
          exact h
        have hne : ((k : Int) == (s.size : Int)) = true := by simp; omega
        have hks : k = s.size := by omega
        have HKS : Hid (k = s.size) := hks
        clear HE HF hks
        go_wp2_with (at_builtin; refine wpList_appS _ rfl (.tmp 26) (.tmp 31) rfl w.heap.size _ O rfl (HO.out.alloc _) wr.heap.size (s.extract f0 k) rfl (cell_lit _ _ _) hO (by simp; omega) ?_)
        intro v1 w1 ho1 hg1 _
        have HO1 : Hid (w1.ownsRow w.heap.size 9 1 v1 (O ++ [s.extract f0 k]).length (svl (O ++ [s.extract f0 k]))) := by rw [List.length_append]; exact ho1
        have HB1 : Hid (Below w.heap.size w w1) := Below.grown (HB.out.alloc HB.out.size _) hg1 (by simp; omega) (fun q hq => by have := (HO.out.lt q hq).1; omega)
        clear ho1 hg1
        go_wp2_with fail
        go_roundw
        case rel => exact ⟨k + 1, k + 1, _, by omega, Nat.le_refl _, by go_num, by go_num, HB1, HO1, fun h => by omega, fun _ => HE2.out⟩
        case measure => simp [intOf]; omega
    · have hle' : ¬ (k : Int) ≤ (s.size : Int) := by omega
      have hO2 := HF.out (by omega)
      have HO2 : Hid (wr.ownsRow w.heap.size 9 1 u5 (pcs s c 0 0).length (svl (pcs s c 0 0))) := by rw [← hO2]; exact HO.out
      clear hO2 HO HE HF
      go_wp2_with fail
      go_ret
      exact ⟨_, rfl, HB.out, HO2.out⟩
theorem pc_pos (s : ByteArray) (c : Int) : ∀ k f i, 1 ≤ (pc s c k f i).length
  | 0, f, i => by simp [pc]
  | k + 1, f, i => by
    simp only [pc]
    split
    · simp
    · exact pc_pos s c k f (i + 1)
theorem take_snoc (P : List ByteArray) {k : Nat} (hk : k < P.length) : P.take (k + 1) = P.take k ++ [sg P k] := by
  have e : sg P k = P[k] := by simp only [sg, List.getD, List.getElem?_eq_getElem hk, Option.getD_some]
  rw [e, List.take_append_getElem hk]
theorem fe_snoc_yes {P : List ByteArray} {k : Nat} (hk : k < P.length) (h : (sg P k).size ≠ 0) : fe (P.take (k + 1)) = fe (P.take k) ++ [sg P k] := by
  have hd : decide ((sg P k).size ≠ 0) = true := decide_eq_true h
  rw [take_snoc P hk]
  simp only [fe, List.filter_append, List.filter_cons, hd, if_true, List.filter_nil]
theorem fe_snoc_no {P : List ByteArray} {k : Nat} (hk : k < P.length) (h : (sg P k).size = 0) : fe (P.take (k + 1)) = fe (P.take k) := by
  have hd : decide ((sg P k).size ≠ 0) = false := decide_eq_false (by omega)
  rw [take_snoc P hk]
  simp only [fe, List.filter_append, List.filter_cons, hd, Bool.false_eq_true, if_false, List.filter_nil, List.append_nil]
theorem empty_iff (x : ByteArray) : x = ByteArray.empty ↔ x.size = 0 := by
  constructor
  · intro h; rw [h]; rfl
  · intro h; exact ByteArray.size_eq_zero_iff.1 h
theorem own_belowS {W wq : World} {B n s : Nat} {e : TypeId} {v : Value} {xs : List Value} (h : W.ownsRow B e s v n xs) (hb : Below W.heap.size W wq) : wq.ownsRow B e s v n xs := by
  obtain ⟨h1, h2 | ⟨g, cap, cur, rfl, k1, k2, k3⟩⟩ := h
  · exact ⟨h1, .inl h2⟩
  · refine ⟨h1, .inr ⟨g, cap, cur, rfl, k1, ?_, k3⟩⟩
    have hlt : g < W.heap.size := (Array.getElem?_eq_some_iff.1 k2).1
    exact (hb.block _ hlt).trans k2
set_option maxHeartbeats 1000000 in
theorem l15Words_any (s : ByteArray) (w : World) (hn : s.size ≤ 1048576) :
    Calls Tryd.prog 32 #[.string s] w fun e w' => ∃ v, e = .returned v ∧ Below w.heap.size w w' ∧ w'.ownsRow w.heap.size 9 1 v (wds s).length (svl (wds s)) := by
  have H0 := own_litS w
  obtain ⟨P, hP⟩ : ∃ P, P = pcs s 32 0 0 := ⟨_, rfl⟩
  have hpos : 0 < P.length := by rw [hP]; exact pc_pos _ _ _ _ _
  have hmax : P.length ≤ 1048577 := by have h := pc_len s 32 (s.size - 0) 0 0; have h2 : (pcs s 32 0 0).length ≤ s.size - 0 + 1 := h; rw [← hP] at h2; omega
  have HW : Hid (wds s = fe P) := by show fe (pcs s 32 0 0) = fe P; rw [← hP]
  have HEQ : Hid (pcs s 32 0 0 = P) := hP.symm
  clear hP
  go_enter Tryd.func32, Tryd.ntmps32
  go_wp2_with fail
  refine (l15Cut_any s 32 _ hn).mono ?_
  rintro e w1 ⟨v, rfl, hB1, hO1⟩
  rw [HEQ.out] at hO1
  obtain ⟨pa, pcap, rfl, hpc, hat⟩ := strs_of_own hO1
  rcases hat with h | ⟨pb, po, rfl, hpb, hcell⟩
  · omega
  have hlo : w.heap.size + 1 ≤ pb := by
    have := (hO1.lt pb (by simp [Value.ownBlock])).1
    simpa using this
  have HP : Hid (∀ i, i < P.length → w1.cell? ⟨pb, po + i, none⟩ = some (.string (sg P i))) := hcell
  have HPB : Hid (pb < w1.heap.size) := hpb
  have HO0 : Hid (w1.ownsRow w.heap.size 9 1 (.slice (some ⟨w.heap.size, 0, none⟩) 0 0) (fe (P.take 0)).length (svl (fe (P.take 0)))) := own_belowS H0 hB1
  have HB1 : Hid (Below w.heap.size w w1) := (below_new w _).trans (hB1.mono (by simp))
  clear hcell hpb hO1 hB1 H0
  go_wp2_with fail
  go_loopw [3, 5] (fun v i wr => ∃ k : Nat, k ≤ P.length ∧ i = .int .i64 k ∧ Hid (Below w.heap.size w wr) ∧ Hid (wr.ownsRow w.heap.size 9 1 v (fe (P.take k)).length (svl (fe (P.take k)))) ∧ Hid (∀ q, v.ownBlock = some q → q ≠ pb) ∧ Hid (pb < wr.heap.size) ∧ Hid (∀ i, i < P.length → wr.cell? ⟨pb, po + i, none⟩ = some (.string (sg P i)))) (fun _ i _ => P.length - (intOf i).toNat)
  case atStart => exact ⟨0, Nat.zero_le _, rfl, HB1, HO0, fun q hq => by simp [Value.ownBlock] at hq; omega, HPB, HP⟩
  case round =>
    clear HO0 HB1 HP HPB
    obtain ⟨k, hk, rfl, HB, HO, HD, HPB, HP⟩ := hrel
    by_cases hlt : k < P.length
    · have hlt' : (k : Int) < (P.length : Int) := by omega
      have h0 : (0 : Int) ≤ (k : Int) := by omega
      have hcc := HP.out k hlt
      have hsz := HB.out.size
      have hO : (fe (P.take k)).length ≤ 2000000 := by have h1 := fe_len (P.take k); have h2 := List.length_take_le k P; omega
      by_cases he : (sg P k).size = 0
      · have HE2 : Hid (fe (P.take (k + 1)) = fe (P.take k)) := fe_snoc_no hlt he
        have hemp : sg P k = ByteArray.empty := (empty_iff _).2 he
        have hdd : (sg P k).toList.isEmpty = true := by rw [← decide_eq_emptyBytes]; exact decide_eq_true hemp
        clear he hemp
        go_wp2_with fail
        go_roundw
        case rel => exact ⟨k + 1, hlt, by go_num, HB, by rw [HE2.out]; exact HO, HD, HPB, HP⟩
        case measure => simp [intOf]; omega
      · have HE2 : Hid (fe (P.take (k + 1)) = fe (P.take k) ++ [sg P k]) := fe_snoc_yes hlt he
        have hemp : ¬ sg P k = ByteArray.empty := fun h => he ((empty_iff _).1 h)
        have hdd : (sg P k).toList.isEmpty = false := by rw [← decide_eq_emptyBytes]; exact decide_eq_false hemp
        clear he hemp
        go_wp2_with (at_builtin; refine wpList_appS _ rfl (.tmp 20) (.tmp 25) rfl w.heap.size _ (fe (P.take k)) rfl (HO.out.alloc _) wr.heap.size (sg P k) rfl (cell_lit _ _ _) hO (by simp; omega) ?_)
        intro v1 w1 ho1 hg1 hd1
        have HO1 : Hid (w1.ownsRow w.heap.size 9 1 v1 (fe (P.take (k + 1))).length (svl (fe (P.take (k + 1))))) := by rw [HE2.out, List.length_append]; exact ho1
        have HB1 : Hid (Below w.heap.size w w1) := Below.grown (HB.out.alloc HB.out.size _) hg1 (by simp; omega) (fun q hq => by have := (HO.out.lt q hq).1; omega)
        have HPB1 : Hid (pb < w1.heap.size) := by have h1 := hg1.size; have h2 := HPB.out; rw [World.size_alloc] at h1; show _ < _; omega
        have HD1 : Hid (∀ q, v1.ownBlock = some q → q ≠ pb) := fun q hq => by
          rcases hd1 q hq with h | h
          · exact HD.out q h
          · have h2 := HPB.out
            omega
        have HP1 : Hid (∀ i, i < P.length → w1.cell? ⟨pb, po + i, none⟩ = some (.string (sg P i))) := fun i hi => by
          have hb := hg1.block pb (by have h2 := HPB.out; rw [World.size_alloc]; omega) (fun e => HD.out pb e.symm rfl)
          rw [World.cell?_of_block (a := ⟨pb, _, none⟩) hb]
          exact cell_alloc (HP.out i hi) _
        clear ho1 hg1 hd1
        go_wp2_with fail
        go_roundw
        case rel => exact ⟨k + 1, hlt, by go_num, HB1, HO1, HD1, HPB1, HP1⟩
        case measure => simp [intOf]; omega
    · have hkn : P.take k = P := List.take_of_length_le (by omega)
      have HO2 : Hid (wr.ownsRow w.heap.size 9 1 u3 (wds s).length (svl (wds s))) := by rw [HW.out]; have h := HO.out; rw [hkn] at h; exact h
      clear hkn HO
      go_wp2_with fail
      go_ret
      exact ⟨_, rfl, HB.out, HO2.out⟩
end Go.Proofs.YtiflheclfgloaaaDoor
