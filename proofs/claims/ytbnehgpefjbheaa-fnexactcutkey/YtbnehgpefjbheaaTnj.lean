/- Lists of numbers that grow; what spec.l4Walk finds and leaves in memory. -/
import Derived.Test.YtbnehgpefjbheaaTne
namespace Go.Proofs.Ytbnehgpefjbheaa
open Go.RowKit Go.Deep
set_option linter.unusedVariables false
set_option maxRecDepth 20000

theorem l1Has_any (zs : List Int) (a : Option Addr) (cap : Nat) (v : Int) (w : World) (hn : zs.length ≤ 100000) (h : IntsAt w a zs.length (zI zs)) :
    Calls Try.prog 73 #[.slice a zs.length cap, .int .i64 v] w fun e w' => e = .returned (.bool (decide (v ∈ zs))) ∧ w' = w := by
  have HA : Hid (IntsAt w a zs.length (zI zs)) := h
  clear h
  go_enter Try.func73, Try.ntmps73
  go_wp2_with fail
  go_loop [5] (fun i => ∃ k : Nat, k ≤ zs.length ∧ i = .int .i64 k ∧ Hid (∀ j, j < k → zI zs j ≠ v)) (fun i => zs.length - (intOf i).toNat)
  case atStart => exact ⟨0, Nat.zero_le _, rfl, fun j hj => by omega⟩
  case round =>
    obtain ⟨k, hk, rfl, HN⟩ := hrel
    by_cases hlt : k < zs.length
    · have hlt' : (k : Int) < (zs.length : Int) := by omega
      have hk0 : (0 : Int) ≤ (k : Int) := by omega
      rcases HA.out with h | ⟨b, off, rfl, hl, hc⟩
      · omega
      have hx := hc k hlt
      clear hc
      by_cases he : zI zs k = v
      · have HM : Hid (decide (v ∈ zs) = true) := by
          refine decide_eq_true ?_
          rw [← he]
          unfold zI
          rw [List.getD_eq_getElem?_getD, List.getElem?_eq_getElem hlt]
          exact List.getElem_mem hlt
        have he2 : (zI zs k == v) = true := by simp [he]
        generalize zI zs k = zk at *
        clear he
        go_wp2_with fail
        go_ret
        exact ⟨ret_bool HM.out.symm, rfl⟩
      · have HN2 : Hid (∀ j, j < k + 1 → zI zs j ≠ v) := fun j hj => by
          by_cases e : j = k
          · subst e; exact he
          · exact HN.out j (by omega)
        have he2 : (zI zs k == v) = false := by simp [he]
        generalize zI zs k = zk at *
        clear he
        go_wp2_with fail
        go_round
        case rel => exact ⟨k + 1, hlt, by go_num, HN2⟩
        case measure => simp [intOf]; omega
    · have hkn : k = zs.length := by omega
      have hnl : ¬ ((k : Int) < (zs.length : Int)) := by omega
      have HM : Hid (decide (v ∈ zs) = false) := by
        refine decide_eq_false fun hm => ?_
        obtain ⟨i, hi, e⟩ := List.mem_iff_getElem.1 hm
        refine HN.out i (by omega) ?_
        unfold zI
        rw [List.getD_eq_getElem?_getD, List.getElem?_eq_getElem hi]
        exact e
      go_wp2_with fail
      go_ret
      exact ⟨ret_bool HM.out.symm, rfl⟩
theorem wp_appIL {o : Oper} {a : Act} {Kc : Act → World → Prop} {Q : Exit → Act → World → Prop} (w : World) (s x : Operand)
    (ho : o.op = .call { callee := .builtin .append, args := #[s, x], argTypes := #[39, 39] })
    (base : Nat) (v : Value) (zs : List Int) (hs : a.eval s = v) (hown : w.ownsRow base 2 1 v zs.length (il zs)) (X O cx : Nat) (z : Int) (hx : a.eval x = .slice (some ⟨X, O, none⟩) 1 cx) (hc : w.cell? ⟨X, O, none⟩ = some (.int .i64 z)) (hb : base ≤ w.heap.size) (hl : zs.length ≤ 100000)
    (hK : ∀ g cap w', w'.ownsRow base 2 1 (.slice (some ⟨g, 0, none⟩) (zs ++ [z]).length cap) (zs ++ [z]).length (il (zs ++ [z])) → w.grownBy w' v.ownBlock → (v.ownBlock = some g ∨ g = w.heap.size) → g < w'.heap.size → Kc (a.put o.dst (.slice (some ⟨g, 0, none⟩) (zs ++ [z]).length cap)) w') : o.wp Try.prog a w Kc Q := by
  obtain ⟨i0, hi, hzz⟩ := Option.map_eq_some_iff.1 info2
  simp only [Prod.mk.injEq] at hzz
  obtain ⟨hz0, hz1, hz2⟩ := hzz
  refine wp_append_lies w s x 39 ho base 2 i0 _ 1 8 Try.underlying39 hi hz0 hz1 hz2 rfl (by decide) v zs.length (il zs) hs hown ⟨X, O, none⟩ 1 cx [.int .i64 z] hx rfl (fun j u hj => ?_) (one_i64 _) (by decide) (by unfold maxLen; omega) (by omega) hb _ rfl fun g cap w' h2 h3 h4 h5 => ?_
  · have : j = 0 := by have := (List.getElem?_eq_some_iff.1 hj).1; simpa using this
    subst this
    rw [WideShapes.add_plain, Nat.add_zero, hc, ← hj]; rfl
  · have e : (zs ++ [z]).length = zs.length + 1 := by simp
    have hk := hK g cap w'
    rw [e, il_app] at hk
    exact hk h2 h3 h4 h5
theorem wpList_appIL {ops : Array Oper} {rest : List Oper} {o : Oper} {a : Act} {Q : Exit → Act → World → Prop} (w : World) (hgd : o.guard = none) (s x : Operand)
    (ho : o.op = .call { callee := .builtin .append, args := #[s, x], argTypes := #[39, 39] })
    (base : Nat) (v : Value) (zs : List Int) (hs : a.eval s = v) (hown : w.ownsRow base 2 1 v zs.length (il zs)) (X O cx : Nat) (z : Int) (hx : a.eval x = .slice (some ⟨X, O, none⟩) 1 cx) (hc : w.cell? ⟨X, O, none⟩ = some (.int .i64 z)) (hb : base ≤ w.heap.size) (hl : zs.length ≤ 100000)
    (hK : ∀ g cap w', w'.ownsRow base 2 1 (.slice (some ⟨g, 0, none⟩) (zs ++ [z]).length cap) (zs ++ [z]).length (il (zs ++ [z])) → w.grownBy w' v.ownBlock → (v.ownBlock = some g ∨ g = w.heap.size) → g < w'.heap.size → wpList Try.prog ops Q rest (a.put o.dst (.slice (some ⟨g, 0, none⟩) (zs ++ [z]).length cap)) w') : wpList Try.prog ops Q (o :: rest) a w :=
  wpList_plain hgd fun _ hKK => wp_appIL w s x ho base v zs hs hown X O cx z hx hc hb hl fun g cap w' h2 h3 h4 h5 => hKK _ _ (hK g cap w' h2 h3 h4 h5)
theorem ownI_keep {w w' : World} {base n s : Nat} {e : TypeId} {v : Value} {xs : List Value} (h : w.ownsRow base e s v n xs) (hb : ∀ q, v.ownBlock = some q → w'.heap[q]? = w.heap[q]?) : w'.ownsRow base e s v n xs := by
  obtain ⟨h1, h2 | ⟨g, cap, cur, rfl, k1, k2, k3⟩⟩ := h
  · exact ⟨h1, .inl h2⟩
  · exact ⟨h1, .inr ⟨g, cap, cur, rfl, k1, (hb g rfl).trans k2, k3⟩⟩
theorem ownI_lt {w : World} {base n s : Nat} {e : TypeId} {v : Value} {xs : List Value} (h : w.ownsRow base e s v n xs) : ∀ q, v.ownBlock = some q → base ≤ q ∧ q < w.heap.size := by
  intro q hq
  obtain ⟨h1, ⟨rfl, _⟩ | ⟨g, cap, cur, rfl, k1, k2, k3⟩⟩ := h
  · simp [Value.ownBlock] at hq
  · simp only [Value.ownBlock, Option.some.injEq] at hq
    subst hq
    exact ⟨k1, (Array.getElem?_eq_some_iff.1 k2).1⟩
theorem rowI_shape {w : World} {base : Nat} {v : Value} {zs : List Int} (h : w.ownsRow base 2 1 v zs.length (il zs)) : ∃ a cap, v = .slice a zs.length cap ∧ IntsAt w a zs.length (zI zs) := by
  obtain ⟨a, cap, e, ho⟩ := ownI_of_row h
  exact ⟨a, cap, e, ho.at⟩
/-- What spec.l4Walk finds: block G (where G blocks were there before) has the list of nodes that were seen, the depth of leaves, and no fault. -/
structure Sg (W0 : World) (n : Nat) (w : World) (s : St) (L : List Int) (v : Value) : Prop where
  below : Below W0.heap.size W0 w
  size : W0.heap.size < w.heap.size
  seen : w.cell? ⟨W0.heap.size, 0, none⟩ = some v
  own : w.ownsRow (W0.heap.size + 1) 2 1 v L.length (il L)
  ld : w.cell? ⟨W0.heap.size, 1, none⟩ = some (.int .i64 s.ld)
  bad : w.cell? ⟨W0.heap.size, 2, none⟩ = some (.bool false)
  frz : ∀ i, w.frozen? ⟨W0.heap.size, i, none⟩ = false
  mem : ∀ i : Nat, i < n → ((i : Int) ∈ L ↔ s.met i = true)
  len : L.length = s.cnt
/-- Blocks that stay. -/
def FrS (G : Nat) (v : Value) (w w' : World) : Prop := w.heap.size ≤ w'.heap.size ∧ ∀ k, k < w.heap.size → k ≠ G → v.ownBlock ≠ some k → w'.heap[k]? = w.heap[k]?
def FrV (v : Value) (w : World) (v' : Value) : Prop := ∀ k, v'.ownBlock = some k → v.ownBlock = some k ∨ w.heap.size ≤ k
theorem FrS.refl (G : Nat) (v : Value) (w : World) : FrS G v w w := ⟨Nat.le_refl _, fun _ _ _ _ => rfl⟩
theorem FrV.refl (v : Value) (w : World) : FrV v w v := fun _ h => .inl h
theorem FrS.trans {G : Nat} {v v1 : Value} {w w1 w2 : World} (h : FrS G v w w1) (hv : FrV v w v1) (k : FrS G v1 w1 w2) : FrS G v w w2 :=
  ⟨Nat.le_trans h.1 k.1, fun j hj hG hne => (k.2 j (Nat.lt_of_lt_of_le hj h.1) hG (fun e => by
    rcases hv j e with e1 | e1
    · exact hne e1
    · omega)).trans (h.2 j hj hG hne)⟩
theorem FrV.trans {v v1 v2 : Value} {w w1 : World} (h : FrV v w v1) (hs : w.heap.size ≤ w1.heap.size) (k : FrV v1 w1 v2) : FrV v w v2 := fun j e => by
  rcases k j e with e1 | e1
  · exact h j e1
  · exact .inr (Nat.le_trans hs e1)
theorem FrS.below {G : Nat} {v : Value} {w w' : World} (h : Below w.heap.size w w') : FrS G v w w' := ⟨h.size, fun k hk _ _ => h.block k hk⟩
theorem FrS.set {G : Nat} {v : Value} {w w' : World} (h : FrS G v w w') (o : Nat) (x : Value) : FrS G v w (w'.setCell ⟨G, o, none⟩ x) :=
  ⟨by have := h.1; simpa [World.setCell] using this, fun k hk hG hne => (Below.heap_setCell _ _ _ _ (by dsimp only; omega)).trans (h.2 k hk hG hne)⟩
theorem Sg.mono {W0 w w' : World} {n : Nat} {s : St} {L : List Int} {v : Value} (h : Sg W0 n w s L v) (hb : Below w.heap.size w w') : Sg W0 n w' s L v :=
  ⟨below_then h.below hb, Nat.lt_of_lt_of_le h.size hb.size, cell_below h.seen hb, ownI_keep h.own fun q hq => hb.block q (ownI_lt h.own q hq).2, cell_below h.ld hb, cell_below h.bad hb, fun i => (hb.frozen (p := ⟨_, i, none⟩) h.size).trans (h.frz i), h.mem, h.len⟩
/-- A node is seen. -/
theorem Sg.go {W0 w w1 w3 : World} {n p g c : Nat} {s : St} {L : List Int} {v : Value} (h : Sg W0 n w s L v) (hp : p < n) (hb : Below w.heap.size w w1) (hg : w1.grownBy w3 v.ownBlock) (ho : w3.ownsRow (W0.heap.size + 1) 2 1 (.slice (some ⟨g, 0, none⟩) (L.length + 1) c) (L.length + 1) (il (L ++ [(p : Int)]))) (hl : v.ownBlock = some g ∨ g = w1.heap.size) :
    Sg W0 n (w3.setCell ⟨W0.heap.size, 0, none⟩ (.slice (some ⟨g, 0, none⟩) (L.length + 1) c)) (met1 s p) (L ++ [(p : Int)]) (.slice (some ⟨g, 0, none⟩) (L.length + 1) c) ∧ FrS W0.heap.size v w (w3.setCell ⟨W0.heap.size, 0, none⟩ (.slice (some ⟨g, 0, none⟩) (L.length + 1) c)) ∧ FrV v w (.slice (some ⟨g, 0, none⟩) (L.length + 1) c) := by
  have h1 := h.mono hb
  have hne : some W0.heap.size ≠ v.ownBlock := fun e => by have := (ownI_lt h.own _ e.symm).1; omega
  have e0 : ∀ i, w3.cell? ⟨W0.heap.size, i, none⟩ = w1.cell? ⟨W0.heap.size, i, none⟩ := fun i => World.cell?_of_block (a := ⟨W0.heap.size, i, none⟩) (hg.block _ h1.size hne)
  have f0 : ∀ i, w3.frozen? ⟨W0.heap.size, i, none⟩ = w1.frozen? ⟨W0.heap.size, i, none⟩ := fun i => World.frozen?_of_block (a := ⟨W0.heap.size, i, none⟩) (hg.block _ h1.size hne)
  have hB3 : Below W0.heap.size W0 w3 := h1.below.grown hg (Nat.le_of_lt h1.size) fun q hq => by have := (ownI_lt h.own q hq).1; omega
  have hgG : W0.heap.size + 1 ≤ g := by
    rcases hl with e | e
    · exact (ownI_lt h.own g e).1
    · rw [e]; exact h1.size
  refine ⟨⟨hB3.setCell (p := ⟨_, _, none⟩) (Nat.le_refl _) _, by have := hg.size; have := h1.size; simp [World.setCell]; omega, setS ((e0 0).trans h1.seen), ownI_keep (by rw [show (L ++ [(p : Int)]).length = L.length + 1 by simp]; exact ho) fun q hq => ?_, ?_, ?_, fun i => by rw [World.frozen?_setCell]; exact (f0 i).trans (h1.frz i), fun i hi => ?_, by simp [met1, h.len]⟩, ?_, fun k e => ?_⟩
  · have e1 : q = g := by simpa [Value.ownBlock] using hq.symm
    exact Below.heap_setCell _ _ _ _ (by dsimp only; omega)
  · rw [setO (by omega), e0]; exact h1.ld
  · rw [setO (by omega), e0]; exact h1.bad
  · rw [List.mem_append, List.mem_singleton, h.mem i hi]
    by_cases e : i = p
    · subst e; simp [met1, upf_eq]
    · have : ¬ ((i : Int) = (p : Int)) := by omega
      simp [met1, upf_ne _ _ e, this]
  · refine FrS.set ⟨Nat.le_trans hb.size hg.size, fun k hk hG hn => (hg.block k (Nat.lt_of_lt_of_le hk hb.size) (fun e => hn e.symm)).trans (hb.block k hk)⟩ _ _
  · have e1 : k = g := by simpa [Value.ownBlock] using e.symm
    subst e1
    rcases hl with e2 | e2
    · exact .inl e2
    · exact .inr (by rw [e2]; exact hb.size)
/-- What is left behind a fault. -/
structure Sb (W0 : World) (w : World) : Prop where
  below : Below W0.heap.size W0 w
  size : W0.heap.size < w.heap.size
  ld : ∃ d, w.cell? ⟨W0.heap.size, 1, none⟩ = some (.int .i64 d)
  bad : w.cell? ⟨W0.heap.size, 2, none⟩ = some (.bool true)
  frz : ∀ i, w.frozen? ⟨W0.heap.size, i, none⟩ = false
theorem Sg.fall {W0 w : World} {n : Nat} {s : St} {L : List Int} {v : Value} (h : Sg W0 n w s L v) : Sb W0 (w.setCell ⟨W0.heap.size, 2, none⟩ (.bool true)) :=
  ⟨h.below.setCell (p := ⟨_, _, none⟩) (Nat.le_refl _) _, by have := h.size; simpa [World.setCell] using this, ⟨s.ld, by rw [setO (by omega)]; exact h.ld⟩, setS h.bad, fun i => by rw [World.frozen?_setCell]; exact h.frz i⟩
theorem Sb.again {W0 w : World} (h : Sb W0 w) : Sb W0 (w.setCell ⟨W0.heap.size, 2, none⟩ (.bool true)) := by
  obtain ⟨d, hd⟩ := h.ld
  exact ⟨h.below.setCell (p := ⟨_, _, none⟩) (Nat.le_refl _) _, by have := h.size; simpa [World.setCell] using this, ⟨d, by rw [setO (by omega)]; exact hd⟩, setS h.bad, fun i => by rw [World.frozen?_setCell]; exact h.frz i⟩
theorem Sb.leaf {W0 w : World} (h : Sb W0 w) (d : Int) : Sb W0 (w.setCell ⟨W0.heap.size, 1, none⟩ (.int .i64 d)) := by
  obtain ⟨d0, hd⟩ := h.ld
  exact ⟨h.below.setCell (p := ⟨_, _, none⟩) (Nat.le_refl _) _, by have := h.size; simpa [World.setCell] using this, ⟨d, setS hd⟩, by rw [setO (by omega)]; exact h.bad, fun i => by rw [World.frozen?_setCell]; exact h.frz i⟩
theorem Sg.leaf {W0 w : World} {n : Nat} {s : St} {L : List Int} {v : Value} (h : Sg W0 n w s L v) (d : Int) : Sg W0 n (w.setCell ⟨W0.heap.size, 1, none⟩ (.int .i64 d)) ⟨s.met, s.cnt, d⟩ L v :=
  ⟨h.below.setCell (p := ⟨_, _, none⟩) (Nat.le_refl _) _, by have := h.size; simpa [World.setCell] using this, by rw [setO (by omega)]; exact h.seen, ownI_keep h.own fun q hq => Below.heap_setCell _ _ _ _ (by have := (ownI_lt h.own q hq).1; dsimp only; omega), setS h.ld, by rw [setO (by omega)]; exact h.bad, fun i => by rw [World.frozen?_setCell]; exact h.frz i, h.mem, h.len⟩
/-- What spec.l4Walk leaves. -/
def WkS (W0 : World) (n : Nat) (w : World) (v : Value) (r : Option St) (e : Ending) (w' : World) : Prop := e = .returned (.tuple #[]) ∧ FrS W0.heap.size v w w' ∧ match r with
  | none => Sb W0 w'
  | some s' => ∃ L' v', Sg W0 n w' s' L' v' ∧ FrV v w v'
theorem WkS.no {W0 w w' : World} {n : Nat} {v : Value} {r : Option St} (h : r = none) (hf : FrS W0.heap.size v w w') (hb : Sb W0 w') : WkS W0 n w v r (.returned (.tuple #[])) w' := by
  rw [h]; exact ⟨rfl, hf, hb⟩
theorem WkS.yes {W0 w w' : World} {n : Nat} {v v' : Value} {r : Option St} {s' : St} {L' : List Int} (h : r = some s') (hf : FrS W0.heap.size v w w') (hb : Sg W0 n w' s' L' v') (hv : FrV v w v') : WkS W0 n w v r (.returned (.tuple #[])) w' := by
  rw [h]; exact ⟨rfl, hf, L', v', hb, hv⟩
theorem CNd.below {w w' : World} {b o : Nat} {t : Nd} {ak ad : Option Addr} {ck cd : Nat} (h : CNd w b o t ak ck ad cd) (hb : Below w.heap.size w w') : CNd w' b o t ak ck ad cd := h.block (hb.block _ (Go.block_lt_of_cell h.1))
theorem CNd.set {w : World} {G b o i : Nat} {t : Nd} {ak ad : Option Addr} {ck cd : Nat} {x : Value} (h : CNd w b o t ak ck ad cd) (hne : b ≠ G) : CNd (w.setCell ⟨G, i, none⟩ x) b o t ak ck ad cd := h.block (Below.heap_setCell _ _ _ _ (by dsimp only; omega))
end Go.Proofs.Ytbnehgpefjbheaa
