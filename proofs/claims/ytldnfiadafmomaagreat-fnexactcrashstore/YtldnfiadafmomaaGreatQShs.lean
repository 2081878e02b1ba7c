/- Sheets of pages, and pages of sheets. -/
import Derived.Test.YtldnfiadafmomaaGreatQShb
import Derived.Deep.AppendLies
namespace Go.Proofs.YtldnfiadafmomaaGreat
open Go.RowKit Go.Deep
set_option linter.unusedVariables false
set_option maxRecDepth 20000

theorem info147 : (Tryz.prog.info? 149).map (fun i => (i.zero, i.size, i.bytes)) = some (some (.agg (zeros 48).toArray), 48, 48) := by kernel_rfl
theorem own_below {W wq : World} {B n s : Nat} {e : TypeId} {v : Value} {xs : List Value} (h : W.ownsRow B e s v n xs) (hb : Below W.heap.size W wq) : wq.ownsRow B e s v n xs :=
  h.kept (row := none) ⟨hb.os, hb.tape, hb.output, hb.size, fun q hq _ => hb.block q hq⟩ (by cases hv : v.ownBlock <;> simp)
theorem fold_get : ∀ (l : List Value) (k : Nat) (acc : Array Value) (i : Nat), ((l.zipIdx k).foldl (fun (cs : Array Value) (p : Value × Nat) => cs.setIfInBounds p.2 p.1) acc)[i]? = if k ≤ i ∧ i < k + l.length ∧ i < acc.size then l[i - k]? else acc[i]?
  | [], k, acc, i => by rw [if_neg (by simp; omega)]; rfl
  | v :: r, k, acc, i => by
    rw [List.zipIdx_cons, List.foldl_cons, fold_get r (k + 1)]
    simp only [Array.size_setIfInBounds]
    by_cases c : k + 1 ≤ i ∧ i < k + 1 + r.length ∧ i < acc.size
    · rw [if_pos c, if_pos (by simp; omega)]
      obtain ⟨q, hq⟩ : ∃ q, i - k = q + 1 := ⟨i - k - 1, by omega⟩
      rw [hq, show i - (k + 1) = q by omega]
      rfl
    · rw [if_neg c, Array.getElem?_setIfInBounds]
      by_cases e : k = i
      · subst e
        by_cases d : k < acc.size
        · rw [if_pos rfl, if_pos d, if_pos (by simp; omega)]
          simp
        · rw [if_pos rfl, if_neg d, if_neg (by omega), Array.getElem?_eq_none (by omega)]
      · rw [if_neg e, if_neg (by simp; omega)]
theorem fold_all (c acc : Array Value) (h : c.size = acc.size) (m : Nat) (hm : m = c.size) : c.zipIdx.foldl (fun (cs : Array Value) (p : Value × Nat) => cs.setIfInBounds p.2 p.1) acc 0 m = c := by
  obtain rfl : m = c.zipIdx.size := by simp [hm]
  apply Array.ext_getElem?
  intro i
  rw [← Array.foldl_toList, Array.toList_zipIdx, fold_get]
  by_cases d : i < acc.size
  · rw [if_pos ⟨by omega, by simpa using (by omega : i < 0 + c.size), d⟩]
    simp
  · rw [if_neg (by omega), Array.getElem?_eq_none (by omega), Array.getElem?_eq_none (by omega)]
theorem run_bs147 (cs : Array Value) (hc : cs.size = 48) (w : World) : (Instr.buildSlice 143 1 #[(0, .agg cs)]).run Tryz.prog w = .ok (.slice (some ⟨w.heap.size, 0, none⟩) 1 1) (w.alloc (.cells cs 149)) := by
  obtain ⟨i, hi, hz, hs, hb⟩ := info_parts info147
  simp [Instr.buildSlice, Sem.run_bind, run_underlying Tryz.underlying143, sizeOf, typeInfo, hi, hs, zeroValue, hz, Instr.fill, Value.cells, hc, newRow]
  rw [fold_all cs _ (by simp [hc]) 48 hc.symm]
/-- 'one sheet as a slice', as a step of a walk. -/
theorem wpList_bs147 {ops : Array Oper} {rest : List Oper} {op : Oper} {a : Act} {w : World} {Q : Exit → Act → World → Prop} (hgd : op.guard = none) (x : Operand) (ho : op.op = .buildSlice 143 1 #[(0, x)])
    (cs : Array Value) (hx : a.eval x = .agg cs) (hc : cs.size = 48) (h : wpList Tryz.prog ops Q rest (a.put op.dst (.slice (some ⟨w.heap.size, 0, none⟩) 1 1)) (w.alloc (.cells cs 149))) : wpList Tryz.prog ops Q (op :: rest) a w :=
  wpList_plain hgd fun _ hK => by
    unfold Oper.wp execOp
    simp only [ho, hx, List.map_toArray, List.map_cons, List.map_nil, run_bs147 cs hc w, Sem.run_bind, Sem.run_pure, Result.andThen_ok]
    exact hK _ _ h
/-- The cells of n sheets. -/
def shl (Z : Nat → Nat → Int) : Nat → List Value
  | 0 => []
  | k + 1 => shl Z k ++ bvs (Z k) 48
theorem shl_len (Z : Nat → Nat → Int) : ∀ n, (shl Z n).length = n * 48
  | 0 => rfl
  | k + 1 => by simp only [shl, List.length_append, shl_len Z k, bvs_len]; omega
theorem zeros48_cells : (Value.agg (zeros 48).toArray).cells.size = 48 := rfl
set_option maxHeartbeats 800000 in
theorem sheetsOf_any (n : Nat) (L : Nat → Nat) (Z : Nat → Nat → Int) (a : Option Addr) (cap : Nat) (w : World) (hn : n ≤ 8) (hL : ∀ i, i < n → L i = 48) (h : PagesAt w a n L Z) :
    Calls Tryz.prog 102 #[.slice a n cap] w fun e w' => ∃ v, e = .returned v ∧ Below w.heap.size w w' ∧ w'.ownsRow w.heap.size 149 48 v n (shl Z n) := by
  obtain ⟨i0, hi, hz0, hz1, hz2⟩ := info_parts info147
  have HI : Hid (Tryz.prog.info? 149 = some i0 ∧ i0.zero = some (.agg (zeros 48).toArray) ∧ i0.size = 48 ∧ i0.bytes = 48) := ⟨hi, hz0, hz1, hz2⟩
  have HL : Hid (∀ i, i < n → L i = 48) := hL
  have HA : Hid (PagesAt w a n L Z) := h
  clear hi hz0 hz1 hz2 hL h
  go_enter Tryz.func102, Tryz.ntmps102
  go_wp2_with fail
  go_loopw [3, 5, 8] (fun v _ i wr => ∃ k : Nat, k ≤ n ∧ i = .int .i64 k ∧ Below w.heap.size w wr ∧ wr.ownsRow w.heap.size 149 48 v k (shl Z k)) (fun _ _ i _ => n - (intOf i).toNat)
  case atStart => exact ⟨0, by omega, rfl, Below.refl _ _, World.ownsRow_nil _ _ _ _⟩
  case round =>
    obtain ⟨k, hk, rfl, hb, ho⟩ := hrel
    by_cases hlt : k < n
    · rcases HA.out.below hb with h | ⟨b, off, rfl, hl, hc⟩
      · omega
      obtain ⟨ai, ci, h1, hy, hcap⟩ := hc k hlt
      rw [HL.out k hlt] at h1 hy hcap
      have HY : Hid (BytesAt wr ai 48 (Z k)) := hy
      have HCP : Hid (48 ≤ ci) := hcap
      have HO : Hid (wr.ownsRow w.heap.size 149 48 u3 k (shl Z k)) := ho
      have HB : Hid (Below w.heap.size w wr) := hb
      clear hc hy hcap ho hb
      go_wp2_with fail
      refine (sheetOf_any (Z k) ai ci wr HCP.out HY.out).mono ?_
      rintro e w1 ⟨rfl, hb1⟩
      have HO1 : Hid (w1.ownsRow w.heap.size 149 48 u3 k (shl Z k)) := own_below HO.out hb1
      have HB1 : Hid (Below w.heap.size w w1) := below_then HB.out hb1
      clear hb1
      go_wp2_with (first | (at_builtin; refine wpList_append_own _ rfl (.tmp 12) (.tmp 15) 143 rfl w.heap.size 149 i0 (.agg (zeros 48).toArray) 48 48 Tryz.underlying143 HI.out.1 HI.out.2.1 HI.out.2.2.1 HI.out.2.2.2 zeros48_cells (by decide) _ k (shl Z k) rfl (HO1.out.alloc _) ⟨w1.heap.size, 0, none⟩ 1 1 (bvs (Z k) 48) rfl ?c1 ?c2 (bvs_one _ _) ?c3 ?c4 ?c5 ?_) | (refine wpList_bs147 (by rfl) (.tmp 14) (by rfl) (bvs (Z k) 48).toArray (by rfl) (bvs_size _ _) ?_))
      case c1 => rw [bvs_len]
      case c2 =>
        intro j u hu
        rw [Addr.add_mid]
        exact range_block (heap_alloc_last _ _) j u hu
      case c3 => unfold maxLen; omega
      case c4 => omega
      case c5 => have := HB1.out.size; rw [World.size_alloc]; omega
      intro v2 w2 ho2 hg2 _
      have HO2 : Hid (w2.ownsRow w.heap.size 149 48 v2 (k + 1) (shl Z (k + 1))) := ho2
      have HB2 : Hid (Below w.heap.size w w2) := Below.grown (HB1.out.alloc HB1.out.size _) hg2 (by rw [World.size_alloc]; have := HB1.out.size; omega) (fun q hq => (HO1.out.lt q hq).1)
      clear ho2 hg2
      go_wp2_with fail
      go_roundw
      case rel => exact ⟨k + 1, hlt, by go_num, HB2.out, HO2.out⟩
      case measure => simp [intOf]; omega
    · have hkn : k = n := by omega
      have HO : Hid (wr.ownsRow w.heap.size 149 48 u3 n (shl Z n)) := by have h := ho; rw [hkn] at h; exact h
      clear ho
      go_wp2_with fail
      go_ret
      exact ⟨_, rfl, hb, HO.out⟩
end Go.Proofs.YtldnfiadafmomaaGreat
