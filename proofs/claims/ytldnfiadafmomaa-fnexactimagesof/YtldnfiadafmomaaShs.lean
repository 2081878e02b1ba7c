/- Sheets of pages, and pages of sheets. -/
import Derived.Test.YtldnfiadafmomaaShb
import Derived.Deep.AppendLies
namespace Go.Proofs.Ytldnfiadafmomaa
open Go.RowKit Go.Deep
set_option linter.unusedVariables false
set_option maxRecDepth 20000

theorem info147 : (Try.prog.info? 66).map (fun i => (i.zero, i.size, i.bytes)) = some (some (.agg (zeros 48).toArray), 48, 48) := by kernel_rfl
theorem own_below {W wq : World} {B n s : Nat} {e : TypeId} {v : Value} {xs : List Value} (h : W.ownsRow B e s v n xs) (hb : Below W.heap.size W wq) : wq.ownsRow B e s v n xs :=
  h.kept (row := none) ⟨hb.os, hb.tape, hb.output, hb.size, fun q hq _ => hb.block q hq⟩ (by cases hv : v.ownBlock <;> simp)
theorem fold_get : ∀ (l : List Value) (k : Nat) (acc : Array Value) (i : Nat), ((l.zipIdx k).foldl (fun (cs : Array Value) (p : Value × Nat) => cs.setIfInBounds p.2 p.1) acc)[i]? = if k ≤ i ∧ i < k + l.length ∧ i < acc.size then l[i - k]? else acc[i]?
  | [], k, acc, i => by rw [if_neg (by simp; omega)]; rfl
  | v :: r, k, acc, i => by
    rw [List.zipIdx_cons, List.foldl_cons, fold_get r (k + 1)]
    simp only [Array.size_setIfInBounds]
    by_cases c : k + 1 ≤ i ∧ i < k + 1 + r.length ∧ i < acc.size
    · rw [if_pos c, if_pos (by simp; omega)]
      obtain ⟨q, hq⟩ : ∃ q, i - k = q + 1 := ⟨i - k - 1, by omega⟩
      rw [hq, show i - (k + 1) = q by omega]
      rfl
    · rw [if_neg c, Array.getElem?_setIfInBounds]
      by_cases e : k = i
      · subst e
        by_cases d : k < acc.size
        · rw [if_pos rfl, if_pos d, if_pos (by simp; omega)]
          simp
        · rw [if_pos rfl, if_neg d, if_neg (by omega), Array.getElem?_eq_none (by omega)]
      · rw [if_neg e, if_neg (by simp; omega)]
theorem fold_all (c acc : Array Value) (h : c.size = acc.size) (m : Nat) (hm : m = c.size) : c.zipIdx.foldl (fun (cs : Array Value) (p : Value × Nat) => cs.setIfInBounds p.2 p.1) acc 0 m = c := by
  obtain rfl : m = c.zipIdx.size := by simp [hm]
  apply Array.ext_getElem?
  intro i
  rw [← Array.foldl_toList, Array.toList_zipIdx, fold_get]
  by_cases d : i < acc.size
  · rw [if_pos ⟨by omega, by simpa using (by omega : i < 0 + c.size), d⟩]
    simp
  · rw [if_neg (by omega), Array.getElem?_eq_none (by omega), Array.getElem?_eq_none (by omega)]
theorem run_bs147 (cs : Array Value) (hc : cs.size = 48) (w : World) : (Instr.buildSlice 49 1 #[(0, .agg cs)]).run Try.prog w = .ok (.slice (some ⟨w.heap.size, 0, none⟩) 1 1) (w.alloc (.cells cs 66)) := by
  obtain ⟨i, hi, hz, hs, hb⟩ := info_parts info147
  simp [Instr.buildSlice, Sem.run_bind, run_underlying Try.underlying49, sizeOf, typeInfo, hi, hs, zeroValue, hz, Instr.fill, Value.cells, hc, newRow]
  rw [fold_all cs _ (by simp [hc]) 48 hc.symm]
/-- 'one sheet as a slice', as a step of a walk. -/
theorem wpList_bs147 {ops : Array Oper} {rest : List Oper} {op : Oper} {a : Act} {w : World} {Q : Exit → Act → World → Prop} (hgd : op.guard = none) (x : Operand) (ho : op.op = .buildSlice 49 1 #[(0, x)])
    (cs : Array Value) (hx : a.eval x = .agg cs) (hc : cs.size = 48) (h : wpList Try.prog ops Q rest (a.put op.dst (.slice (some ⟨w.heap.size, 0, none⟩) 1 1)) (w.alloc (.cells cs 66))) : wpList Try.prog ops Q (op :: rest) a w :=
  wpList_plain hgd fun _ hK => by
    unfold Oper.wp execOp
    simp only [ho, hx, List.map_toArray, List.map_cons, List.map_nil, run_bs147 cs hc w, Sem.run_bind, Sem.run_pure, Result.andThen_ok]
    exact hK _ _ h
/-- The cells of n sheets. -/
def shl (Z : Nat → Nat → Int) : Nat → List Value
  | 0 => []
  | k + 1 => shl Z k ++ bvs (Z k) 48
theorem shl_len (Z : Nat → Nat → Int) : ∀ n, (shl Z n).length = n * 48
  | 0 => rfl
  | k + 1 => by simp only [shl, List.length_append, shl_len Z k, bvs_len]; omega
theorem shl_one (Z : Nat → Nat → Int) : ∀ n, ∀ v ∈ shl Z n, v.oneCell' = true
  | 0 => fun v hv => by simp [shl] at hv
  | k + 1 => fun v hv => by
    rcases List.mem_append.1 hv with h | h
    · exact shl_one Z k v h
    · exact bvs_one _ _ v h
theorem zeros48_cells : (Value.agg (zeros 48).toArray).cells.size = 48 := rfl
end Go.Proofs.Ytldnfiadafmomaa
