/- Steps for spec.l14Images. -/
import Derived.Test.YtldnfiadafmomaaXib
import Derived.Test.YtldnfiadafmomaaJa
import Derived.Test.YtldnfiadafmomaaWae
import Derived.Test.YtldnfiadafmomaaDg
import Derived.Deep.AppendLies
namespace Go.Proofs.Ytldnfiadafmomaa
open Go.RowKit Go.Deep
set_option linter.unusedVariables false
set_option maxRecDepth 20000

theorem bvs_bl (z : Nat → Int) (n : Nat) : bl (zL z n) = bvs z n := by simp [bl, zL, bvs]
theorem zL_app (z : Nat → Int) (m n : Nat) : zL z m ++ zL (fun i => z (m + i)) n = zL z (m + n) := by
  simp only [zL, List.range_add, List.map_append, List.map_map]
  rfl
theorem zL_congr {z z' : Nat → Int} {n : Nat} (h : ∀ i, i < n → z i = z' i) : zL z n = zL z' n := List.map_congr_left fun i hi => h i (List.mem_range.1 hi)
theorem three_pieces (D : Dk) (k : Nat) : (([] ++ zL (D.Y k) 16) ++ zL (D.Y (k + 1)) 16) ++ zL (D.Y (k + 2)) 16 = zL (pcZ D k) 48 := by
  rw [List.nil_append, ← zL_app (pcZ D k) 32 16, ← zL_app (pcZ D k) 16 16]
  rw [zL_congr (z := D.Y k) (z' := pcZ D k) (fun i hi => by unfold pcZ; rw [show i / 16 = 0 by omega, show i % 16 = i by omega, Nat.add_zero])]
  rw [zL_congr (z := D.Y (k + 1)) (z' := fun i => pcZ D k (16 + i)) (fun i hi => by unfold pcZ; rw [show (16 + i) / 16 = 1 by omega, show (16 + i) % 16 = i by omega])]
  rw [zL_congr (z := D.Y (k + 2)) (z' := fun i => pcZ D k (32 + i)) (fun i hi => by unfold pcZ; rw [show (32 + i) / 16 = 2 by omega, show (32 + i) % 16 = i by omega])]
theorem run_bsB0 (w : World) : (Instr.buildSlice 55 0 #[]).run Try.prog w = .ok (.slice (some ⟨w.heap.size, 0, none⟩) 0 0) (w.alloc (.cells #[] 5)) := by
  obtain ⟨i, hi, hz, hs, hb⟩ := info_parts info5
  simp [Instr.buildSlice, Sem.run_bind, run_underlying Try.underlying55, sizeOf, typeInfo, hi, Instr.fill, newRow, show Array.range 0 = #[] from rfl]
theorem step_bsB0 {ops : Array Oper} {o : Oper} {a : Act} {K : Act → World → Prop} {Q : Exit → Act → World → Prop} {E : Prop} (w : World) (d : Option Tmp) (hd : o.dst = d) (hgd : o.guard = none) (ho : o.op = .buildSlice 55 0 #[])
    (h : ∀ v w', w'.ownsRow w.heap.size 5 1 v ([] : List Int).length (bl []) → Below w.heap.size w w' → K (a.put d v) w') : if Region.wanted o (yielded ops a.tmps) = true then Oper.wp Try.prog o a w K Q else E := by
  have hw : Region.wanted o (yielded ops a.tmps) = true := by simp [Region.wanted, hgd]
  rw [if_pos hw]
  subst hd
  unfold Oper.wp execOp
  simp only [ho, List.map_toArray, List.map_nil, run_bsB0 w, Sem.run_bind, Sem.run_pure, Result.andThen_ok]
  exact h _ _ (World.ownsRow_lit (base := w.heap.size) (size := 1) (e := 5) w #[] 0 (Nat.le_refl _) (by unfold maxLen; omega) rfl) (below_new _ _)
theorem step_appZD {ops : Array Oper} {o : Oper} {a : Act} {K : Act → World → Prop} {Q : Exit → Act → World → Prop} {E : Prop} (w : World) (d : Option Tmp) (hd : o.dst = d) (hgd : o.guard = none) (s x : Operand)
    (ho : o.op = .call { callee := .builtin .append, args := #[s, x], argTypes := #[55, 55] })
    (base : Nat) (v : Value) (zs : List Int) (hs : a.eval s = v) (hown : w.ownsRow base 5 1 v zs.length (bl zs))
    (xa : Option Addr) (m c : Nat) (z : Nat → Int) (hx : a.eval x = .slice xa m c) (hb : BytesAt w xa m z) (h63 : zs.length + m ≤ 100000) (hbase : base ≤ w.heap.size)
    (h : ∀ v' w', w'.ownsRow base 5 1 v' (zs ++ zL z m).length (bl (zs ++ zL z m)) → Below base w w' → K (a.put d v') w') :
    if Region.wanted o (yielded ops a.tmps) = true then Oper.wp Try.prog o a w K Q else E := by
  subst hd
  exact step_appZ w hgd s x ho base v zs hs hown xa m c z hx hb h63 hbase (fun v' w' h1 h2 => h v' w' h1 ((Below.refl _ _).grown h2 hbase (fun q hq => (hown.lt q hq).1)))
theorem run_bsP (w : World) (a : Option Addr) (n c : Nat) : (Instr.buildSlice 22 1 #[(0, .slice a n c)]).run Try.prog w = .ok (.slice (some ⟨w.heap.size, 0, none⟩) 1 1) (w.alloc (.cells #[.slice a n c] 55)) := by
  obtain ⟨i, hi, hz, hs, hb⟩ := info_parts info22
  simp [Instr.buildSlice, Sem.run_bind, run_underlying Try.underlying22, sizeOf, typeInfo, hi, hs, zeroValue, hz, Instr.fill, Value.cells, newRow, show Array.range 1 = #[0] from rfl]
theorem step_bsP {ops : Array Oper} {o : Oper} {a : Act} {K : Act → World → Prop} {Q : Exit → Act → World → Prop} {E : Prop} (w : World) (d : Option Tmp) (hd : o.dst = d) (hgd : o.guard = none) (x : Operand) (ho : o.op = .buildSlice 22 1 #[(0, x)])
    (ax : Option Addr) (n c : Nat) (hx : a.eval x = .slice ax n c)
    (h : K (a.put d (.slice (some ⟨w.heap.size, 0, none⟩) 1 1)) (w.alloc (.cells #[.slice ax n c] 55))) : if Region.wanted o (yielded ops a.tmps) = true then Oper.wp Try.prog o a w K Q else E := by
  have hw : Region.wanted o (yielded ops a.tmps) = true := by simp [Region.wanted, hgd]
  rw [if_pos hw]
  subst hd
  unfold Oper.wp execOp
  simp only [ho, hx, List.map_toArray, List.map_cons, List.map_nil, run_bsP w, Sem.run_bind, Sem.run_pure, Result.andThen_ok]
  exact h
/-- A page's bytes as one row of their own. -/
theorem page_row {w : World} {base : Nat} {v : Value} {z : Nat → Int} {zs : List Int} (hz : zs = zL z 48) (h : w.ownsRow base 5 1 v zs.length (bl zs)) : ∃ G C, v = .slice (some ⟨G, 0, none⟩) 48 C ∧ base ≤ G ∧ G < w.heap.size ∧ Row1 w G 0 48 z ∧ 48 ≤ C := by
  subst hz
  rw [zL_len, bvs_bl] at h
  obtain ⟨G, C, rfl, h1, h2, h3⟩ := row1_of_own h (by omega)
  exact ⟨G, C, rfl, h1, h2, h3, own_cap h⟩
/-- One page that was just made, as a list. -/
theorem AP.lit {base G C : Nat} {w : World} {Z : Nat → Nat → Int} (hb : base ≤ G) (hG : G < w.heap.size) (hr : Row1 w G 0 48 (Z 0)) (hC : 48 ≤ C) : AP base (w.alloc (.cells #[.slice (some ⟨G, 0, none⟩) 48 C] 55)) (.slice (some ⟨w.heap.size, 0, none⟩) 1 1) 1 (fun _ => 48) Z := by
  refine ⟨fun _ => G, fun _ => C, ?_, fun i j hi hj _ => by omega, fun i hi => ?_⟩
  · exact World.ownsRow_lit (base := base) (size := 1) (e := 55) w #[.slice (some ⟨G, 0, none⟩) 48 C] 1 (by omega) (by unfold maxLen; omega) rfl
  · obtain rfl : i = 0 := by omega
    refine ⟨hb, Nat.lt_of_lt_of_le hG (by rw [World.size_alloc]; omega), fun e => ?_, hr.block ((below_new w _).block _ hG), hC⟩
    simp [Value.ownBlock] at e
    omega
/-- A page's row appended to a list of pages, as a step of a drawn region. -/
theorem step_appP {ops : Array Oper} {o : Oper} {a : Act} {K : Act → World → Prop} {Q : Exit → Act → World → Prop} {E : Prop} (w1 : World) (d : Option Tmp) (hd : o.dst = d) (hgd : o.guard = none) (s x : Operand)
    (ho : o.op = .call { callee := .builtin .append, args := #[s, x], argTypes := #[22, 22] })
    (base k : Nat) (v : Value) (Z : Nat → Nat → Int) (hs : a.eval s = v) (g c : Nat → Nat) (hown : w1.ownsRow base 55 1 v k (slv g (fun _ => 48) c k)) (hj : ∀ i j, i < k → j < k → g i = g j → i = j)
    (hc : ∀ i, i < k → base ≤ g i ∧ g i < w1.heap.size ∧ v.ownBlock ≠ some (g i) ∧ Row1 w1 (g i) 0 48 (Z i) ∧ 48 ≤ c i)
    (G C : Nat) (hx : a.eval x = .slice (some ⟨w1.heap.size, 0, none⟩) 1 1) (hG0 : base ≤ G) (hG1 : G < w1.heap.size) (hG2 : v.ownBlock ≠ some G) (hne : ∀ i, i < k → g i ≠ G) (hr : Row1 w1 G 0 48 (Z k)) (hC : 48 ≤ C) (hk : k ≤ 64)
    (h : ∀ v' w', AP base w' v' (k + 1) (fun _ => 48) Z → (w1.alloc (.cells #[.slice (some ⟨G, 0, none⟩) 48 C] 55)).grownBy w' v.ownBlock → K (a.put d v') w') :
    if Region.wanted o (yielded ops a.tmps) = true then Oper.wp Try.prog o a (w1.alloc (.cells #[.slice (some ⟨G, 0, none⟩) 48 C] 55)) K Q else E := by
  subst hd
  obtain ⟨i0, hi, hz0, hz1, hz2⟩ := info_parts info22
  refine step_append_lies _ hgd s x 22 ho base 55 i0 (.slice none 0 0) 1 24 Try.underlying22 hi hz0 hz1 hz2 rfl (by decide) v k (slv g (fun _ => 48) c k) hs (hown.alloc _) ⟨w1.heap.size, 0, none⟩ 1 1 [.slice (some ⟨G, 0, none⟩) 48 C] hx rfl (cell_one_new _ _ _) ?_ (by decide) (by unfold maxLen; omega) (by omega) (by rw [World.size_alloc]; omega) (w1.heap.size + 1) (World.size_alloc _ _) (fun g' cap' w2 ho2 hg2 hl2 _ => ?_)
  · intro u hu; simp at hu; subst hu; rfl
  · exact h _ _ (AP.step (Z := Z) (L := fun _ => 48) hj hc hG0 hG1 hG2 hne hr hC ho2 hg2 hl2) hg2
end Go.Proofs.Ytldnfiadafmomaa
