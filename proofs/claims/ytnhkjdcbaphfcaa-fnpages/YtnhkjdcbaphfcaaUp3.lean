/- spec.UnpackPage: its parts. -/
import Derived.Test.YtnhkjdcbaphfcaaUp2
import Derived.Test.YtnhkjdcbaphfcaaSw
import Derived.Test.YtnhkjdcbaphfcaaCv
import Derived.Deep.DeepCutAuto
import Derived.BigQuiet
namespace Go.Proofs.Ytnhkjdcbaphfcaa
open Go.RowKit Go.Deep
set_option linter.unusedVariables false
set_option maxRecDepth 20000

theorem takeG {b off n cap : Nat} {x y : Int} (z : Nat → Int) (i m : Nat) (w : World) (h : BA w b off n z) (hz : Byt n z) (hx : x = i) (hy : y = m) (hm : m ≤ 4) (him : i + m ≤ n) (hn : n ≤ 1000) :
    Calls Try.prog 36 #[.slice (some ⟨b, off, none⟩) n cap, .int .i64 x, .int .i64 y] w fun e w' => e = .returned (.int .i64 (num z i m)) ∧ w' = w := by
  subst hx hy
  exact l1Take_some n i m z b off cap w hm him hn hz h
theorem sumT {b off m cap : Nat} (z : Nat → Int) (n : Nat) (w : World) (h : BA w b off n z) (hz : Byt n z) (hm : m ≤ n) (hn : n ≤ 1000) :
    Calls Try.prog 37 #[.slice (some ⟨b, off, none⟩) m cap] w fun e w' => e = .returned (.int .i64 (sumB z m)) ∧ w' = w :=
  specSum_some m z b off cap w (by omega) (fun i hi => hz i (by omega)) (fun i hi => h i (by omega))
theorem Rp.stepG {z : Nat → Int} {w W0 wr Wd w1 : World} {v v' : Value} {k : Nat} (h : Rp z w W0 wr v k) (hW : Below wr.heap.size wr Wd)
    (ho : w1.ownsRow (w.heap.size + 2) 45 2 v' (k + 1) (cl (lst (rpK z) (rpV z) 0 k) ++ [.int .i64 (rpK z k), .int .i64 (rpV z k)])) (hg : Wd.grownBy w1 v.ownBlock) :
    (w1.cell? ⟨w.heap.size + 1, 2, none⟩ = some v ∧ w1.frozen? ⟨w.heap.size + 1, 2, none⟩ = false) ∧ Rp z w W0 (w1.setCell ⟨w.heap.size + 1, 2, none⟩ v') v' (k + 1) ∧ Below w.heap.size w w1 := by
  have hsz := h.hsz
  have hs2 := hW.size
  have hne : ∀ q, q < w.heap.size + 2 → some q ≠ v.ownBlock := fun q hq e => by have := (h.own.lt q e.symm).1; omega
  have hblk : ∀ q, q < w.heap.size + 2 → w1.heap[q]? = wr.heap[q]? := fun q hq => (hg.block q (by omega) (hne q hq)).trans (hW.block q (by omega))
  have hcell : ∀ i, w1.cell? ⟨w.heap.size + 1, i, none⟩ = wr.cell? ⟨w.heap.size + 1, i, none⟩ := fun i => World.cell?_of_block (w := wr) (a := ⟨w.heap.size + 1, i, none⟩) (hblk (w.heap.size + 1) (by omega))
  have hfz : ∀ i, w1.frozen? ⟨w.heap.size + 1, i, none⟩ = false := fun i => (World.frozen?_of_block (w := wr) (a := ⟨w.heap.size + 1, i, none⟩) (hblk (w.heap.size + 1) (by omega))).trans (h.fz i)
  have hB : Below w.heap.size w w1 := (h.below.trans (hW.mono (by omega))).grown hg (by omega) fun q hq => by have := (h.own.lt q hq).1; omega
  refine ⟨⟨(hcell 2).trans h.c2, hfz 2⟩, ⟨hB.setCell (p := ⟨w.heap.size + 1, 2, none⟩) (by show w.heap.size ≤ w.heap.size + 1; omega) _, ?_, ?_, ?_, ?_, ?_, ?_, ?_⟩, hB⟩
  · have := hg.size; show w.heap.size + 2 ≤ (w1.setCell _ _).heap.size; simp [World.setCell]; omega
  · rw [setO (by omega)]; exact (hcell 0).trans h.c0
  · rw [setO (by omega)]; exact (hcell 1).trans h.c1
  · exact setS ((hcell 2).trans h.c2)
  · intro i; rw [World.frozen?_setCell]; exact hfz i
  · rw [Below.heap_setCell _ _ _ _ (by show w.heap.size ≠ w.heap.size + 1; omega)]; exact (hblk _ (by omega)).trans h.res
  · rw [lst_succ, cl_app]
    exact ownsRow_setCell_below (a := ⟨w.heap.size + 1, 2, none⟩) ho (by show w.heap.size + 1 < w.heap.size + 2; omega) _
/-- A cell is appended to the page's: one step of a region that draws. -/
theorem step_cell {ops : Array Oper} {o : Oper} {a : Act} {K : Act → World → Prop} {Q : Exit → Act → World → Prop} {E : Prop} {k : Nat} {z : Nat → Int} {w W0 wr Wd : World} {v : Value} {x1 x2 : Int} (hgd : o.guard = none) (s x : Operand)
    (ho : o.op = .call { callee := .builtin .append, args := #[s, x], argTypes := #[25, 25] })
    (h : Rp z w W0 wr v k) (hk : k ≤ 13) (hs : a.eval s = v) (hW : Below wr.heap.size wr Wd) (hx : a.eval x = .slice (some ⟨wr.heap.size, 0, none⟩) 1 1)
    (hn : ∀ j u, [Value.int .i64 x1, Value.int .i64 x2][j]? = some u → Wd.cell? ((⟨wr.heap.size, 0, none⟩ : Addr).add j) = some u) (e1 : x1 = rpK z k) (e2 : x2 = rpV z k)
    (hK : ∀ a1 cp1 w1, w1.cell? ⟨w.heap.size + 1, 2, none⟩ = some v → w1.frozen? ⟨w.heap.size + 1, 2, none⟩ = false → Hid (Rp z w W0 (w1.setCell ⟨w.heap.size + 1, 2, none⟩ (.slice a1 (k + 1) cp1)) (.slice a1 (k + 1) cp1) (k + 1)) → K (a.put o.dst (.slice a1 (k + 1) cp1)) w1) :
    if Region.wanted o (yielded ops a.tmps) = true then Oper.wp Try.prog o a Wd K Q else E := by
  have hsz := h.hsz
  have hs2 := hW.size
  have ho2 : Wd.ownsRow (w.heap.size + 2) 45 2 v k (cl (lst (rpK z) (rpV z) 0 k)) := h.own.kept (row := none) ⟨hW.os, hW.tape, hW.output, hW.size, fun q hq _ => hW.block q hq⟩ (by cases hv : v.ownBlock <;> simp)
  refine step_app _ hgd s x ho (w.heap.size + 2) v k _ hs ho2 ⟨wr.heap.size, 0, none⟩ 1 1 [.int .i64 x1, .int .i64 x2] hx rfl hn (two_i64 _ _) (by omega) (by omega) ?_
  intro v1 w1 ho1 hg1
  obtain ⟨a1, cp1, rfl⟩ := slice_of_cells ho1
  subst e1 e2
  obtain ⟨⟨s2, sf⟩, hR1, hB1⟩ := h.stepG hW ho1 hg1
  exact hK a1 cp1 w1 s2 sf hR1
def rsN (z : Nat → Int) : Nat := if z 5 ≤ 13 then (z 5).toNat else 13
theorem rsN_le (z : Nat → Int) : rsN z ≤ 13 := by unfold rsN; split <;> omega
theorem rp_z0 (z : Nat → Int) : num z 0 1 = z 0 := by simp [num]
theorem rpK_z (z : Nat → Int) (k : Nat) : z (6 + 3 * k) = rpK z k := by simp [rpK, num]
theorem cell_two_new3 (w : World) (a b : Value) (t : TypeId) : ∀ j u, [a, b][j]? = some u → (w.alloc (.cells #[a, b] t)).cell? ((⟨w.heap.size, 0, none⟩ : Addr).add j) = some u := by
  intro j u hj
  rw [WideShapes.add_plain]
  rcases j with _ | _ | j
  · simp at hj; subst hj; simp
  · simp at hj; subst hj; simp
  · simp at hj
def sliceA : Value → Option Addr
  | .slice a _ _ => a
  | _ => none
theorem own_rp {z : Nat → Int} {w W0 wr : World} {v : Value} {k : Nat} (h : Rp z w W0 wr v k) : Own wr (w.heap.size + 2) wr.heap.size (sliceA v) k (rpK z) (rpV z) := by
  have hl : (lst (rpK z) (rpV z) 0 k).length = k := lst_len _ _ _ _
  obtain ⟨a', cap', e, ho⟩ := own_of_row (L := lst (rpK z) (rpV z) 0 k) (by rw [hl]; exact h.own)
  rw [hl] at ho e
  subst e
  exact ho.congr (K' := rpK z) (V' := rpV z) (fun i hi => by have := (lst_get (rpK z) (rpV z) 0 k i hi).1; rwa [Nat.zero_add] at this) (fun i hi => by have := (lst_get (rpK z) (rpV z) 0 k i hi).2; rwa [Nat.zero_add] at this)
theorem drewB2 {w1 w2 : World} (hb : Below w1.drew.heap.size w1.drew w2) : Below w1.heap.size w1 w2 := ((Below.refl _ _).drew).trans hb
theorem up_k {z : Nat → Int} {k : Nat} (hk : rsN z = k) (h5 : 0 ≤ z 5 ∧ z 5 ≤ 255) (h12 : k ≤ 12) : k = rpN z := by
  unfold rsN at hk
  unfold rpN
  split at hk <;> split <;> omega
theorem up_good {z : Nat → Int} {k : Nat} (hs : num z 46 2 = sumB z 46) (hk : rsN z = k) (h5 : 0 ≤ z 5 ∧ z 5 ≤ 255) (h12 : k ≤ 12) (hp : pf (num z 0 1) (num z 1 4) k (rpK z) (rpV z) = 0) : upc z 48 = if again z = zL z 48 then 0 else 5 := by
  have e := up_k hk h5 h12
  rw [upc, if_neg (by omega), if_neg (by simpa using hs)]
  rw [e] at hp
  have hp' : againF z = 0 := hp
  simp [hp']
theorem up_5 {z : Nat → Int} (hs : num z 46 2 = sumB z 46) (h : upc z 48 ≠ 0) : upc z 48 = 5 := by
  rw [upc, if_neg (by omega), if_neg (by simpa using hs)] at h ⊢
  split
  · rename_i e; rw [if_pos e] at h; exact absurd rfl h
  · rfl
theorem again5 (z : Nat → Int) : (again z).getD 5 0 = rpN z := by
  have hn := rpN_le z
  simp [again, pgb, fld, bdy, hd, nb, byt, List.getD]
  omega
theorem up_k0 {z : Nat → Int} {k : Nat} (hk : rsN z = k) (h5 : 0 ≤ z 5 ∧ z 5 ≤ 255) (hs : num z 46 2 = sumB z 46) (h : upc z 48 = 0) : k = rpN z := by
  rw [upc, if_neg (by omega), if_neg (by simpa using hs)] at h
  by_cases e : againF z = 0 ∧ again z = zL z 48
  · have h2 := again5 z
    rw [e.2, zL_get z 48 5 (by decide)] at h2
    have hn := rpN_le z
    exact up_k hk h5 (by unfold rsN at hk; split at hk <;> omega)
  · rw [if_neg e] at h; omega
theorem up_bad {z : Nat → Int} {k : Nat} (hs : num z 46 2 = sumB z 46) (hk : rsN z = k) (h5 : 0 ≤ z 5 ∧ z 5 ≤ 255) (hp : ¬ pf (num z 0 1) (num z 1 4) k (rpK z) (rpV z) = 0) : upc z 48 = 5 := by
  refine up_5 hs fun h => ?_
  have e := up_k0 hk h5 hs h
  rw [upc, if_neg (by omega), if_neg (by simpa using hs)] at h
  by_cases c : againF z = 0 ∧ again z = zL z 48
  · exact hp (by rw [e]; exact c.1)
  · rw [if_neg c] at h; omega
theorem convS {b off cap : Nat} {z : Nat → Int} {w : World} {s : ByteArray} (hs : s = strOfNums (zL z 48)) (h : BA w b off 48 z) : (convert 22 9 (.slice (some ⟨b, off, none⟩) 48 cap)).run Try.prog w = .ok (.string s) w := by
  rw [hs]; exact convBA w h
theorem convA {z : Nat → Int} {k B : Nat} {w : World} {v : Value} {s : ByteArray} (hs : s = strOfNums (again z)) (hk : k = rpN z) (h : w.ownsRow B 5 1 v (pgb (num z 0 1) (num z 1 4) k (rpK z) (rpV z)).length (bl (pgb (num z 0 1) (num z 1 4) k (rpK z) (rpV z)))) :
    ∃ G C, v = .slice (some ⟨G, 0, none⟩) 48 C ∧ (convert 22 9 (.slice (some ⟨G, 0, none⟩) 48 C)).run Try.prog w = .ok (.string s) w := by
  subst hk
  have hl : (pgb (num z 0 1) (num z 1 4) (rpN z) (rpK z) (rpV z)).length = 48 := pgb_48 (rpN_le z)
  rw [hl] at h
  obtain ⟨G, C, rfl, -, -⟩ := h.form (by decide)
  refine ⟨G, C, rfl, ?_⟩
  rw [hs]
  exact convRow w hl h
theorem bz1 {w : World} {b off n : Nat} {z : Nat → Int} (h : BA w b off n z ∧ w.cell? ⟨b, off, none⟩ = some (.int .u8 (z 0))) : BA w b off n z := h.1
theorem bz_alloc {w : World} {b off n : Nat} {z : Nat → Int} {v : Value} (h : BA w b off n z ∧ w.cell? ⟨b, off, none⟩ = some v) (o : Obj) : BA (w.alloc o) b off n z ∧ (w.alloc o).cell? ⟨b, off, none⟩ = some v := ⟨h.1.alloc o, cell_alloc h.2 o⟩
theorem baz_set {w : World} {b off n B : Nat} {x y u v : Value} {z : Nat → Int} (hb : b ≠ B) (h : BA w b off n z ∧ w.cell? ⟨b, off, none⟩ = some v) : BA (((w.setCell ⟨B, 0, none⟩ x).setCell ⟨B, 1, none⟩ y).setCell ⟨B, 2, none⟩ u) b off n z ∧ (((w.setCell ⟨B, 0, none⟩ x).setCell ⟨B, 1, none⟩ y).setCell ⟨B, 2, none⟩ u).cell? ⟨b, off, none⟩ = some v := by
  refine ⟨((h.1.set hb).set hb).set hb, ?_⟩
  rw [World.cell?_setCell_other _ _ _ _ (by intro e; exact hb (congrArg Addr.block e).symm), World.cell?_setCell_other _ _ _ _ (by intro e; exact hb (congrArg Addr.block e).symm), World.cell?_setCell_other _ _ _ _ (by intro e; exact hb (congrArg Addr.block e).symm)]
  exact h.2
end Go.Proofs.Ytnhkjdcbaphfcaa
