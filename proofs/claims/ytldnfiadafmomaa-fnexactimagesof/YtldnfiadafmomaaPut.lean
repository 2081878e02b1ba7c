/- The maker of bytes: the walks of its methods. -/
import Derived.Test.YtldnfiadafmomaaByt
import Derived.Test.YtldnfiadafmomaaSum
import Derived.Deep.RegionLaw
namespace Go.Proofs.Ytldnfiadafmomaa
open Go.RowKit Go.Deep
set_option linter.unusedVariables false

/-- The maker's cell holds a slice that owns the bytes zs. -/
def MK (w : World) (C base : Nat) (v : Value) (zs : List Int) : Prop := w.cell? ⟨C, 0, none⟩ = some v ∧ w.frozen? ⟨C, 0, none⟩ = false ∧ w.ownsRow base 5 1 v zs.length (bl zs)
/-- What was there is as it was, but for the maker's cell and its row. -/
structure Upd (C : Nat) (v : Value) (w w' : World) : Prop where
  os : w'.os = w.os
  tape : w'.tape = w.tape
  output : w'.output = w.output
  size : w.heap.size ≤ w'.heap.size
  block : ∀ k, k < w.heap.size → k ≠ C → v.ownBlock ≠ some k → w'.heap[k]? = w.heap[k]?
def Lies (w : World) (v v' : Value) : Prop := v'.ownBlock = v.ownBlock ∨ ∃ g, w.heap.size ≤ g ∧ v'.ownBlock = some g
theorem Upd.refl (C : Nat) (v : Value) (w : World) : Upd C v w w := ⟨rfl, rfl, rfl, Nat.le_refl _, fun _ _ _ _ => rfl⟩
theorem Upd.trans {C : Nat} {v v1 : Value} {w w1 w2 : World} (h : Upd C v w w1) (l : Lies w v v1) (k : Upd C v1 w1 w2) : Upd C v w w2 := by
  refine ⟨k.os.trans h.os, k.tape.trans h.tape, k.output.trans h.output, Nat.le_trans h.size k.size, fun i hi hC hv => ?_⟩
  refine (k.block i (Nat.lt_of_lt_of_le hi h.size) hC ?_).trans (h.block i hi hC hv)
  rcases l with l | ⟨g, hg, l⟩
  · rw [l]; exact hv
  · rw [l]; intro e; simp at e; omega
theorem Lies.trans {w w1 : World} {v v1 v2 : Value} (h : Lies w v v1) (hs : w.heap.size ≤ w1.heap.size) (k : Lies w1 v1 v2) : Lies w v v2 := by
  rcases k with k | ⟨g, hg, k⟩
  · rcases h with h | ⟨g, hg, h⟩
    · exact .inl (k.trans h)
    · exact .inr ⟨g, hg, k.trans h⟩
  · exact .inr ⟨g, by omega, k⟩
theorem slice_of_own {w : World} {base n : Nat} {v : Value} {xs : List Value} (h : w.ownsRow base 5 1 v n xs) : ∃ a cap, v = .slice a n cap ∧ n ≤ cap + 0 := by
  rcases h.2 with ⟨rfl, h0⟩ | ⟨g, cap, cur, rfl, _, _, hnc, _⟩
  · exact ⟨none, 0, by rw [h0], by omega⟩
  · exact ⟨_, cap, rfl, by omega⟩
/-- One byte appended through the maker's cell. -/
theorem mk_step {wr w1 : World} {C base g cap2 : Nat} {v : Value} {Z : List Int} {z : Int} {c : Array Value} (hC : C < base) (hB : base ≤ wr.heap.size) (hm : MK wr C base v Z)
    (h1 : w1.ownsRow base 5 1 (.slice (some ⟨g, 0, none⟩) (Z.length + 1) cap2) (Z.length + 1) (bl Z ++ [.int .u8 z])) (hg : (wr.alloc (.cells c 5)).drew.grownBy w1 v.ownBlock) (hat : v.ownBlock = some g ∨ g = wr.heap.size + 1) :
    MK (w1.setCell ⟨C, 0, none⟩ (.slice (some ⟨g, 0, none⟩) (Z.length + 1) cap2)) C base (.slice (some ⟨g, 0, none⟩) (Z.length + 1) cap2) (Z ++ [z]) ∧ Upd C v wr (w1.setCell ⟨C, 0, none⟩ (.slice (some ⟨g, 0, none⟩) (Z.length + 1) cap2)) ∧ Lies wr v (.slice (some ⟨g, 0, none⟩) (Z.length + 1) cap2) := by
  obtain ⟨m1, m2, m3⟩ := hm
  have hlt : C < (wr.alloc (.cells c 5)).drew.heap.size := by show C < (wr.alloc (.cells c 5)).heap.size; rw [World.size_alloc]; omega
  have hne : some C ≠ v.ownBlock := fun e => by have := (m3.lt C e.symm).1; omega
  have hblk : ∀ k, k < wr.heap.size → v.ownBlock ≠ some k → w1.heap[k]? = wr.heap[k]? := fun k hk hv => by
    rw [hg.block k (by show k < (wr.alloc (.cells c 5)).heap.size; rw [World.size_alloc]; omega) (fun e => hv e.symm)]
    exact Below.heap_alloc _ _ _ hk
  have hcell : w1.cell? ⟨C, 0, none⟩ = some v := (World.cell?_of_block (w := wr) (a := ⟨C, 0, none⟩) (hblk C (by omega) (fun e => hne e.symm))).trans m1
  have hfz : w1.frozen? ⟨C, 0, none⟩ = false := (World.frozen?_of_block (w := wr) (a := ⟨C, 0, none⟩) (hblk C (by omega) (fun e => hne e.symm))).trans m2
  have hsz : wr.heap.size ≤ w1.heap.size := by have := hg.size; simp at this; omega
  refine ⟨⟨?_, ?_, ?_⟩, ⟨?_, ?_, ?_, ?_, ?_⟩, ?_⟩
  · exact World.cell?_setCell_same _ _ _ hcell
  · show (w1.setCell ⟨C, 0, none⟩ _).frozen? ⟨C, 0, none⟩ = false
    rw [World.frozen?_setCell]; exact hfz
  · rw [List.length_append, bl_app]
    exact ownsRow_setCell_below (a := ⟨C, 0, none⟩) h1 hC _
  · exact hg.os
  · exact hg.tape
  · exact hg.output
  · show wr.heap.size ≤ (w1.setCell ⟨C, 0, none⟩ _).heap.size
    simpa [World.setCell] using hsz
  · intro k hk hkC hv
    show (w1.setCell ⟨C, 0, none⟩ _).heap[k]? = _
    rw [Below.heap_setCell _ _ _ _ hkC]
    exact hblk k hk hv
  · rcases hat with h | h
    · exact .inl h.symm
    · exact .inr ⟨g, by omega, rfl⟩
theorem cell_C {wr w1 : World} {C base : Nat} {v : Value} {Z : List Int} {c : Array Value} (hC : C < base) (hB : base ≤ wr.heap.size) (hm : MK wr C base v Z) (hg : (wr.alloc (.cells c 5)).drew.grownBy w1 v.ownBlock) :
    w1.cell? ⟨C, 0, none⟩ = some v ∧ w1.frozen? ⟨C, 0, none⟩ = false := by
  obtain ⟨m1, m2, m3⟩ := hm
  have hne : some C ≠ v.ownBlock := fun e => by have := (m3.lt C e.symm).1; omega
  have hblk : w1.heap[C]? = wr.heap[C]? := by
    rw [hg.block C (by show C < (wr.alloc (.cells c 5)).heap.size; rw [World.size_alloc]; omega) hne]
    exact Below.heap_alloc _ _ _ (by omega)
  exact ⟨(World.cell?_of_block (w := wr) (a := ⟨C, 0, none⟩) hblk).trans m1, (World.frozen?_of_block (w := wr) (a := ⟨C, 0, none⟩) hblk).trans m2⟩

theorem one_u8 (z : Int) : ∀ u ∈ [Value.int .u8 z], u.oneCell' = true := by intro u hu; simp at hu; subst hu; rfl
theorem le_max {n : Nat} (h : n ≤ 1004) : n + 1 ≤ maxLen := by unfold maxLen; omega
theorem le_by {n : Nat} (h : n ≤ 1004) : (n + 1) * 1 ≤ 140737488355328 := by omega
theorem le_al {w : World} {o : Obj} {b : Nat} (h : b ≤ w.heap.size) : b ≤ (w.alloc o).drew.heap.size := by show b ≤ (w.alloc o).heap.size; rw [World.size_alloc]; omega
end Go.Proofs.Ytldnfiadafmomaa
