/- Records in bytes: putRec and impl.PackRec. -/
import Derived.Test.YtldnfiadafmomaaPr
namespace Go.Proofs.Ytldnfiadafmomaa
open Go.RowKit Go.Deep
set_option linter.unusedVariables false
set_option maxRecDepth 20000

/-- Where putRec stands. -/
structure Sr (w wB : World) (C : Nat) (wi : World) (v : Value) (zs : List Int) : Prop where
  mkr : MK wi C (w.heap.size + 1) v zs
  os : wi.os = w.os
  tape : wi.tape = w.tape
  output : wi.output = w.output
  hsz : w.heap.size + 1 ≤ wi.heap.size
  block : ∀ k, k < w.heap.size + 1 → k ≠ C → wi.heap[k]? = wB.heap[k]?
theorem Sr.alloc {w wB wi : World} {C : Nat} {v : Value} {zs : List Int} (h : Sr w wB C wi v zs) (o : Array Value) (t : TypeId) : Sr w wB C (wi.alloc (.cells o t)) v zs := by
  refine ⟨⟨cell_alloc h.mkr.1 _, ?_, h.mkr.2.2.alloc _⟩, h.os, h.tape, h.output, by have := h.hsz; rw [World.size_alloc]; omega, fun k hk hkC => (Below.heap_alloc _ _ _ (by have := h.hsz; omega)).trans (h.block k hk hkC)⟩
  rw [frozen?_alloc_cells]; exact h.mkr.2.1
theorem Sr.step {w wB wi wj : World} {C : Nat} {v v' : Value} {zs zs' : List Int} (h : Sr w wB C wi v zs) (hm : MK wj C (w.heap.size + 1) v' zs') (hu : Upd C v wi wj) : Sr w wB C wj v' zs' :=
  ⟨hm, hu.os.trans h.os, hu.tape.trans h.tape, hu.output.trans h.output, Nat.le_trans h.hsz hu.size, fun k hk hkC => (hu.block k (by have := h.hsz; omega) hkC (own_far h.mkr.2.2 hk)).trans (h.block k hk hkC)⟩
theorem Sr.below {w wB wi wj : World} {C : Nat} {v : Value} {zs : List Int} (h : Sr w wB C wi v zs) (hC : C < w.heap.size) (hb : Below wi.heap.size wi wj) : Sr w wB C wj v zs :=
  ⟨⟨cell_below h.mkr.1 hb, (hb.frozen (p := ⟨C, 0, none⟩) (by have := h.hsz; show C < _; omega)).trans h.mkr.2.1, rowB_below h.mkr.2.2 hb⟩, hb.os.trans h.os, hb.tape.trans h.tape, hb.output.trans h.output, by have := h.hsz; have := hb.size; omega, fun k hk hkC => (hb.block k (by have := h.hsz; omega)).trans (h.block k hk hkC)⟩
theorem Sr.cell {w wB wi : World} {C : Nat} {v x : Value} {zs : List Int} {i : Nat} (h : Sr w wB C wi v zs) (hC : C < w.heap.size) (hx : wB.cell? ⟨w.heap.size, i, none⟩ = some x) : wi.cell? ⟨w.heap.size, i, none⟩ = some x :=
  (World.cell?_of_block (w := wB) (a := ⟨w.heap.size, i, none⟩) (h.block w.heap.size (by omega) (by omega))).trans hx
/-- The eight cells of a record's box. -/
def Box8 (w : World) (B : Nat) (k t key : Int) (hd : Bool) (old : Int) (hs : Bool) (nw bk : Int) : Prop := w.cell? ⟨B, 0, none⟩ = some (.int .i64 k) ∧ w.cell? ⟨B, 1, none⟩ = some (.int .i64 t) ∧ w.cell? ⟨B, 2, none⟩ = some (.int .i64 key) ∧ w.cell? ⟨B, 3, none⟩ = some (.bool hd) ∧ w.cell? ⟨B, 4, none⟩ = some (.int .i64 old) ∧ w.cell? ⟨B, 5, none⟩ = some (.bool hs) ∧ w.cell? ⟨B, 6, none⟩ = some (.int .i64 nw) ∧ w.cell? ⟨B, 7, none⟩ = some (.int .i64 bk)
theorem Box8.below {w w' : World} {B : Nat} {k t key : Int} {hd : Bool} {old : Int} {hs : Bool} {nw bk : Int} (h : Box8 w B k t key hd old hs nw bk) (hb : Below w.heap.size w w') : Box8 w' B k t key hd old hs nw bk :=
  ⟨cell_below h.1 hb, cell_below h.2.1 hb, cell_below h.2.2.1 hb, cell_below h.2.2.2.1 hb, cell_below h.2.2.2.2.1 hb, cell_below h.2.2.2.2.2.1 hb, cell_below h.2.2.2.2.2.2.1 hb, cell_below h.2.2.2.2.2.2.2 hb⟩
def two (x y : Int) (i : Nat) : Int := if i = 0 then x else y
def thr (x y z : Int) (i : Nat) : Int := if i = 0 then x else if i = 1 then y else z
/-- The eleven bytes ahead of the sum. -/
def rbb (k t key : Int) (hd : Bool) (old : Int) (hs : Bool) (nw bk : Int) : List Int := nb k 1 ++ nb t 2 ++ (nb key 1 ++ nb (fl hd hs) 1) ++ (nb old 2 ++ nb nw 2 ++ nb bk 2)
/-- The bytes of a record. -/
def rb (k t key : Int) (hd : Bool) (old : Int) (hs : Bool) (nw bk : Int) : List Int := rbb k t key hd old hs nw bk ++ nb (sm (rbb k t key hd old hs nw bk)) 2
theorem rbb_len (k t key : Int) (hd : Bool) (old : Int) (hs : Bool) (nw bk : Int) : (rbb k t key hd old hs nw bk).length = 11 := by simp [rbb, nb_len]
theorem rb_len (k t key : Int) (hd : Bool) (old : Int) (hs : Bool) (nw bk : Int) : (rb k t key hd old hs nw bk).length = 13 := by simp [rb, rbb_len, nb_len]
theorem rbb_byt (k t key : Int) (hd : Bool) (old : Int) (hs : Bool) (nw bk : Int) : BytL (rbb k t key hd old hs nw bk) := (((nb_byt _ _).app (nb_byt _ _)).app ((nb_byt _ _).app (nb_byt _ _))).app (((nb_byt _ _).app (nb_byt _ _)).app (nb_byt _ _))
theorem rb_byt (k t key : Int) (hd : Bool) (old : Int) (hs : Bool) (nw bk : Int) : BytL (rb k t key hd old hs nw bk) := (rbb_byt k t key hd old hs nw bk).app (nb_byt _ _)
/-- Numbers of a good record. -/
structure GoodR (k t key : Int) (hd : Bool) (old : Int) (hs : Bool) (nw bk : Int) : Prop where
  k : 0 ≤ k ∧ k ≤ 6
  t : 0 ≤ t ∧ t ≤ 999
  key : 0 ≤ key ∧ key ≤ 31
  old : 0 ≤ old ∧ old ≤ 9999
  nw : 0 ≤ nw ∧ nw ≤ 9999
  bk : 0 ≤ bk ∧ bk ≤ 1000
theorem goodR_of (k t key : Int) (hd : Bool) (old : Int) (hs : Bool) (nw bk : Int) (h : rf k t key hd old hs nw bk = 0) : GoodR k t key hd old hs nw bk := by
  unfold rf at h
  by_cases h1 : rng k t key old nw bk = true
  · simp only [rng, Bool.and_eq_true, inB_iff] at h1
    obtain ⟨⟨⟨⟨⟨a, b⟩, c⟩, d⟩, e⟩, f⟩ := h1
    refine ⟨by omega, ?_, c, d, e, f⟩
    unfold txb at b
    split at b
    · simp at b; omega
    · rw [inB_iff] at b; omega
  · rw [if_neg h1] at h; omega
theorem drewB {w1 w2 : World} (hb : Below w1.drew.heap.size w1.drew w2) : Below w1.heap.size w1 w2 := ((Below.refl _ _).drew).trans hb
end Go.Proofs.Ytldnfiadafmomaa
