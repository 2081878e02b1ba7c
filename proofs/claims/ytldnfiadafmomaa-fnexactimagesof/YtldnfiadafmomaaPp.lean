/- putPage: the walk. -/
import Derived.Test.YtldnfiadafmomaaFil
namespace Go.Proofs.Ytldnfiadafmomaa
open Go.RowKit Go.Deep
set_option linter.unusedVariables false

/-- Where putPage stands: the maker's bytes, the page's box, and that nothing older but the maker's cell has turned. -/
structure St (w : World) (C : Nat) (idn lsn : Int) (sl : Value) (wi : World) (v : Value) (zs : List Int) : Prop where
  mkr : MK wi C (w.heap.size + 1) v zs
  box : Box3 wi w.heap.size (.int .i64 idn) (.int .i64 lsn) sl
  os : wi.os = w.os
  tape : wi.tape = w.tape
  output : wi.output = w.output
  hsz : w.heap.size + 1 ≤ wi.heap.size
  block : ∀ k, k < w.heap.size → k ≠ C → wi.heap[k]? = w.heap[k]?
theorem own_far {w : World} {base n k : Nat} {v : Value} {xs : List Value} (h : w.ownsRow base 5 1 v n xs) (hk : k < base) : v.ownBlock ≠ some k := fun e => by have := (h.lt k e).1; omega
theorem own_lt {w : World} {base n k : Nat} {v : Value} {xs : List Value} (h : w.ownsRow base 5 1 v n xs) (hk : w.heap.size ≤ k) : v.ownBlock ≠ some k := fun e => by have := (h.lt k e).2; omega
theorem St.step {w wi wj : World} {C : Nat} {idn lsn : Int} {sl v v' : Value} {zs zs' : List Int} (h : St w C idn lsn sl wi v zs) (hC : C < w.heap.size) (hm : MK wj C (w.heap.size + 1) v' zs') (hu : Upd C v wi.drew wj) : St w C idn lsn sl wj v' zs' := by
  have hb := fun k (hk : k < wi.heap.size) (hkC : k ≠ C) (hv : v.ownBlock ≠ some k) => hu.block k hk hkC hv
  have hB := hb w.heap.size (by have := h.hsz; omega) (by omega) (own_far h.mkr.2.2 (by omega))
  refine ⟨hm, ⟨?_, ?_, ?_⟩, hu.os.trans h.os, hu.tape.trans h.tape, hu.output.trans h.output, Nat.le_trans h.hsz hu.size, fun k hk hkC => (hb k (by have := h.hsz; omega) hkC (own_far h.mkr.2.2 (by omega))).trans (h.block k hk hkC)⟩
  · exact (World.cell?_of_block (w := wi) (a := ⟨w.heap.size, 0, none⟩) hB).trans h.box.1
  · exact (World.cell?_of_block (w := wi) (a := ⟨w.heap.size, 1, none⟩) hB).trans h.box.2.1
  · exact (World.cell?_of_block (w := wi) (a := ⟨w.heap.size, 2, none⟩) hB).trans h.box.2.2
theorem St.alloc {w wi : World} {C : Nat} {idn lsn : Int} {sl v : Value} {zs : List Int} (h : St w C idn lsn sl wi v zs) (hC : C < w.heap.size) (o : Array Value) (t : TypeId) : St w C idn lsn sl (wi.alloc (.cells o t)) v zs := by
  refine ⟨⟨cell_alloc h.mkr.1 _, ?_, h.mkr.2.2.alloc _⟩, h.box.alloc _, h.os, h.tape, h.output, by have := h.hsz; rw [World.size_alloc]; omega, fun k hk hkC => (Below.heap_alloc _ _ _ (by have := h.hsz; omega)).trans (h.block k hk hkC)⟩
  rw [frozen?_alloc_cells]; exact h.mkr.2.1
/-- The bytes of the first k cells. -/
def cb (K V : Nat → Int) : Nat → List Int
  | 0 => []
  | k + 1 => cb K V k ++ nb (K k) 1 ++ nb (V k) 2
theorem cb_len (K V : Nat → Int) : ∀ k, (cb K V k).length = 3 * k
  | 0 => rfl
  | k + 1 => by simp [cb, cb_len K V k, nb_len]; omega
def hd (idn lsn : Int) (n : Nat) : List Int := nb idn 1 ++ nb lsn 4 ++ nb (n : Int) 1
theorem hd_len (idn lsn : Int) (n : Nat) : (hd idn lsn n).length = 6 := by simp [hd, nb_len]
def bdy (idn lsn : Int) (n : Nat) (K V : Nat → Int) : List Int := hd idn lsn n ++ cb K V n
def fld (idn lsn : Int) (n : Nat) (K V : Nat → Int) : List Int := bdy idn lsn n K V ++ List.replicate (46 - (bdy idn lsn n K V).length) 0
def pgb (idn lsn : Int) (n : Nat) (K V : Nat → Int) : List Int := fld idn lsn n K V ++ nb (sm (fld idn lsn n K V)) 2
theorem nb_byt (x : Int) : ∀ s, BytL (nb x s)
  | 0 => fun z hz => by simp [nb] at hz
  | s + 1 => fun z hz => by
    simp only [nb, List.mem_cons] at hz
    rcases hz with rfl | hz
    · exact byt_bd x s
    · exact nb_byt x s z hz
theorem BytL.app {a b : List Int} (h : BytL a) (k : BytL b) : BytL (a ++ b) := fun z hz => by
  rcases List.mem_append.1 hz with hz | hz
  · exact h z hz
  · exact k z hz
theorem cb_byt (K V : Nat → Int) : ∀ k, BytL (cb K V k)
  | 0 => fun z hz => by simp [cb] at hz
  | k + 1 => ((cb_byt K V k).app (nb_byt _ _)).app (nb_byt _ _)
theorem fld_byt (idn lsn : Int) (n : Nat) (K V : Nat → Int) : BytL (fld idn lsn n K V) :=
  ((((nb_byt _ _).app (nb_byt _ _)).app (nb_byt _ _)).app (cb_byt K V n)).app fun z hz => by rw [List.eq_of_mem_replicate hz]; omega

theorem cbox2 {wr wA wB : World} {C base : Nat} {v vA : Value} {Z : List Int} {o : Obj} {x y : Value} (hm : MK wr C base v Z) (hC : C < wr.heap.size) (hl : Lies (wr.alloc o).drew v vA) (hlt : wr.heap.size < wA.heap.size) (hu : Upd C vA wA.drew wB)
    (h0 : wA.cell? ⟨wr.heap.size, 0, none⟩ = some x) (h1 : wA.cell? ⟨wr.heap.size, 1, none⟩ = some y) : wB.cell? ⟨wr.heap.size, 0, none⟩ = some x ∧ wB.cell? ⟨wr.heap.size, 1, none⟩ = some y := by
  have hne : vA.ownBlock ≠ some wr.heap.size := by
    rcases hl with hl | ⟨g, hg, hl⟩
    · rw [hl]; exact own_lt hm.2.2 (Nat.le_refl _)
    · rw [hl]
      have hg' : (wr.alloc o).heap.size ≤ g := hg
      rw [World.size_alloc] at hg'
      intro e; simp at e; omega
  have hb := hu.block wr.heap.size hlt (by omega) hne
  exact ⟨(World.cell?_of_block (w := wA) (a := ⟨wr.heap.size, 0, none⟩) hb).trans h0, (World.cell?_of_block (w := wA) (a := ⟨wr.heap.size, 1, none⟩) hb).trans h1⟩

end Go.Proofs.Ytldnfiadafmomaa
