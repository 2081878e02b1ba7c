/- The maker of bytes: fillTo and putSum. -/
import Derived.Test.YtldnfiadafmomaaPut
namespace Go.Proofs.Ytldnfiadafmomaa
open Go.RowKit Go.Deep
set_option linter.unusedVariables false

/-- One byte appended through the maker's cell, in a plain region. -/
theorem mk_step' {wr w1 : World} {C base g cap2 : Nat} {v : Value} {Z : List Int} {z : Int} {c : Array Value} (hC : C < base) (hB : base ≤ wr.heap.size) (hm : MK wr C base v Z)
    (h1 : w1.ownsRow base 5 1 (.slice (some ⟨g, 0, none⟩) (Z.length + 1) cap2) (Z.length + 1) (bl Z ++ [.int .u8 z])) (hg : (wr.alloc (.cells c 5)).grownBy w1 v.ownBlock) (hat : v.ownBlock = some g ∨ g = wr.heap.size + 1) :
    MK (w1.setCell ⟨C, 0, none⟩ (.slice (some ⟨g, 0, none⟩) (Z.length + 1) cap2)) C base (.slice (some ⟨g, 0, none⟩) (Z.length + 1) cap2) (Z ++ [z]) ∧ Upd C v wr (w1.setCell ⟨C, 0, none⟩ (.slice (some ⟨g, 0, none⟩) (Z.length + 1) cap2)) ∧ Lies wr v (.slice (some ⟨g, 0, none⟩) (Z.length + 1) cap2) :=
  mk_step (c := c) hC hB hm h1 ⟨hg.os, hg.tape, hg.output, hg.size, hg.block⟩ hat
theorem cell_C' {wr w1 : World} {C base : Nat} {v : Value} {Z : List Int} {c : Array Value} (hC : C < base) (hB : base ≤ wr.heap.size) (hm : MK wr C base v Z) (hg : (wr.alloc (.cells c 5)).grownBy w1 v.ownBlock) :
    w1.cell? ⟨C, 0, none⟩ = some v ∧ w1.frozen? ⟨C, 0, none⟩ = false :=
  cell_C (c := c) hC hB hm ⟨hg.os, hg.tape, hg.output, hg.size, hg.block⟩

theorem bytes_of_own {w : World} {base : Nat} {a : Option Addr} {cap : Nat} {zs : List Int} (h : w.ownsRow base 5 1 (.slice a zs.length cap) zs.length (bl zs)) : BytesAt w a zs.length (fun i => zs.getD i 0) := by
  rcases h.2 with ⟨_, h0⟩ | ⟨g, cap2, cur, e, hbg, hg, hnc, hcm, hcs, htake⟩
  · exact .inl h0
  · simp only [Value.slice.injEq] at e
    obtain ⟨rfl, -, rfl⟩ := e
    refine .inr ⟨g, 0, rfl, ?_, fun i hi => ?_⟩
    · obtain ⟨hlt, _⟩ := Array.getElem?_eq_some_iff.1 hg
      exact hlt
    · have := h.cellAt i (by omega)
      rw [Nat.zero_add, this]
      simp [bl, hi]
def sm (zs : List Int) : Int := sumB (fun i => zs.getD i 0) zs.length
def BytL (zs : List Int) : Prop := ∀ z ∈ zs, 0 ≤ z ∧ z ≤ 255
theorem byt_of {zs : List Int} (h : BytL zs) : Byt zs.length (fun i => zs.getD i 0) := fun i hi => by
  have : zs.getD i 0 = zs[i] := by simp [hi]
  show 0 ≤ zs.getD i 0 ∧ zs.getD i 0 ≤ 255
  rw [this]; exact h _ (List.getElem_mem hi)
end Go.Proofs.Ytldnfiadafmomaa
