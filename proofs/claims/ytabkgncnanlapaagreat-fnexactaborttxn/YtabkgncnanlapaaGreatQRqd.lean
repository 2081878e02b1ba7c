/- slices.Backward over a transaction's undos. -/
import Derived.RangeFuncNested
import Derived.RangeFuncBound
import Derived.RangeFuncCalls
import Derived.RangeFuncLeaves
import Derived.RangeFuncBox
import Derived.Shelf.Abstract
import Derived.WalkKit
import Derived.OwnWalkIn
import Derived.TacticsInMore
import Derived.LoopNIn
import Derived.LoopIn
import Derived.Test.YtabkgncnanlapaaGreatQRqr
import Derived.Test.YtabkgncnanlapaaGreatQBase
namespace Go.Proofs.YtabkgncnanlapaaGreat
open Go.RowKit Go.Shelf
set_option linter.unusedVariables false
attribute [local go_sem] Oper.semAt_some

/-- What the k-th round is handed: the place, the undo. -/
def encU (U : Nat → Ud) (len k : Nat) : Array Value := #[.int .i64 ((len - 1 - k : Nat) : Int), .agg #[.int .i64 (U (len - 1 - k)).k, .bool (U (len - 1 - k)).h, .bool (U (len - 1 - k)).g, .int .i64 (U (len - 1 - k)).v]]
/-- What a round keeps: the slice's box, the undos. -/
def KpU (Bs b : Nat) (W W' : World) : Prop := ∀ x, (x = Bs ∨ x = b) → ∀ i v, W.cell? ⟨x, i, none⟩ = some v → W'.cell? ⟨x, i, none⟩ = some v
theorem KpU.refl (Bs b : Nat) (W : World) : KpU Bs b W W := fun _ _ _ _ h => h
theorem KpU.trans {Bs b : Nat} {A B C : World} (h : KpU Bs b A B) (k : KpU Bs b B C) : KpU Bs b A C := fun x hx i v e => k x hx i v (h x hx i v e)
theorem KpU.put {Bs b : Nat} (W : World) (l : Nat) (o o' : Obj) (h : W.heap[l]? = some o) (hc : o.isCells = false) : KpU Bs b W (W.putObj l o') :=
  fun x _ i v e => cell_kept e (grownBy_putObj' W l o') (fun r e2 => by cases e2; exact ⟨_, h, hc⟩)
set_option maxRecDepth 100000 in
set_option maxHeartbeats 2000000 in
theorem back1_in (F : Fence) (n : Nat) (h7 : F.fn 91) (hro : F.round = none) (hn : 1 ≤ n) (l Bs b off len cap : Nat) (a : Option Addr) (U : Nat → Ud) (hlen : len ≤ 100000) (ha : len = 0 ∨ a = some ⟨b, off, none⟩) (J : Nat → World → Prop)
    (hY : ∀ k W1, J k W1 → k < len → YieldAt F (n - 1) Tryz.prog l (encU U len k) W1 fun e W' => e = .returned (.bool true) ∧ J (k + 1) W' ∧ KpU Bs b W1 W')
    (W : World) (hBs : W.cell? ⟨Bs, 0, none⟩ = some (.slice a len cap)) (hc : ∀ i, i < len → CU W b (off + i * 4) (U i)) (h0 : J 0 W) :
    CallsIn F n Tryz.prog 91 #[.func (.yield l) #[] #[], .pointer (some ⟨Bs, 0, none⟩)] W fun e W' => (∃ v, e = .returned v) ∧ J len W' := by
  refine callsIn_of_wp Tryz.func91 rfl h7 ?_ hro
  simp only [Tryz.ntmps91, List.size_toArray, List.length_cons, List.length_nil, Nat.reduceAdd, Nat.reduceSub, Array.replicate_succ, Array.replicate_zero, List.push_toArray, List.append_toArray, List.nil_append, List.cons_append]
  have hw1 : IntKind.i64.wrap ((len : Int) - 1) = (len : Int) - 1 := by rw [IntKind.wrap_i64]; omega
  have HY : Hid (∀ k W1, J k W1 → k < len → YieldAt F (n - 1) Tryz.prog l (encU U len k) W1 fun e W' => e = .returned (.bool true) ∧ J (k + 1) W' ∧ KpU Bs b W1 W') := hY
  have HC : Hid (∀ i, i < len → CU W b (off + i * 4) (U i)) := hc
  have HA : Hid (len = 0 ∨ a = some ⟨b, off, none⟩) := ha
  have HBS : Hid (W.cell? ⟨Bs, 0, none⟩ = some (.slice a len cap)) := hBs
  have H0 : Hid (J 0 W) := h0
  clear hY hc ha h0
  gi_wp2_with fail
  clear hBs
  gi_loopw [3] (fun i wr => ∃ k : Nat, k ≤ len ∧ i = .int .i64 ((len : Int) - 1 - k) ∧ Hid (J k wr) ∧ Hid (KpU Bs b W wr)) (fun i _ => (intOf i + 1).toNat)
  case atStart => exact ⟨0, Nat.zero_le _, by simp, H0, KpU.refl _ _ _⟩
  case round =>
    obtain ⟨k, hk, rfl, HJ, HK⟩ := hrel
    have hbs := HK.out Bs (.inl rfl) _ _ HBS.out
    by_cases hlt : k < len
    · obtain ⟨j, hj⟩ : ∃ j : Nat, j = len - 1 - k := ⟨_, rfl⟩
      have hj2 : (len : Int) - 1 - k = (j : Int) := by omega
      have hjl : (j : Int) < (len : Int) := by omega
      have hj0 : (0 : Int) ≤ (j : Int) := by omega
      rcases HA.out with h | rfl
      · omega
      obtain ⟨c0, c1, c2, c3⟩ := HC.out j (by omega)
      replace c0 := HK.out b (.inr rfl) _ _ c0
      replace c1 := HK.out b (.inr rfl) _ _ c1
      replace c2 := HK.out b (.inr rfl) _ _ c2
      replace c3 := HK.out b (.inr rfl) _ _ c3
      obtain ⟨fn, tmps, assign, body, hy, hR⟩ := HY.out k wr HJ.out hlt
      simp only [encU, ← hj] at hy
      have HN : Hid ((len : Int) - 1 - ((k + 1 : Nat) : Int) = (j : Int) - 1) := by show (len : Int) - 1 - ((k + 1 : Nat) : Int) = (j : Int) - 1; omega
      have hw2 : IntKind.i64.wrap ((j : Int) - 1) = (j : Int) - 1 := by rw [IntKind.wrap_i64]; omega
      rw [hj2]
      clear hj hj2
      generalize U j = u at *
      gi_wp2_with fail
      refine hR.mono ?_
      rintro e W3 ⟨rfl, hJ3, hk3⟩
      have HK3 : Hid (KpU Bs b W W3) := HK.out.trans hk3
      clear hk3 hR hy
      gi_wp2_with fail
      go_roundw
      case rel => exact ⟨k + 1, by omega, by rw [HN.out], hJ3, HK3⟩
      case measure => simp [intOf]
    · obtain rfl : k = len := by omega
      have hneg : ¬ ((0 : Int) ≤ (k : Int) - 1 - k) := by omega
      have hneg2 : (k : Int) - 1 - k = -1 := by omega
      rw [hneg2]
      gi_wp2_with fail
      go_end0
      exact ⟨⟨_, rfl⟩, HJ.out⟩
theorem back_any (a : Option Addr) (len cap : Nat) (w : World) :
    Calls Tryz.prog 58 #[.slice a len cap] w fun e w' => e = .returned (.func (.func 91) #[] #[.pointer (some ⟨w.heap.size, 0, none⟩)]) ∧ w' = w.alloc (.cells #[.slice a len cap] 52) := by
  go_enter Tryz.func58, Tryz.ntmps58
  go_wp2_with fail
  go_ret
  exact ⟨rfl, rfl⟩
theorem back_idx (F : Fence) (n : Nat) (h7 : F.fn 91) (hro : F.round = none) (hn : 1 ≤ n) (Bs b len cap : Nat) (a : Option Addr) (U : Nat → Ud) (hlen : len ≤ 100000) (w : World) (hBs : w.cell? ⟨Bs, 0, none⟩ = some (.slice a len cap))
    (hU : len = 0 ∨ ∃ off, a = some ⟨b, off, none⟩ ∧ ∀ i, i < len → CU w b (off + i * 4) (U i)) :
    SeqIdx F n Tryz.prog 91 #[.pointer (some ⟨Bs, 0, none⟩)] (encU U len) (KpU Bs b) len w := fun l J W hW _ hY h0 => by
  have hc' := (hW.cell (p := ⟨Bs, 0, none⟩) (Go.block_lt_of_cell hBs)).trans hBs
  rcases hU with h | ⟨off, rfl, hU⟩
  · exact back1_in F n h7 hro hn l Bs b 0 len cap a U hlen (.inl h) J hY W hc' (fun i hi => by omega) h0
  · by_cases h1 : len = 0
    · exact back1_in F n h7 hro hn l Bs b 0 len cap _ U hlen (.inl h1) J hY W hc' (fun i hi => by omega) h0
    · exact back1_in F n h7 hro hn l Bs b off len cap _ U hlen (.inr rfl) J hY W hc' (fun i hi => (hU i hi).block (hW.block b (Go.block_lt_of_cell (hU i hi).1))) h0
end Go.Proofs.YtabkgncnanlapaaGreat
