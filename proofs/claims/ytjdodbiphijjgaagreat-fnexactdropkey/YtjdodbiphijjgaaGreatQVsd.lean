/- PurgeChain, and what its answer looks like: it can be purged again. -/
import Derived.Test.YtjdodbiphijjgaaGreatQRsb
import Derived.Test.YtjdodbiphijjgaaGreatQVm
namespace Go.Proofs.YtjdodbiphijjgaaGreat
open Go.RowKit Go.Deep
set_option linter.unusedVariables false
set_option maxRecDepth 20000

/-- An answer that can be sliced again. -/
def ShA (a : Option Addr) (m cap : Nat) : Prop := m ≤ cap ∧ (a = none ∧ m = 0 ∧ cap = 0 ∨ ∃ b off, a = some ⟨b, off, none⟩)
theorem sha_of_row {w : World} {base n : Nat} {v : Value} {xs : List Value} (h : w.ownsRow base 179 4 v n xs) : ∃ a cap, v = .slice a n cap ∧ ShA a n cap := by
  rcases h.2 with ⟨rfl, h0⟩ | ⟨g, cap, cur, rfl, _, _, h9, _⟩
  · exact ⟨none, 0, by rw [h0], by omega, .inl ⟨rfl, h0, rfl⟩⟩
  · exact ⟨_, cap, rfl, by omega, .inr ⟨_, _, rfl⟩⟩
def VAnsC (m : Nat) (S : Nat → Vr) (w : World) (e : Ending) (w' : World) : Prop := ∃ a cap, e = .returned (.slice a m cap) ∧ ShA a m cap ∧ Below w.heap.size w w' ∧ Own4 w' w.heap.size w'.heap.size a m S
theorem VAnsC.of {w w' : World} {v : Value} {xs : List Vr} {base : Nat} (hb : Below w.heap.size w w') (hl : w.heap.size ≤ base) (h : w'.ownsRow base 179 4 v xs.length (vb xs)) : VAnsC xs.length (fun i => xs.getD i zV) w (.returned v) w' := by
  obtain ⟨a, cap, rfl, hs⟩ := sha_of_row h
  exact ⟨a, cap, rfl, hs, hb, (own4_of_row rfl h).wide hl (Nat.le_refl _) (Nat.le_refl _)⟩
def CResC (c : Int) (m : Nat) (S : Nat → Vr) (w : World) (e : Ending) (w' : World) : Prop := ∃ a cap, e = .returned (.agg #[.int .i64 c, .slice a m cap]) ∧ ShA a m cap ∧ Below w.heap.size w w' ∧ Own4 w' w.heap.size w'.heap.size a m S
set_option maxHeartbeats 2000000 in
theorem joinedC_any (m : Nat) (A : Nat → Option Addr) (N C : Nat → Nat) (Z : Nat → Nat → Vr) (pb po pc : Nat) (w : World) (hs : ∀ i, i < m → N i ≤ 100) (hpb : pb < w.heap.size)
    (hp : ∀ i, i < m → w.cell? ⟨pb, po + i, none⟩ = some (.slice (A i) (N i) (C i)) ∧ VersAt w (A i) (N i) (Z i)) (hm : m ≤ 3) :
    Calls Tryz.prog 157 #[.slice (some ⟨pb, po, none⟩) m pc] w (VAnsC (jv N Z m).length (fun i => (jv N Z m).getD i zV) w) := by
  have HP : Hid (∀ i, i < m → w.cell? ⟨pb, po + i, none⟩ = some (.slice (A i) (N i) (C i)) ∧ VersAt w (A i) (N i) (Z i)) := hp
  clear hp
  go_enter Tryz.func157, Tryz.ntmps157
  go_wp2_with fail
  go_loopw [3, 5, 8] (fun v _ i wr => ∃ k : Nat, k ≤ m ∧ i = .int .i64 k ∧ Hid (Below w.heap.size w wr) ∧ Hid (wr.ownsRow w.heap.size 179 4 v (jv N Z k).length (vb (jv N Z k)))) (fun _ _ i _ => m - (intOf i).toNat)
  case atStart => exact ⟨0, by omega, rfl, Below.refl _ _, World.ownsRow_nil _ _ _ _⟩
  case round =>
    obtain ⟨k, hk, rfl, HB, HO⟩ := hrel
    by_cases hlt : k < m
    · have hlt' : (k : Int) < (m : Int) := by omega
      have hk1 : (0 : Int) ≤ (k : Int) := by omega
      have hc := cell_below (HP.out k hlt).1 HB.out
      have HBA : Hid (VersAt wr (A k) (N k) (Z k)) := (HP.out k hlt).2.below HB.out
      have HLE : Hid ((jv N Z k).length + N k ≤ 100000) := by
        have h1 := jv_len N Z k (fun i hi => hs i (by omega))
        have h2 := hs k hlt
        show (jv N Z k).length + N k ≤ 100000
        omega
      go_wp2_with (at_builtin; refine wpList_appV _ rfl (.tmp 12) (.tmp 13) rfl w.heap.size _ (jv N Z k) rfl HO.out (A k) (N k) (C k) (Z k) rfl HBA.out HLE.out HB.out.size ?_)
      intro v1 w1 ho1 hg1
      have HO1 : Hid (w1.ownsRow w.heap.size 179 4 v1 (jv N Z (k + 1)).length (vb (jv N Z (k + 1)))) := by
        show w1.ownsRow w.heap.size 179 4 v1 (jv N Z k ++ vL (Z k) (N k)).length (vb (jv N Z k ++ vL (Z k) (N k)))
        rw [List.length_append]
        exact ho1
      have HB1 : Hid (Below w.heap.size w w1) := HB.out.grown hg1 HB.out.size (fun q hq => (HO.out.lt q hq).1)
      clear ho1 hg1
      go_wp2_with fail
      go_roundw
      case rel => exact ⟨k + 1, hlt, by go_num, HB1, HO1⟩
      case measure => simp [intOf]; omega
    · have hkn : k = m := by omega
      subst hkn
      have HF := VAnsC.of HB.out (Nat.le_refl _) HO.out
      go_wp2_with fail
      go_ret
      exact HF
end Go.Proofs.YtjdodbiphijjgaaGreat
