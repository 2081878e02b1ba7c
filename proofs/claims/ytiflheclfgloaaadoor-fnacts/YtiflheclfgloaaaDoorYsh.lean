/- The program's kindOf: the table of forms in memory. -/
import Derived.Test.YtiflheclfgloaaaDoorYsg
import Derived.Test.YtiflheclfgloaaaDoorBox
namespace Go.Proofs.YtiflheclfgloaaaDoor
open Go.RowKit Go.Deep
set_option linter.unusedVariables false
set_option maxRecDepth 20000

/-- The table lies in block 0. -/
def TabAt (w : World) : Prop := 0 < w.heap.size ∧ ∀ k, k < 8 → w.cell? ⟨0, k * 2, none⟩ = some (.string (fw k)) ∧ w.cell? ⟨0, k * 2 + 1, none⟩ = some (.int .i64 (fc k))
theorem TabAt.below {w w' : World} (h : TabAt w) (hb : Below w.heap.size w w') : TabAt w' :=
  ⟨Nat.lt_of_lt_of_le h.1 hb.size, fun k hk => ⟨cell_below (h.2 k hk).1 hb, cell_below (h.2 k hk).2 hb⟩⟩
theorem tl_ne {a b : ByteArray} (h : a ≠ b) : (a.toList == b.toList) = false := by
  refine beq_eq_false_iff_ne.2 fun e => h ?_
  rw [ByteArray.toList_eq, ByteArray.toList_eq] at e
  exact Go.WideShapes.bytes_inj e
theorem below_drewNY {n : Nat} {w w1 : World} (h : Below n w w1) (m : Nat) : Below n w (w1.drewN m) := by
  obtain ⟨h1, h2, h3, h4, h5⟩ := h
  exact ⟨h1, h2, h3, h4, h5⟩
set_option maxHeartbeats 1000000 in
theorem kindOf_any (L : List ByteArray) (a : Option Addr) (cap : Nat) (w : World) (hn : L.length ≤ 2000000) (hT : TabAt w) (h : StrsAt w a L) :
    Calls Tryd.prog 18 #[.slice a L.length cap] w fun e w' => e = .returned (.int .i64 (kindP L)) ∧ Below w.heap.size w w' := by
  have HT : Hid (TabAt w) := hT
  have HS : Hid (StrsAt w a L) := h
  clear hT h
  go_enter Tryd.func18, Tryd.ntmps18
  go_wp2_with fail
  go_loopw [3, 4] (fun i _ wr => ∃ k : Nat, 1 ≤ k ∧ k ≤ 8 ∧ i = .int .i64 k ∧ Hid (Below w.heap.size w wr) ∧ Hid (∀ j, 1 ≤ j → j < k → kfit L j = false)) (fun i _ _ => 8 - (intOf i).toNat)
  case atStart => exact ⟨1, Nat.le_refl _, by omega, rfl, Below.refl _ _, fun j a b => by omega⟩
  case round =>
    obtain ⟨k, h1, hk, rfl, HB, HF⟩ := hrel
    by_cases hlt : k < 8
    · have hlt' : (k : Int) ≤ 7 := by omega
      have hlt2 : (k : Int) < 8 := by omega
      have h0 : (0 : Int) ≤ (k : Int) := by omega
      have hT := HT.out.below HB.out
      obtain ⟨c0, c1⟩ := hT.2 k hlt
      clear hT
      go_upto_region 5 with fail
      obtain ⟨W1, hW1⟩ : ∃ W1, W1 = wr.alloc (.cells #[.string (fw k), .int .i64 (fc k)] 56) := ⟨_, rfl⟩
      rw [← hW1]
      have b0 : W1.cell? ⟨wr.heap.size, 0, none⟩ = some (.string (fw k)) := by rw [hW1]; simp
      have b1 : W1.cell? ⟨wr.heap.size, 1, none⟩ = some (.int .i64 (fc k)) := by rw [hW1]; simp
      have HB1 : Hid (Below w.heap.size w W1) := by rw [hW1]; exact HB.out.alloc HB.out.size _
      have HS1 : Hid (StrsAt W1 a L) := HS.out.below HB1.out
      clear hW1 c0 c1
      have hfc := fc_le k (by omega)
      have hwr : IntKind.i64.wrap (1 + (fc k : Int)) = 1 + (fc k : Int) := by rw [IntKind.wrap_i64]; omega
      by_cases hl : L.length = 1 + fc k
      · have hl2 : ((L.length : Int) == 1 + (fc k : Int)) = true := by simp; omega
        rcases HS1.out with h | ⟨b, off, rfl, hbl, hcc⟩
        · omega
        have hc0 := hcc 0 (by omega)
        rw [Nat.add_zero] at hc0
        have hpos : (0 : Int) < (L.length : Int) := by omega
        clear hcc
        by_cases he : sg L 0 = fw k
        · have HK : Hid (kindP L = k) := kq_hit L k (by simp only [kfit, Bool.and_eq_true, decide_eq_true_eq]; exact ⟨hl, he⟩) 7 1 h1 (by omega) HF.out
          rw [he] at hc0
          clear he hl
          go_quiet (fail)
          go_wp2_with fail
          (try simp only [Exit.inBlock, Exit.then])
          go_ret
          exact ⟨by rw [HK.out]; rfl, below_drewNY HB1.out _⟩
        · have HF2 : Hid (∀ j, 1 ≤ j → j < k + 1 → kfit L j = false) := fun j a b => by
            by_cases e : j = k
            · rw [e]; exact kfit_name he
            · exact HF.out j a (by omega)
          have he2 := tl_ne he
          clear hl
          go_quiet (fail)
          go_wp2_with fail
          go_roundw
          case rel => exact ⟨k + 1, by omega, by omega, by go_num, below_drewNY HB1.out _, HF2⟩
          case measure => simp [intOf]; omega
      · have hl2 : ((L.length : Int) == 1 + (fc k : Int)) = false := by simp; omega
        have HF2 : Hid (∀ j, 1 ≤ j → j < k + 1 → kfit L j = false) := fun j a b => by
          by_cases e : j = k
          · rw [e]
            have : decide (L.length = 1 + fc k) = false := decide_eq_false hl
            simp only [kfit, this, Bool.false_and]
          · exact HF.out j a (by omega)
        clear hl
        go_quiet (fail)
        go_wp2_with fail
        go_roundw
        case rel => exact ⟨k + 1, by omega, by omega, by go_num, below_drewNY HB1.out _, HF2⟩
        case measure => simp [intOf]; omega
    · have hk8 : k = 8 := by omega
      have HK : Hid (kindP L = 0) := kq_miss L 7 1 fun j a b => HF.out j a (by omega)
      subst hk8
      go_wp2_with fail
      go_ret
      exact ⟨by rw [HK.out]; rfl, HB.out⟩
end Go.Proofs.YtiflheclfgloaaaDoor
