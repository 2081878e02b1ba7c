/- Faults of stores: what they are, as functions; the walks of the program's helpers over pages. -/
import Derived.Test.YtnplheilojhpmaaGreatQZpa
import Derived.Test.YtnplheilojhpmaaGreatQZia
import Derived.Test.YtnplheilojhpmaaGreatQSfault
namespace Go.Proofs.YtnplheilojhpmaaGreat
open Go.RowKit Go.Deep
set_option linter.unusedVariables false
set_option maxRecDepth 20000

/-- From k on, f keys: each stands in the page. -/
def ksB (id : Int) (K : Nat → Int) : Nat → Nat → Bool
  | 0, _ => true
  | f + 1, k => if (K k).tmod 4 = id then ksB id K f (k + 1) else false
theorem ksB_at {id : Int} {K : Nat → Int} {n k : Nat} (h : k < n) : ksB id K (n - k) k = if (K k).tmod 4 = id then ksB id K (n - (k + 1)) (k + 1) else false := by
  rw [show n - k = (n - (k + 1)) + 1 by omega]; rfl
/-- The fault of a page at its place in a store. -/
def pgF (p : Pg) (i : Nat) : Int := if pf p.id p.lsn p.cn p.cK p.cV = 0 then (if p.id = (i : Int) then (if ksB p.id p.cK p.cn 0 = true then 0 else 1) else 1) else pf p.id p.lsn p.cn p.cK p.cV
def psF (T : Nat → Pg) : Nat → Nat → Int
  | 0, _ => 0
  | f + 1, k => if pgF (T k) k = 0 then psF T f (k + 1) else pgF (T k) k
theorem psF_at {T : Nat → Pg} {n k : Nat} (h : k < n) : psF T (n - k) k = if pgF (T k) k = 0 then psF T (n - (k + 1)) (k + 1) else pgF (T k) k := by
  rw [show n - k = (n - (k + 1)) + 1 by omega]; rfl
theorem psF_end {T : Nat → Pg} {n k : Nat} (h : ¬ k < n) : psF T (n - k) k = 0 := by rw [show n - k = 0 by omega]; rfl
theorem pageIdOf_any (v : Int) (w : World) : Calls Tryz.prog 115 #[.int .i64 v] w fun e w' => e = .returned (.int .i64 (v.tmod 4)) ∧ w' = w := by
  go_enter Tryz.func115, Tryz.ntmps115
  go_wp2
  go_ret
  exact ⟨rfl, rfl⟩
theorem pageIdOf_q (v : Int) (w : World) : Calls Tryz.prog 115 #[.int .i64 v] w fun e w' => e = .returned (.int .i64 (v.tmod 4)) ∧ ∃ n, w' = w.drewN n := by
  refine (pageIdOf_any v w).mono ?_
  rintro e w' ⟨rfl, rfl⟩
  exact ⟨rfl, 0, rfl⟩
set_option maxHeartbeats 2000000 in
theorem keysStandIn_any (id lsn : Int) (n : Nat) (K V : Nat → Int) (a : Option Addr) (cap : Nat) (w : World) (hn : n ≤ 140737488355328) (h : CellsAt w a n K V) :
    Calls Tryz.prog 91 #[.agg #[.int .i64 id, .int .i64 lsn, .slice a n cap]] w fun e w' => e = .returned (.bool (ksB id K n 0)) ∧ Below w.heap.size w w' := by
  have HA : Hid (CellsAt w a n K V) := h
  clear h
  go_enter Tryz.func91, Tryz.ntmps91
  go_wp2_with fail
  go_loopw [4, 8] (fun _ i wr => ∃ k : Nat, k ≤ n ∧ i = .int .i64 k ∧ Hid (ksB id K n 0 = ksB id K (n - k) k) ∧ Hid (Below w.heap.size w wr) ∧ wr.cell? ⟨w.heap.size, 0, none⟩ = some (.int .i64 id)) (fun _ i _ => n - (intOf i).toNat)
  case atStart => exact ⟨0, Nat.zero_le _, rfl, rfl, below_new _ _, by simp [go_sem]⟩
  case round =>
    obtain ⟨k, hk, rfl, HC, HB, hid⟩ := hrel
    by_cases hlt : k < n
    · have hlt' : (k : Int) < (n : Int) := by omega
      have hk0 : (0 : Int) ≤ (k : Int) := by omega
      rcases HA.out.below HB.out with h | ⟨b, off, rfl, hl, h1, h2⟩
      · omega
      have g1 := h1 k hlt
      have g2 := h2 k hlt
      have HA2 : Hid (ksB id K n 0 = _) := HC.out.trans (ksB_at hlt)
      have hid2 : ∀ o : Obj, (wr.alloc o).cell? ⟨w.heap.size, 0, none⟩ = some (.int .i64 id) := fun o => cell_alloc hid o
      have hne : ¬ w.heap.size = wr.heap.size := by have := HB.out.size; have := Go.block_lt_of_cell hid; simp at this; omega
      clear h1 h2 HC
      by_cases he : (K k).tmod 4 = id
      · have HE : Hid (ksB id K n 0 = ksB id K (n - (k + 1)) (k + 1)) := HA2.out.trans (if_pos he)
        have he2 : ((K k).tmod 4 != id) = false := by simp [he]
        have HID : Hid (wr.cell? ⟨w.heap.size, 0, none⟩ = some (.int .i64 id)) := hid
        clear HA2 he
        go_wp2_with fail
        go_quiet (first | (go_at_call 115; exact Calls.quiet_of (pageIdOf_q _ _)))
        go_wp2_with fail
        go_roundw
        case rel => exact ⟨k + 1, hlt, by go_num, HE, by have hs := HB.out.size; repeat (first | with_reducible exact HB.out | apply Below.drew | refine below_drewN ?_ _ | refine Below.alloc ?_ (by first | omega | (simp; omega)) _), by first | (simp [go_sem]; rw [hid2]) | (simp [go_sem, hid2])⟩
        case measure => simp [intOf]; omega
      · have HE : Hid (ksB id K n 0 = false) := HA2.out.trans (if_neg he)
        have he2 : ((K k).tmod 4 != id) = true := by simp [he]
        clear HA2 he
        go_wp2_with fail
        go_quiet (first | (go_at_call 115; exact Calls.quiet_of (pageIdOf_q _ _)))
        go_wp2_with fail
        go_ret
        exact ⟨ret_bool HE.out.symm, by have hs := HB.out.size; repeat (first | with_reducible exact HB.out | apply Below.drew | refine below_drewN ?_ _ | refine Below.alloc ?_ (by first | omega | (simp; omega)) _)⟩
    · have hnl : ¬ ((k : Int) < (n : Int)) := by omega
      have HE : Hid (ksB id K n 0 = true) := HC.out.trans (by rw [show n - k = 0 by omega]; rfl)
      clear HC
      go_wp2_with fail
      go_ret
      exact ⟨ret_bool HE.out.symm, HB.out⟩
set_option maxHeartbeats 2000000 in
theorem storePageFault_any (p : Pg) (i : Nat) (a : Option Addr) (cap : Nat) (w : World) (hn : p.cn ≤ 1048576) (h : CellsAt w a p.cn p.cK p.cV) :
    Calls Tryz.prog 60 #[.agg #[.int .i64 p.id, .int .i64 p.lsn, .slice a p.cn cap], .int .i64 (i : Int)] w fun e w' => e = .returned (.int .i64 (pgF p i)) ∧ Below w.heap.size w w' := by
  have HA : Hid (CellsAt w a p.cn p.cK p.cV) := h
  have HP : Hid (pgF p i = if pf p.id p.lsn p.cn p.cK p.cV = 0 then (if p.id = (i : Int) then (if ksB p.id p.cK p.cn 0 = true then 0 else 1) else 1) else pf p.id p.lsn p.cn p.cK p.cV) := rfl
  generalize pgF p i = C at *
  clear h
  go_enter Tryz.func60, Tryz.ntmps60
  go_wp2_with fail
  refine (implFault_any p.id p.lsn p.cn p.cK p.cV a cap _ (by omega) (HA.out.below (below_new _ _))).mono ?_
  rintro e w1 ⟨rfl, hb⟩
  have HB : Hid (Below w.heap.size w w1) := below_then (below_new _ _) hb
  have q0 : w1.cell? ⟨w.heap.size, 0, none⟩ = some (.int .i64 p.id) := by rw [(bcell29 hb).1 _ _ (by simp)]; simp [go_sem]
  have q1 : w1.cell? ⟨w.heap.size, 1, none⟩ = some (.int .i64 p.lsn) := by rw [(bcell29 hb).1 _ _ (by simp)]; simp [go_sem]
  have q2 : w1.cell? ⟨w.heap.size, 2, none⟩ = some (.slice a p.cn cap) := by rw [(bcell29 hb).1 _ _ (by simp)]; simp [go_sem]
  clear hb
  generalize pf p.id p.lsn p.cn p.cK p.cV = c at *
  by_cases h0 : c = 0
  · subst h0
    replace HP : Hid (C = _) := HP.out.trans (if_pos rfl)
    by_cases hi : p.id = (i : Int)
    · replace HP : Hid (C = _) := HP.out.trans (if_pos hi)
      have hi2 : (p.id != (i : Int)) = false := by simp [hi]
      clear hi
      go_wp2_with fail
      refine (keysStandIn_any p.id p.lsn p.cn p.cK p.cV a cap _ (by omega) (HA.out.below HB.out)).mono ?_
      rintro e w2 ⟨rfl, hb⟩
      obtain hk | hk := boolor (ksB p.id p.cK p.cn 0)
      · rw [hk]
        replace HP : Hid (C = 0) := HP.out.trans (if_pos hk)
        go_wp2_with fail
        go_ret
        exact ⟨ret_int HP.out.symm, below_then HB.out hb⟩
      · rw [hk]
        replace HP : Hid (C = 1) := HP.out.trans (if_neg (by simp [hk]))
        go_wp2_with fail
        go_ret
        exact ⟨ret_int HP.out.symm, below_then HB.out hb⟩
    · replace HP : Hid (C = 1) := HP.out.trans (if_neg hi)
      have hi2 : (p.id != (i : Int)) = true := by simp [hi]
      clear hi
      go_wp2_with fail
      go_ret
      exact ⟨ret_int HP.out.symm, HB.out⟩
  · replace HP : Hid (C = c) := HP.out.trans (if_neg h0)
    have h0' : (c != 0) = true := by simp [h0]
    clear h0
    go_wp2_with fail
    go_ret
    exact ⟨ret_int HP.out.symm, HB.out⟩
end Go.Proofs.YtnplheilojhpmaaGreat
