/- impl.withoutCell. -/
import Derived.Test.YtnhkjdcbaphfcaaWo
namespace Go.Proofs.Ytnhkjdcbaphfcaa
open Go.RowKit Go.Deep
set_option linter.unusedVariables false
set_option maxRecDepth 20000

set_option maxHeartbeats 1000000 in
theorem implWithout_some (n : Nat) (K V : Nat → Int) (key : Int) (b off cap : Nat) (w : World) (hn : n ≤ 1000) (hbl : b < w.heap.size)
    (hk : ∀ i, i < n → w.cell? ⟨b, off + i * 2, none⟩ = some (.int .i64 (K i))) (hv : ∀ i, i < n → w.cell? ⟨b, off + i * 2 + 1, none⟩ = some (.int .i64 (V i))) :
    Calls Try.prog 53 #[.slice (some ⟨b, off, none⟩) n cap, .int .i64 key] w fun e w' =>
      ∃ v, e = .returned v ∧ Below w.heap.size w w' ∧ w'.ownsRow w.heap.size 45 2 v (wo K V key n).length (cl (wo K V key n)) := by
  obtain ⟨i0, hi, hz0, hz1, hz2⟩ := info_parts info99
  have HI : Hid (Try.prog.info? 45 = some i0 ∧ i0.zero = some (.agg #[.int .i64 0, .int .i64 0]) ∧ i0.size = 2 ∧ i0.bytes = 16) := ⟨hi, hz0, hz1, hz2⟩
  clear hi hz0 hz1 hz2
  go_enter Try.func53, Try.ntmps53
  go_wp2
  go_loopw [5, 7, 10] (fun v _ i wr => ∃ k : Nat, k ≤ n ∧ i = .int .i64 k ∧ Below w.heap.size w wr ∧ wr.ownsRow w.heap.size 45 2 v (wo K V key k).length (cl (wo K V key k))) (fun _ _ i _ => n - (intOf i).toNat)
  case atStart => exact ⟨0, Nat.zero_le _, rfl, Below.refl _ _, World.ownsRow_nil _ _ _ _⟩
  case round =>
    obtain ⟨k, hk0, rfl, hb, hown⟩ := hrel
    by_cases hlt : k < n
    · have h1 : wr.cell? ⟨b, off + k * 2, none⟩ = some (.int .i64 (K k)) := (hb.cell (p := ⟨b, _, none⟩) hbl).trans (hk k hlt)
      have h2 : wr.cell? ⟨b, off + k * 2 + 1, none⟩ = some (.int .i64 (V k)) := (hb.cell (p := ⟨b, _, none⟩) hbl).trans (hv k hlt)
      have hlt' : (k : Int) < (n : Int) := by omega
      have HB : Hid (Below w.heap.size w wr) := hb
      have HS : Hid (w.heap.size ≤ wr.heap.size) := hb.size
      have HO : Hid (wr.ownsRow w.heap.size 45 2 u5 (wo K V key k).length (cl (wo K V key k))) := hown
      have hl := wo_len K V key k
      clear hb hown hk hv
      by_cases hc : K k = key
      · have hd : (K k != key) = false := by simpa using hc
        have HW : Hid (wo K V key (k + 1) = wo K V key k) := by show wo K V key (k + 1) = wo K V key k; rw [wo, if_pos hc]
        clear hc
        go_wp2
        go_roundw
        case rel => exact ⟨k + 1, hlt, by go_num, (HB.out.alloc (HS.out) _), by rw [HW.out]; exact (HO.out.alloc _)⟩
        case measure => simp [intOf]; omega
      · have hd : (K k != key) = true := by simpa using hc
        have HW : Hid (wo K V key (k + 1) = wo K V key k ++ [(K k, V k)]) := by show wo K V key (k + 1) = wo K V key k ++ [(K k, V k)]; rw [wo, if_neg hc]
        clear hc
        go_wp2_with (at_builtin; refine wpList_append_own _ rfl _ _ 25 rfl w.heap.size 45 i0 (.agg #[.int .i64 0, .int .i64 0]) 2 16 Try.underlying25 HI.out.1 HI.out.2.1 HI.out.2.2.1 HI.out.2.2.2 rfl (by decide) _ _ _ rfl ((HO.out.alloc _).alloc _) ⟨wr.heap.size + 1, 0, none⟩ 1 1 [.int .i64 (K k), .int .i64 (V k)] rfl rfl (cell_two_new2 _ _ _ _ _) ?c2 ?c3 ?c4 ?c5 ?_)
        case c2 => intro x hx; simp at hx; rcases hx with rfl | rfl <;> rfl
        case c3 => unfold maxLen; omega
        case c4 => omega
        case c5 => have hq := HS.out; simp; omega
        intro v' w1 ho1 hg1 _
        have HR : Hid _ := app_one (HB.out.alloc (HS.out) _) (by have hq := HS.out; simp; omega) (HO.out.alloc _) ho1 hg1
        clear ho1 hg1
        go_wp2
        go_roundw
        case rel => exact ⟨k + 1, hlt, by go_num, HR.out.2, by rw [HW.out]; exact HR.out.1⟩
        case measure => simp [intOf]; omega
    · have hkn : k = n := by omega
      subst hkn
      have HO : Hid (wr.ownsRow w.heap.size 45 2 u5 (wo K V key k).length (cl (wo K V key k))) := hown
      clear hk hv hown
      go_wp2
      go_ret
      exact ⟨_, rfl, hb, HO.out⟩
theorem implWithout_zero (K V : Nat → Int) (key : Int) (a : Option Addr) (cap : Nat) (w : World) :
    Calls Try.prog 53 #[.slice a 0 cap, .int .i64 key] w fun e w' =>
      ∃ v, e = .returned v ∧ Below w.heap.size w w' ∧ w'.ownsRow w.heap.size 45 2 v (wo K V key 0).length (cl (wo K V key 0)) := by
  go_enter Try.func53, Try.ntmps53
  go_wp2
  go_loop [5, 7, 10] (fun v _ i => v = .slice none 0 0 ∧ i = .int .i64 0) (fun _ _ _ => 0)
  case atStart => exact ⟨rfl, rfl⟩
  case round =>
    obtain ⟨rfl, rfl⟩ := hrel
    go_wp2
    go_ret
    exact ⟨_, rfl, Below.refl _ _, World.ownsRow_nil _ _ _ _⟩
theorem implWithout_any (n : Nat) (K V : Nat → Int) (key : Int) (a : Option Addr) (cap : Nat) (w : World) (hn : n ≤ 1000) (h : CellsAt w a n K V) :
    Calls Try.prog 53 #[.slice a n cap, .int .i64 key] w fun e w' =>
      ∃ a' cap', e = .returned (.slice a' (wo K V key n).length cap') ∧ Below w.heap.size w w' ∧ Own w' w.heap.size w'.heap.size a' (wo K V key n).length (kOf (wo K V key n)) (vOf (wo K V key n)) := by
  have fin : ∀ (e : Ending) (w' : World), (∃ v, e = .returned v ∧ Below w.heap.size w w' ∧ w'.ownsRow w.heap.size 45 2 v (wo K V key n).length (cl (wo K V key n))) →
      ∃ a' cap', e = .returned (.slice a' (wo K V key n).length cap') ∧ Below w.heap.size w w' ∧ Own w' w.heap.size w'.heap.size a' (wo K V key n).length (kOf (wo K V key n)) (vOf (wo K V key n)) := by
    rintro e w' ⟨v, rfl, hb, ho⟩
    obtain ⟨a', cap', rfl, ho2⟩ := own_of_row ho
    exact ⟨a', cap', rfl, hb, ho2⟩
  rcases h with rfl | ⟨b, off, rfl, hbl, hk, hv⟩
  · exact (implWithout_zero K V key a cap w).mono fin
  · exact (implWithout_some n K V key b off cap w hn hbl hk hv).mono fin
end Go.Proofs.Ytnhkjdcbaphfcaa
