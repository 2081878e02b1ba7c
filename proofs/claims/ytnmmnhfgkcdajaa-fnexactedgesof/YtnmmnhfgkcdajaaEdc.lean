/- Edges: those of the writers of a key, those of a read: the program. -/
import Derived.Test.YtnmmnhfgkcdajaaEdb
namespace Go.Proofs.Ytnmmnhfgkcdajaa
open Go.RowKit Go.Deep
set_option linter.unusedVariables false
set_option maxRecDepth 20000

/-- For each writer and the next one, by the first k + 1. -/
def eW (ws : List Int) : Nat → List Ed
  | 0 => []
  | k + 1 => eW ws k ++ [⟨zI ws k, zI ws (k + 1), 1⟩]
theorem eW_len (ws : List Int) : ∀ k, (eW ws k).length = k
  | 0 => rfl
  | k + 1 => by simp [eW, eW_len ws k]
/-- A list of edges of the call's own. -/
def ERs (es : List Ed) (w : World) (e : Ending) (w' : World) : Prop := ∃ v, e = .returned v ∧ Below w.heap.size w w' ∧ OwnE w' w.heap.size v es
set_option maxHeartbeats 4000000 in
theorem edgesOfWriters_any (l : List Int) (a : Option Addr) (cap : Nat) (w : World) (hn : l.length ≤ 90000) (h : IntsAt w a l.length (zI l)) :
    Calls Try.prog 69 #[.slice a l.length cap] w (ERs (eW l (l.length - 1)) w) := by
  have HX : Hid (IntsAt w a l.length (zI l)) := h
  clear h
  go_enter Try.func69, Try.ntmps69
  go_wp2_with fail
  go_loopw [3, 4, 5, 8] (fun v _ _ i wr => ∃ k : Nat, k ≤ l.length ∧ i = .int .i64 k ∧ Hid (Below w.heap.size w wr) ∧ Hid (OwnE wr w.heap.size v (eW l (k - 1)))) (fun _ _ _ i _ => l.length - (intOf i).toNat)
  case atStart => exact ⟨0, Nat.zero_le _, rfl, Below.refl _ _, World.ownsRow_nil _ _ _ _⟩
  case round =>
    obtain ⟨k, hk, rfl, HB, HO⟩ := hrel
    by_cases hlt : k < l.length
    · have hlt' : (k : Int) < (l.length : Int) := by omega
      have hk0 : (0 : Int) ≤ (k : Int) := by omega
      have hk9 : k ≤ 90000 := by omega
      rcases HX.out.below HB.out with h | ⟨lb, lo, rfl, hlb, hlx⟩
      · omega
      have lx := hlx k hlt
      by_cases hz : k = 0
      · have hz1 : ¬ ((0 : Int) < (k : Int)) := by omega
        have HZ : Hid (k = 0) := hz
        clear hlx hz
        go_wp2_with fail
        go_roundw
        case rel => exact ⟨k + 1, hlt, by go_num, HB, by have h := HO.out; rw [HZ.out] at h ⊢; exact h⟩
        case measure => simp [intOf]; omega
      · obtain ⟨j, rfl⟩ : ∃ j, k = j + 1 := ⟨k - 1, by omega⟩
        have ly := hlx j (by omega)
        clear hlx
        have hj0 : (0 : Int) ≤ (j : Int) := by omega
        have hj1 : (j : Int) < (l.length : Int) := by omega
        have hj2 : (0 : Int) < ((j + 1 : Nat) : Int) := by omega
        have hj3 : ((j + 1 : Nat) : Int) - 1 = (j : Int) := by omega
        have hszr := HB.out.size
        have HLK : Hid ((eW l j).length + 1 ≤ 100000) := by show _ ≤ _; rw [eW_len]; omega
        have HOA : Hid (∀ o1 : Obj, OwnE (wr.alloc o1) w.heap.size _ (eW l j)) := fun o1 => own_belowI (by have h := HO.out; simp only [Nat.add_sub_cancel] at h; exact h) (below_new _ _)
        have HST : Hid (eW l j ++ [⟨zI l j, zI l (j + 1), 1⟩] = eW l (j + 1)) := rfl
        generalize zI l (j + 1) = z1 at *
        generalize zI l j = z0 at *
        go_wp2_with (at_builtin; refine wpList_appE _ rfl (.tmp 15) (.tmp 23) rfl w.heap.size _ (eW l j) [⟨z0, z1, 1⟩] rfl (HOA.out _) (some ⟨wr.heap.size, 0, none⟩) 1 1 rfl rfl (ed_new _ ⟨z0, z1, 1⟩ _) HLK.out (by simp; omega) ?_)
        intro v2 w5 ho5 hg5
        have HB5 : Hid (Below w.heap.size w w5) := by
          refine (below_then HB.out (below_new _ _)).grown hg5 (by simp; omega) fun q hq => ?_
          exact (ownI_lt HO.out q hq).1
        have HO5 : Hid (OwnE w5 w.heap.size v2 (eW l (j + 1))) := by show OwnE _ _ _ _; rw [← HST.out]; exact ho5
        clear ho5 hg5 HOA HB HO HST
        go_wp2_with fail
        go_roundw
        case rel => exact ⟨j + 1 + 1, hlt, by go_num, HB5, HO5⟩
        case measure => simp [intOf]; omega
    · have hkn : k = l.length := by omega
      have hnl : ¬ ((k : Int) < (l.length : Int)) := by omega
      obtain ⟨va, vc, rfl⟩ := rowE_slice HO.out
      have HF : Hid (ERs (eW l (l.length - 1)) w (.returned (.slice va (eW l (k - 1)).length vc)) wr) := ⟨_, rfl, HB.out, by have h := HO.out; rw [hkn] at h ⊢; exact h⟩
      clear HO HB hkn
      generalize (eW l (k - 1)).length = len at *
      go_wp2_with fail
      go_ret
      exact HF.out
end Go.Proofs.Ytnmmnhfgkcdajaa
