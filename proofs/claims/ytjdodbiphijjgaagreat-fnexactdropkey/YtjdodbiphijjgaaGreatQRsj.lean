/- spec.l5Push: its answer's room told too. -/
import Derived.Test.YtjdodbiphijjgaaGreatQVt
import Derived.Test.YtjdodbiphijjgaaGreatQVw
import Derived.Test.YtjdodbiphijjgaaGreatQVsd
namespace Go.Proofs.YtjdodbiphijjgaaGreat
open Go.RowKit Go.Deep
set_option linter.unusedVariables false
set_option maxRecDepth 20000

def PAnc (m : Nat) (S : Nat → Vr) (w : World) (e : Ending) (w' : World) : Prop := ∃ a cap, e = .returned (.tuple #[.slice a m cap, .int .i64 0]) ∧ m ≤ cap ∧ Below w.heap.size w w' ∧ Own4 w' (w.heap.size + 1) w'.heap.size a m S
set_option maxHeartbeats 2000000 in
theorem l5Push_ownc (n : Nat) (R : Nat → Vr) (a : Option Addr) (cap : Nat) (o : Int) (g : Bool) (v : Int) (w : World) (hn : n ≤ 12) (hp : 0 < n) (hw : wrt n R = o) (h : VersAt w a n R) :
    Calls Tryz.prog 114 #[.slice a n cap, .int .i64 o, .bool g, .int .i64 v] w (PAnc n (pxA R ⟨o, 0, g, v⟩) w) := by
  have HA : Hid (VersAt w a n R) := h
  clear h
  go_enter Tryz.func114, Tryz.ntmps114
  go_wp2_with fail
  refine (l5Writer_any n R a cap _ (HA.out.below (below_new _ _))).mono ?_
  rintro e w1 ⟨rfl, hw1⟩
  rw [hw]
  have hBX : C4 w1 w.heap.size 0 ⟨o, 0, g, v⟩ := by rw [hw1]; exact box_v w ⟨o, 0, g, v⟩ 179
  have HB1 : Hid (Below w.heap.size w w1) := by rw [hw1]; exact below_new _ _
  have hs1 : w1.heap.size = w.heap.size + 1 := by rw [hw1]; simp
  clear hw1 hw
  go_wp2_with fail
  refine (l5Copy_anyw n R a cap w1 (by omega) (HA.out.below HB1.out)).mono ?_
  rintro e w3 ⟨ra, rc, rfl, hb3, ho3, hcap⟩
  obtain ⟨ob, oo, rfl, hlo, hhi, hsz, hrow⟩ := own4_some ho3 hp
  obtain ⟨d0, d1, d2, d3⟩ := hBX.below hb3
  simp only [Nat.zero_add] at d0 d1 d2 d3
  obtain ⟨y0, y1, y2, y3⟩ := hrow.1 0 hp
  rw [Nat.zero_mul, Nat.add_zero] at y0 y1 y2 y3
  have yf := hrow.2
  have hp' : (0 : Int) < (n : Int) := by omega
  have HF : Hid (PAnc n (pxA R ⟨o, 0, g, v⟩) w (.returned (.tuple #[.slice (some ⟨ob, oo, none⟩) n rc, .int .i64 0])) (set4 w3 ob oo ⟨o, 0, g, v⟩)) := by
    have hr := row4_set (r := ⟨o, 0, g, v⟩) hp hrow
    rw [Nat.zero_mul, Nat.add_zero] at hr
    refine ⟨_, rc, rfl, hcap, set4_below (below_then HB1.out hb3) (by omega), Nat.le_refl _, .inr ⟨ob, oo, rfl, by omega, by rw [set4_size]; omega, row4_congr hr (fun i _ => rfl)⟩⟩
  clear hb3 ho3 hrow HB1 HA
  generalize R 0 = r0 at *
  go_wp2_with fail
  go_ret2
  exact HF.out
set_option maxHeartbeats 2000000 in
theorem l5Push_newc (n : Nat) (R : Nat → Vr) (a : Option Addr) (cap : Nat) (o : Int) (g : Bool) (v : Int) (w : World) (hn : n < 12) (hw : wrt n R ≠ o) (h : VersAt w a n R) :
    Calls Tryz.prog 114 #[.slice a n cap, .int .i64 o, .bool g, .int .i64 v] w (PAnc (n + 1) (pxC R ⟨o, 0, g, v⟩) w) := by
  have HA : Hid (VersAt w a n R) := h
  have hn1 : ¬ ((12 : Int) ≤ (n : Int)) := by omega
  clear h
  go_enter Tryz.func114, Tryz.ntmps114
  go_wp2_with fail
  refine (l5Writer_any n R a cap _ (HA.out.below (below_new _ _))).mono ?_
  rintro e w1 ⟨rfl, hw1⟩
  have hBX : C4 w1 w.heap.size 0 ⟨o, 0, g, v⟩ := by rw [hw1]; exact box_v w ⟨o, 0, g, v⟩ 179
  have HB1 : Hid (Below w.heap.size w w1) := by rw [hw1]; exact below_new _ _
  have HS1 : Hid (w1.heap.size = w.heap.size + 1) := by show w1.heap.size = w.heap.size + 1; rw [hw1]; simp
  clear hw1
  generalize wrt n R = z at *
  have hz : (z == o) = false := by simp [hw]
  obtain ⟨d0, d1, d2, d3⟩ := hBX
  simp only [Nat.zero_add] at d0 d1 d2 d3
  have HO : Hid (((w1.alloc (.cells #[.int .i64 o, .int .i64 0, .bool g, .int .i64 v] 179))).ownsRow w1.heap.size 179 4 (.slice (some ⟨w1.heap.size, 0, none⟩) 1 1) [(⟨o, 0, g, v⟩ : Vr)].length (vb [(⟨o, 0, g, v⟩ : Vr)])) := World.ownsRow_lit w1 #[.int .i64 o, .int .i64 0, .bool g, .int .i64 v] 1 (Nat.le_refl _) (by unfold maxLen; omega) rfl
  have HA1 : Hid (VersAt (w1.alloc (.cells #[.int .i64 o, .int .i64 0, .bool g, .int .i64 v] 179)) a n R) := (HA.out.below HB1.out).below (below_new _ _)
  go_wp2_with (at_builtin; refine wpList_appV _ rfl (.tmp 31) (.tmp 32) rfl w1.heap.size _ [(⟨o, 0, g, v⟩ : Vr)] rfl HO.out a n cap R rfl HA1.out (by simp; omega) (by simp) ?_)
  intro v1 w3 ho1 hg1
  have HB3 : Hid (Below w.heap.size w w3) := below_then HB1.out ((below_new w1 _).grown hg1 (by simp) (fun q hq => (HO.out.lt q hq).1))
  have HF : Hid (PAnc (n + 1) (pxC R ⟨o, 0, g, v⟩) w (.returned (.tuple #[v1, .int .i64 0])) w3) := by
    have el : ((⟨o, 0, g, v⟩ : Vr) :: vL R n).length = n + 1 := by simp [vL_len]
    rw [vL_len] at ho1
    obtain ⟨rb, rd, rfl, hcap⟩ := sha_of_row ho1
    have h4 := own4_of_row el ho1
    rw [HS1.out] at h4
    refine ⟨rb, rd, rfl, by have := hcap.1; simp at this ⊢; omega, HB3.out, h4.congr (fun i hi => ?_)⟩
    by_cases e : i = 0
    · subst e; rfl
    · obtain ⟨j, rfl⟩ : ∃ j, i = j + 1 := ⟨i - 1, by omega⟩
      show ((⟨o, 0, g, v⟩ : Vr) :: vL R n).getD (j + 1) zV = pxC R ⟨o, 0, g, v⟩ (j + 1)
      rw [List.getD_eq_getElem?_getD]
      simp [pxC, vL_get (R := R) (show j < n by omega)]
  clear ho1 hg1
  go_wp2_with fail
  go_ret2
  exact HF.out
end Go.Proofs.YtjdodbiphijjgaaGreat
