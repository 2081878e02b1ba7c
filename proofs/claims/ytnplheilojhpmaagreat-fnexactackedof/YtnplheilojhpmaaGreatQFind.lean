/- Numbers in bytes: the model, and the walk of spec.l1Bytes. -/
import Derived.Test.YtnplheilojhpmaaGreatQSfault
import Derived.Deep.AppendLies
import Derived.Deep.RegionHeld3
namespace Go.Proofs.YtnplheilojhpmaaGreat
open Go.RowKit Go.Deep
set_option linter.unusedVariables false

def plc (K : Nat → Int) (key : Int) : Nat → Nat → Nat
  | 0, i => i
  | m + 1, i => if K i < key then plc K key m (i + 1) else i
/-- The place of a key among n cells. -/
def pl (K : Nat → Int) (key : Int) (n : Nat) : Nat := plc K key n 0
def has (K : Nat → Int) (key : Int) (n : Nat) : Bool := decide (pl K key n < n) && decide (K (pl K key n) = key)
/-! ### the walks -/
def bl (zs : List Int) : List Value := zs.map (Value.int .u8)
theorem bl_len (zs : List Int) : (bl zs).length = zs.length := by simp [bl]
theorem bl_app (zs ys : List Int) : bl (zs ++ ys) = bl zs ++ bl ys := by simp [bl]
theorem bl_one (zs : List Int) : ∀ u ∈ bl zs, u.oneCell' = true := by
  intro u hu
  obtain ⟨z, _, rfl⟩ := List.mem_map.1 hu
  rfl
/-- The byte of a number at a place. -/
def byt (x : Int) (k : Nat) : Int := x / 2 ^ (8 * k) % 256
theorem byt_bd (x : Int) (k : Nat) : 0 ≤ byt x k ∧ byt x k ≤ 255 := by unfold byt; omega
/-- A number in so many bytes, the highest first. -/
def nb (x : Int) : Nat → List Int
  | 0 => []
  | s + 1 => byt x s :: nb x s
theorem nb_len (x : Int) : ∀ s, (nb x s).length = s
  | 0 => rfl
  | s + 1 => by simp [nb, nb_len x s]
/-- One byte appended. -/
theorem app_byte {w wr w1 : World} {B : Nat} {v v' : Value} {T : List Int} {z : Int} {c : Array Value} {t : TypeId} (hb : Below B w wr) (hB : B ≤ wr.heap.size) (hown : wr.ownsRow B 5 1 v T.length (bl T))
    (h1 : w1.ownsRow B 5 1 v' (T.length + 1) (bl T ++ [.int .u8 z])) (hg : (wr.alloc (.cells c t)).grownBy w1 v.ownBlock) :
    w1.ownsRow B 5 1 v' (T ++ [z]).length (bl (T ++ [z])) ∧ Below B w w1 := by
  refine ⟨?_, (hb.alloc hB _).grown hg (by simp; omega) fun q hq => (hown.lt q hq).1⟩
  rw [bl_app, List.length_append]
  exact h1
set_option maxHeartbeats 1000000 in
theorem l1Bytes_any (x : Int) (size : Nat) (w : World) (hs : size ≤ 4) (hx : 0 ≤ x) (hx2 : x ≤ 1000000) :
    Calls Tryz.prog 85 #[.int .i64 x, .int .i64 size] w fun e w' => ∃ v, e = .returned v ∧ Below w.heap.size w w' ∧ w'.ownsRow w.heap.size 5 1 v (nb x size).length (bl (nb x size)) ∧ v ≠ .slice none 0 0 := by
  obtain ⟨i0, hi, hz0, hz1, hz2⟩ := info_parts info5
  have HI : Hid (Tryz.prog.info? 5 = some i0 ∧ i0.zero = some (.int .u8 0) ∧ i0.size = 1 ∧ i0.bytes = 1) := ⟨hi, hz0, hz1, hz2⟩
  clear hi hz0 hz1 hz2
  go_enter Tryz.func85, Tryz.ntmps85
  go_wp2
  go_loopw [5, 6] (fun v i wr => ∃ j : Nat, j ≤ size ∧ i = .int .i64 ((j : Int) - 1) ∧ Below w.heap.size w wr ∧ Hid (v ≠ .slice none 0 0) ∧ ∃ T, Hid (T ++ nb x j = nb x size) ∧ wr.ownsRow w.heap.size 5 1 v T.length (bl T)) (fun _ i _ => (intOf i + 1).toNat)
  case atStart => exact ⟨size, Nat.le_refl _, by go_num, below_new _ _, by simp [Hid], [], rfl, World.ownsRow_lit w #[] 0 (Nat.le_refl _) (Nat.zero_le _) rfl⟩
  case round =>
    obtain ⟨j, hj, rfl, hb, HNE, T, HT, hown⟩ := hrel
    have HO : Hid (wr.ownsRow w.heap.size 5 1 u5 T.length (bl T)) := hown
    have HB : Hid (Below w.heap.size w wr) := hb
    have HS : Hid (w.heap.size ≤ wr.heap.size) := hb.size
    have HTL : Hid (T.length + j = size) := by have := congrArg List.length HT.out; rw [List.length_append, nb_len, nb_len] at this; exact this
    clear hown hb
    rcases Nat.eq_zero_or_pos j with rfl | hp
    · go_wp2
      go_ret
      refine ⟨_, rfl, HB.out, ?_, HNE.out⟩
      have := HT.out
      rw [nb, List.append_nil] at this
      rw [← this]
      exact HO.out
    · obtain ⟨k, rfl⟩ : ∃ k, j = k + 1 := ⟨j - 1, by omega⟩
      have hk : (k : Int) ≤ 3 := by omega
      go_wp2_with (at_builtin; refine wpList_append_own _ rfl _ _ 27 rfl w.heap.size 5 i0 (.int .u8 0) 1 1 Tryz.underlying27 HI.out.1 HI.out.2.1 HI.out.2.2.1 HI.out.2.2.2 rfl (by decide) _ _ _ rfl (HO.out.alloc _) ⟨wr.heap.size, 0, none⟩ 1 1 [.int .u8 (x / 2 ^ (8 * k) % 256)] rfl rfl (cell_one_new _ _ _) ?c2 ?c3 ?c4 ?c5 ?_)
      case c2 => intro u hu; simp at hu; subst hu; rfl
      case c3 => have := HTL.out; unfold maxLen; omega
      case c4 => have := HTL.out; omega
      case c5 => have := HS.out; simp; omega
      intro v' w1 ho1 hg1 hne1
      have HR : Hid _ := app_byte HB.out HS.out HO.out ho1 hg1
      have HNE1 : Hid (v' ≠ .slice none 0 0) := hne1
      clear ho1 hg1 hne1
      go_wp2
      go_roundw
      case rel => exact ⟨k, by omega, by go_num, HR.out.2, HNE1, T ++ [byt x k], by show T ++ [byt x k] ++ nb x k = nb x size; rw [← HT.out]; simp [nb], HR.out.1⟩
      case measure => simp [intOf]
end Go.Proofs.YtnplheilojhpmaaGreat
