/- Numbers read from bytes: the walks of impl.readNumber and spec.l1Take. -/
import Derived.Test.YtnhkjdcbaphfcaaSum
import Derived.Laws.BitsLemmas
import Derived.Laws.BytesArg
namespace Go.Proofs.Ytnhkjdcbaphfcaa
open Go.RowKit Go.Deep
set_option linter.unusedVariables false

/-- The number of m bytes from the i-th on, the highest first. -/
def num (z : Nat → Int) (i : Nat) : Nat → Int
  | 0 => 0
  | m + 1 => num z i m * 256 + z (i + m)
theorem num_bd (z : Nat → Int) (i : Nat) : ∀ m, (∀ j, j < m → 0 ≤ z (i + j) ∧ z (i + j) ≤ 255) → 0 ≤ num z i m ∧ num z i m < 256 ^ m
  | 0, _ => by simp [num]
  | m + 1, h => by
    have ih := num_bd z i m fun j hj => h j (by omega)
    have hm := h m (by omega)
    simp only [num, Int.pow_succ]
    omega
theorem or8 (x y : Int) (h0 : 0 ≤ x) (h1 : x ≤ 16777215) (h2 : 0 ≤ y) (h3 : y ≤ 255) : bits .or .u64 (x * 256) y = x * 256 + y :=
  bits_join .u64 40 (by decide) (fun n a c => by rw [IntKind.wrap_u64]; omega) 8 (x * 256) y (by omega) (by omega) (by omega) h2 (by omega) (by omega)
set_option maxHeartbeats 400000 in
theorem readNumber_some (m : Nat) (z : Nat → Int) (b off cap : Nat) (w : World) (hm : m ≤ 4) (hz : ∀ j, j < m → 0 ≤ z j ∧ z j ≤ 255) (hc : ∀ i, i < m → w.cell? ⟨b, off + i, none⟩ = some (.int .u8 (z i))) :
    Calls Try.prog 31 #[.slice (some ⟨b, off, none⟩) m cap] w fun e w' => e = .returned (.int .i64 (num z 0 m)) ∧ w' = w := by
  go_enter Try.func31, Try.ntmps31
  go_wp2
  go_loop [3, 5, 8] (fun h _ i => ∃ k : Nat, k ≤ m ∧ i = .int .i64 k ∧ h = .int .u64 (num z 0 k)) (fun _ _ i => m - (intOf i).toNat)
  case atStart => exact ⟨0, Nat.zero_le _, rfl, rfl⟩
  case round =>
    obtain ⟨k, hk, rfl, rfl⟩ := hrel
    by_cases hlt : k < m
    · have hcell := hc k hlt
      obtain ⟨hz1, hz2⟩ := hz k hlt
      have hb := num_bd z 0 k (fun j hj => by rw [Nat.zero_add]; exact hz j (by omega))
      have hb2 : num z 0 k ≤ 16777215 := by
        have h3 : k = 0 ∨ k = 1 ∨ k = 2 ∨ k = 3 := by omega
        rcases h3 with rfl | rfl | rfl | rfl <;> simp at hb <;> omega
      obtain ⟨hb1, -⟩ := hb
      have HO : Hid (bits .or .u64 (num z 0 k * 256) (z k) = num z 0 k * 256 + z k) := or8 _ _ hb1 hb2 hz1 hz2
      clear hc hz
      go_wp2
      go_round
      case rel => exact ⟨k + 1, hlt, by go_num, by rw [HO.out]; simp [num]⟩
      case measure => simp [intOf]; omega
    · have hkn : k = m := by omega
      have HB : Hid (wrap64 (num z 0 m) = num z 0 m) := by
        have hb := num_bd z 0 m (fun j hj => by rw [Nat.zero_add]; exact hz j (by omega))
        show wrap64 (num z 0 m) = num z 0 m
        unfold wrap64
        have h3 : m = 0 ∨ m = 1 ∨ m = 2 ∨ m = 3 ∨ m = 4 := by omega
        rcases h3 with rfl | rfl | rfl | rfl | rfl <;> simp at hb <;> omega
      clear hc hz
      go_wp2
      go_ret
      exact ⟨ret_int HB.out, rfl⟩
set_option maxHeartbeats 400000 in
theorem l1Take_some (n i m : Nat) (z : Nat → Int) (b off cap : Nat) (w : World) (hm : m ≤ 4) (him : i + m ≤ n) (hn : n ≤ 1000) (hz : Byt n z) (hc : ∀ i, i < n → w.cell? ⟨b, off + i, none⟩ = some (.int .u8 (z i))) :
    Calls Try.prog 36 #[.slice (some ⟨b, off, none⟩) n cap, .int .i64 i, .int .i64 m] w fun e w' => e = .returned (.int .i64 (num z i m)) ∧ w' = w := by
  go_enter Try.func36, Try.ntmps36
  go_wp2
  go_loop [7, 8] (fun h q => ∃ k : Nat, k ≤ m ∧ q = .int .i64 k ∧ h = .int .i64 (num z i k)) (fun _ q => m - (intOf q).toNat)
  case atStart => exact ⟨0, Nat.zero_le _, rfl, rfl⟩
  case round =>
    obtain ⟨k, hk, rfl, rfl⟩ := hrel
    by_cases hlt : k < m
    · have hcell := hc (i + k) (by omega)
      obtain ⟨hz1, hz2⟩ := hz (i + k) (by omega)
      have hb := num_bd z i k (fun j hj => hz (i + j) (by omega))
      have hb2 : num z i k ≤ 16777215 := by
        have h3 : k = 0 ∨ k = 1 ∨ k = 2 ∨ k = 3 := by omega
        rcases h3 with rfl | rfl | rfl | rfl <;> simp at hb <;> omega
      obtain ⟨hb1, -⟩ := hb
      have hik : ((i : Int) + (k : Int)) < (n : Int) := by omega
      have hik2 : ((i : Int) + (k : Int)).toNat = i + k := by omega
      clear hc hz
      go_wp2
      go_round
      case rel => exact ⟨k + 1, hlt, by go_num, by simp [num]⟩
      case measure => simp [intOf]; omega
    · have hkn : k = m := by omega
      clear hc hz
      go_wp2
      go_ret
      exact ⟨rfl, rfl⟩
/-! ### bytes as a string -/
theorem str_inj {xs ys : List Int} (hx : ∀ z ∈ xs, 0 ≤ z ∧ z ≤ 255) (hy : ∀ z ∈ ys, 0 ≤ z ∧ z ≤ 255) (h : (strOfNums xs).toList = (strOfNums ys).toList) : xs = ys := by
  have e1 : ∀ (l : List Int), (strOfNums l).data.toList = l.map fun n => UInt8.ofNat n.toNat := fun l => by simp [strOfNums]
  have e2 : ∀ (s : ByteArray), s.toList = s.data.toList := fun s => by exact ByteArray.toList_eq _
  rw [e2, e2, e1, e1] at h
  have back : ∀ (l : List Int), (∀ z ∈ l, 0 ≤ z ∧ z ≤ 255) → (l.map fun n => UInt8.ofNat n.toNat).map (fun b => (b.toNat : Int)) = l := fun l hl => by
    rw [List.map_map]
    conv => rhs; rw [← List.map_id l]
    apply List.map_congr_left
    intro z hz
    have := hl z hz
    simp
    omega
  rw [← back xs hx, h, back ys hy]
theorem equal_some (xs ys : List Int) (b off cap b' off' cap' : Nat) (w : World) (hx : ∀ z ∈ xs, 0 ≤ z ∧ z ≤ 255) (hy : ∀ z ∈ ys, 0 ≤ z ∧ z ≤ 255)
    (hc : ∀ i, i < xs.length → w.cell? ⟨b, off + i, none⟩ = some (.int .u8 (xs.getD i 0))) (hc' : ∀ i, i < ys.length → w.cell? ⟨b', off' + i, none⟩ = some (.int .u8 (ys.getD i 0))) :
    Calls Try.prog 34 #[.slice (some ⟨b, off, none⟩) xs.length cap, .slice (some ⟨b', off', none⟩) ys.length cap'] w fun e w' => e = .returned (.bool (decide (xs = ys))) ∧ w' = w := by
  have h1 := run_convert_bytes_arg (P := Try.prog) w 22 5 Try.underlying22 Try.underlying5 b off xs.length cap xs rfl hc 9 Try.underlying9
  have h2 := run_convert_bytes_arg (P := Try.prog) w 22 5 Try.underlying22 Try.underlying5 b' off' ys.length cap' ys rfl hc' 9 Try.underlying9
  have HE : Hid (((strOfNums xs).toList == (strOfNums ys).toList) = decide (xs = ys)) := by
    show ((strOfNums xs).toList == (strOfNums ys).toList) = decide (xs = ys)
    by_cases e : xs = ys
    · subst e; simp
    · have : ¬ (strOfNums xs).toList = (strOfNums ys).toList := fun h => e (str_inj hx hy h)
      simp [e, this]
  clear hc hc' hx hy
  go_enter Try.func34, Try.ntmps34
  go_wp2
  go_ret
  exact ⟨ret_bool HE.out, rfl⟩
end Go.Proofs.Ytnhkjdcbaphfcaa
