/- LostUpdates: the keys as a function; the program's side. -/
import Derived.Test.YtnmmnhfgkcdajaaHwb
import Derived.Test.YtnmmnhfgkcdajaaHoa
namespace Go.Proofs.Ytnmmnhfgkcdajaa
open Go.RowKit Go.Deep
set_option linter.unusedVariables false
set_option maxRecDepth 20000

def anyB (p : Nat → Bool) : Nat → Bool
  | 0 => false
  | k + 1 => anyB p k || p k
theorem anyB_true {p : Nat → Bool} {i : Nat} (h : p i = true) : ∀ {n : Nat}, i < n → anyB p n = true
  | 0, hi => by omega
  | n + 1, hi => by
    simp only [anyB]
    by_cases q : i = n
    · subst q; rw [h]; simp
    · rw [anyB_true h (n := n) (by omega)]; rfl
theorem anyB_false {p : Nat → Bool} : ∀ {n : Nat}, (∀ i, i < n → p i = false) → anyB p n = false
  | 0, _ => rfl
  | n + 1, h => by simp only [anyB]; rw [anyB_false (n := n) fun i hi => h i (by omega), h n (by omega)]; rfl
/-- Does the i-th overlap one of the first k? -/
def soI (R : Nat → Hp) (n : Nat) (l : List Int) (i : Nat) : Nat → Bool := anyB fun j => ovI R n (zI l i) (zI l j)
def soO (R : Nat → Hp) (n : Nat) (l : List Int) : Nat → Bool := anyB fun i => soI R n l i i
def soB (R : Nat → Hp) (n : Nat) (l : List Int) : Bool := soO R n l l.length
/-- Who wrote a key, as they committed. -/
def wrK (R : Nat → Hp) (n y : Nat) : List Int := wrL R n (y : Int) (cmL R n)
def luL (R : Nat → Hp) (n : Nat) : Nat → List Int
  | 0 => []
  | y + 1 => if soB R n (wrK R n y) = true then luL R n y ++ [(y : Int)] else luL R n y
theorem luL_yes {R : Nat → Hp} {n y : Nat} (h : soB R n (wrK R n y) = true) : luL R n (y + 1) = luL R n y ++ [(y : Int)] := by simp only [luL]; rw [if_pos h]
theorem luL_no {R : Nat → Hp} {n y : Nat} (h : soB R n (wrK R n y) = false) : luL R n (y + 1) = luL R n y := by simp only [luL]; rw [if_neg (by rw [h]; simp)]
theorem luL_lt (R : Nat → Hp) (n : Nat) : ∀ y x, x ∈ luL R n y → x < (y : Int)
  | 0, x, h => by simp [luL] at h
  | y + 1, x, h => by
    simp only [luL] at h
    split at h
    · simp only [List.mem_append, List.mem_singleton] at h
      rcases h with h | h
      · have := luL_lt R n y x h; omega
      · omega
    · have := luL_lt R n y x h; omega
theorem luL_len (R : Nat → Hp) (n : Nat) : ∀ y, (luL R n y).length ≤ y
  | 0 => by simp [luL]
  | y + 1 => by
    have := luL_len R n y
    simp only [luL]
    split
    · simp; omega
    · omega
set_option maxHeartbeats 4000000 in
theorem someOverlap_any (n : Nat) (R : Nat → Hp) (l : List Int) (a la : Option Addr) (lc : Nat) (w : World) (hn : n ≤ 1048576) (hhi : hiF R n = 0) (hl : l.length ≤ 400) (hlc : l.length ≤ lc) (h : HopsAt w a n R) (hi : IntsAt w la l.length (zI l)) :
    Calls Try.prog 43 #[.slice a n n, .slice la l.length lc] w fun e w' => e = .returned (.bool (soB R n l)) ∧ Below w.heap.size w w' := by
  have HX : Hid (HopsAt w a n R) := h
  have HI : Hid (IntsAt w la l.length (zI l)) := hi
  have HHI : Hid (hiF R n = 0) := hhi
  have HOV : Hid (∀ x y w, HopsAt w a n R → Calls Try.prog 41 #[.slice a n n, .int .i64 x, .int .i64 y] w fun e w' => e = .returned (.bool (ovI R n x y)) ∧ Below w.heap.size w w') := fun x y w h => overlapIn_any n R a x y w hn hhi h
  clear h hi hhi
  go_enter Try.func43, Try.ntmps43
  go_wp2_with fail
  go_loopw [5, 6, 8, 11] (fun _ _ _ i wr => ∃ k : Nat, k ≤ l.length ∧ i = .int .i64 k ∧ Hid (Below w.heap.size w wr) ∧ Hid (∀ i, i < k → soI R n l i i = false)) (fun _ _ _ i _ => l.length - (intOf i).toNat)
  case atStart => exact ⟨0, Nat.zero_le _, rfl, Below.refl _ _, fun i hi => by omega⟩
  case round =>
    obtain ⟨k, hk, rfl, HB, HN⟩ := hrel
    by_cases hlt : k < l.length
    · have hlt' : (k : Int) < (l.length : Int) := by omega
      have hk0 : (0 : Int) ≤ (k : Int) := by omega
      have hkl' : (k : Int) ≤ (l.length : Int) := by omega
      have hkc' : (k : Int) ≤ (lc : Int) := by omega
      rcases HI.out.below HB.out with h | ⟨lb, lo, rfl, hlb, hlx⟩
      · omega
      have lx := hlx k hlt
      clear hlx
      have HXK : Hid (∀ j, ovI R n (zI l k) (zI l j) = true → j < k → soB R n l = true) := fun j e hj => anyB_true (p := fun i => soI R n l i i) (anyB_true (p := fun j => ovI R n (zI l k) (zI l j)) e hj) hlt
      have HNK : Hid ((∀ j, j < k → ovI R n (zI l k) (zI l j) = false) → ∀ i, i < k + 1 → soI R n l i i = false) := fun e i hi => by
        by_cases q : i = k
        · subst q; exact anyB_false e
        · exact HN.out i (by omega)
      clear HN
      generalize zI l k = zk at *
      go_wp2_with fail
      go_loopw [8, 20] (fun _ i wq => ∃ j : Nat, j ≤ k ∧ i = .int .i64 j ∧ Hid (Below w.heap.size w wq) ∧ Hid (∀ i, i < j → ovI R n zk (zI l i) = false)) (fun _ i _ => k - (intOf i).toNat)
      case atStart => exact ⟨0, Nat.zero_le _, rfl, HB, fun i hi => by omega⟩
      case round =>
        clear HB
        obtain ⟨j, hj, rfl, HB, HM⟩ := hrel
        by_cases hlt2 : j < k
        · have hlt2' : (j : Int) < (k : Int) := by omega
          have hj0 : (0 : Int) ≤ (j : Int) := by omega
          rcases HI.out.below HB.out with h | ⟨lb', lo', he, hlb', hlx'⟩
          · omega
          simp only [Option.some.injEq, Addr.mk.injEq, and_true] at he
          obtain ⟨rfl, rfl⟩ := he
          have lx2 := hlx' j (by omega)
          clear hlx' lx
          have HM2 : Hid (ovI R n zk (zI l j) = false → ∀ i, i < j + 1 → ovI R n zk (zI l i) = false) := fun e i hi => by
            by_cases q : i = j
            · subst q; exact e
            · exact HM.out i (by omega)
          have HX2 : Hid (ovI R n zk (zI l j) = true → soB R n l = true) := fun e => HXK.out j e hlt2
          generalize zI l j = zj at *
          have HHX := HX.out.below HB.out
          go_wp2_with fail
          refine (HOV.out zk zj _ HHX).mono ?_
          rintro e w4 ⟨rfl, hb4⟩
          have HB4 : Hid (Below w.heap.size w w4) := below_then HB.out hb4
          clear hb4 HHX HB lx2
          obtain h1 | h1 := boolor (ovI R n zk zj)
          · have HS := HX2.out h1
            rw [h1]
            go_wp2_with fail
            go_ret
            exact ⟨ret_bool HS.symm, HB4.out⟩
          · have HM3 : Hid (∀ i, i < j + 1 → ovI R n zk (zI l i) = false) := HM2.out h1
            rw [h1]
            go_wp2_with fail
            go_roundw
            case rel => exact ⟨j + 1, hlt2, by go_num, HB4, HM3⟩
            case measure => simp [intOf]; omega
        · have hjk : j = k := by omega
          have hnl : ¬ ((j : Int) < (k : Int)) := by omega
          have HN2 : Hid (∀ i, i < k + 1 → soI R n l i i = false) := HNK.out (by rw [← hjk]; exact HM.out)
          clear hjk
          go_wp2_with fail
          go_roundw
          case rel => exact ⟨k + 1, hlt, by go_num, HB, HN2⟩
          case measure => simp [intOf]; omega
    · have hkn : k = l.length := by omega
      have hnl : ¬ ((k : Int) < (l.length : Int)) := by omega
      have HE : Hid (soB R n l = false) := anyB_false (by rw [← hkn]; exact HN.out)
      go_wp2_with fail
      go_ret
      exact ⟨ret_bool HE.out.symm, HB.out⟩
end Go.Proofs.Ytnmmnhfgkcdajaa
