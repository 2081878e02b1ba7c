/- Edges: the model's side: the next writer, an edge put behind once. -/
import Derived.Test.YtnmmnhfgkcdajaaEdf
import Derived.Test.YtnmmnhfgkcdajaaLua
namespace Go.Proofs.Ytnmmnhfgkcdajaa
open Go.RowKit Go.Deep
set_option linter.unusedVariables false
set_option maxRecDepth 20000

def eqE (x y : Ed) : Bool := x.f == y.f && x.t == y.t && x.k == y.k
theorem eqE_iff {x y : Ed} : eqE x y = true ↔ x = y := by
  constructor
  · intro h; cases x; cases y; simp [eqE] at h; simp [h]
  · rintro rfl; simp [eqE]
def memE (l : List Ed) (e : Ed) : Bool := l.any (fun x => eqE x e)
theorem memE_iff {l : List Ed} {e : Ed} : memE l e = true ↔ e ∈ l := by
  simp only [memE, List.any_eq_true]
  constructor
  · rintro ⟨x, hx, h⟩; rw [← eqE_iff.1 h]; exact hx
  · intro h; exact ⟨e, h, eqE_iff.2 rfl⟩
/-- An edge put behind all others, once. -/
def adE (l : List Ed) (e : Ed) : List Ed := if memE l e = true then l else l ++ [e]
theorem adE_len (l : List Ed) (e : Ed) : (adE l e).length ≤ l.length + 1 := by
  unfold adE; split
  · omega
  · simp
theorem adE_mem {l : List Ed} {e x : Ed} : x ∈ adE l e ↔ x ∈ l ∨ x = e := by
  unfold adE; split
  · rename_i h
    constructor
    · exact .inl
    · rintro (h1 | rfl)
      · exact h1
      · exact memE_iff.1 h
  · simp
theorem eE_mem {l : List Ed} {i : Nat} (h : i < l.length) : eE l i ∈ l := by
  simp only [eE, List.getD_eq_getElem?_getD, List.getElem?_eq_getElem h, Option.getD_some]
  exact List.getElem_mem h
theorem mem_eE {l : List Ed} {e : Ed} (h : e ∈ l) : ∃ i, i < l.length ∧ eE l i = e := by
  obtain ⟨i, hi, q⟩ := List.mem_iff_getElem.1 h
  exact ⟨i, hi, by simp only [eE, List.getD_eq_getElem?_getD, List.getElem?_eq_getElem hi, Option.getD_some]; exact q⟩
set_option maxHeartbeats 4000000 in
theorem l11Next_any (l : List Int) (a : Option Addr) (cap : Nat) (v : Int) (w : World) (hn : l.length ≤ 90000) (h : IntsAt w a l.length (zI l)) :
    Calls Try.prog 61 #[.slice a l.length cap, .int .i64 v] w fun e w' => e = .returned (.int .i64 (nx l v)) ∧ w' = w := by
  have HX : Hid (IntsAt w a l.length (zI l)) := h
  clear h
  go_enter Try.func61, Try.ntmps61
  go_wp2_with fail
  go_loop [5] (fun i => ∃ k : Nat, k ≤ l.length ∧ i = .int .i64 k ∧ Hid (∀ i, i < k → (zI l i == v) = false)) (fun i => l.length - (intOf i).toNat)
  case atStart => exact ⟨0, Nat.zero_le _, rfl, fun i hi => by omega⟩
  case round =>
    obtain ⟨k, hk, rfl, HN⟩ := hrel
    have hk9 : k ≤ 90000 := by omega
    by_cases hlt : k < l.length
    · have hlt' : (k : Int) < (l.length : Int) := by omega
      have hk0 : (0 : Int) ≤ (k : Int) := by omega
      rcases HX.out with h | ⟨bb, off, rfl, hl, hcc⟩
      · omega
      have x0 := hcc k hlt
      obtain h1 | h1 := boolor (zI l k == v)
      · have hidx : idx l v = (k : Int) := by
          unfold idx
          rcases fst0_spec (fun i => zI l i == v) l.length with ⟨_, h2⟩ | ⟨j, h3, h2, h4, h5⟩
          · have := h2 k hlt; rw [h1] at this; simp at this
          · rw [h2]
            rcases Nat.lt_trichotomy k j with q | q | q
            · have := h5 k q; rw [h1] at this; simp at this
            · omega
            · have := HN.out j q; rw [h4] at this; simp at this
        by_cases hnx : k + 1 < l.length
        · have x1 := hcc (k + 1) hnx
          have hnx' : (k : Int) + 1 < (l.length : Int) := by omega
          have hnx0 : (0 : Int) ≤ (k : Int) + 1 := by omega
          have x1' := x1
          rw [← Nat.add_assoc] at x1'
          have HE : Hid (nx l v = zI l (k + 1)) := by show nx l v = _; rw [nx, hidx, if_pos (by omega), if_pos (by omega)]; simp
          clear hcc hidx
          generalize zI l (k + 1) = z1 at *
          generalize zI l k = z0 at *
          go_wp2_with fail
          go_ret
          exact ⟨ret_int HE.out.symm, rfl⟩
        · have hnx' : ¬ ((k : Int) + 1 < (l.length : Int)) := by omega
          have HE : Hid (nx l v = 0) := by show nx l v = _; rw [nx, hidx, if_pos (by omega), if_neg (by omega)]
          clear hcc hidx hnx
          generalize zI l k = z0 at *
          go_wp2_with fail
          go_ret
          exact ⟨ret_int HE.out.symm, rfl⟩
      · have HE : Hid (∀ i, i < k + 1 → (zI l i == v) = false) := fun i hi => by
          by_cases q : i = k
          · subst q; exact h1
          · exact HN.out i (by omega)
        clear hcc
        generalize zI l k = z0 at *
        go_wp2_with fail
        go_round
        case rel => exact ⟨k + 1, hlt, by go_num, HE⟩
        case measure => simp [intOf]; omega
    · have hkn : k = l.length := by omega
      have hnl : ¬ ((k : Int) < (l.length : Int)) := by omega
      have hidx : idx l v = -1 := by
        unfold idx
        rcases fst0_spec (fun i => zI l i == v) l.length with ⟨h1, _⟩ | ⟨j, h1, _, h3, _⟩
        · exact h1
        · have := HN.out j (by omega); rw [h3] at this; simp at this
      obtain h1 | h1 := boolor (decide (v ≤ 1))
      · by_cases hl0 : 0 < l.length
        · have hl0' : (0 : Int) < (l.length : Int) := by omega
          have hld : decide (0 < l.length) = true := decide_eq_true hl0
          rcases HX.out with h | ⟨bb, off, rfl, hl, hcc⟩
          · omega
          have x0 := hcc 0 hl0
          rw [Nat.add_zero] at x0
          have HE : Hid (nx l v = zI l 0) := by show nx l v = _; rw [nx, hidx, if_neg (by omega), if_pos ⟨by simpa using h1, hl0⟩]
          clear hcc hidx hkn
          generalize zI l 0 = z0 at *
          go_wp2_with fail
          go_ret
          exact ⟨ret_int HE.out.symm, rfl⟩
        · have hl0' : ¬ ((0 : Int) < (l.length : Int)) := by omega
          have hld : decide (0 < l.length) = false := decide_eq_false hl0
          have HE : Hid (nx l v = 0) := by show nx l v = _; rw [nx, hidx, if_neg (by omega), if_neg (fun hh => hl0 hh.2)]
          clear hidx hkn
          go_wp2_with fail
          go_ret
          exact ⟨ret_int HE.out.symm, rfl⟩
      · have HE : Hid (nx l v = 0) := by show nx l v = _; rw [nx, hidx, if_neg (by omega), if_neg (fun hh => by simp at h1; omega)]
        clear hidx hkn
        go_wp2_with fail
        go_ret
        exact ⟨ret_int HE.out.symm, rfl⟩
end Go.Proofs.Ytnmmnhfgkcdajaa
