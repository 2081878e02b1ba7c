/- Numbers that are looked for: slices.Index, slices.Contains, spec.l1Has. -/
import Derived.Test.YtnplheilojhpmaaGreatQTni
namespace Go.Proofs.YtnplheilojhpmaaGreat
open Go.RowKit Go.Deep
set_option linter.unusedVariables false
set_option maxRecDepth 20000

/-- The first place at which p is so, among the first n; -1: there is none. -/
def fst0 (p : Nat → Bool) : Nat → Int
  | 0 => -1
  | k + 1 => if fst0 p k ≠ -1 then fst0 p k else if p k then (k : Int) else -1
theorem fst0_spec (p : Nat → Bool) : ∀ n, (fst0 p n = -1 ∧ ∀ i, i < n → p i = false) ∨ ∃ k, k < n ∧ fst0 p n = (k : Int) ∧ p k = true ∧ ∀ i, i < k → p i = false
  | 0 => .inl ⟨rfl, fun i hi => by omega⟩
  | n + 1 => by
    rcases fst0_spec p n with ⟨h1, h2⟩ | ⟨k, h1, h2, h3, h4⟩
    · by_cases e : p n = true
      · right
        exact ⟨n, by omega, by simp only [fst0]; rw [if_neg (by simp [h1]), if_pos e], e, h2⟩
      · left
        refine ⟨by simp only [fst0]; rw [if_neg (by simp [h1]), if_neg e], fun i hi => ?_⟩
        by_cases q : i = n
        · subst q; simpa using e
        · exact h2 i (by omega)
    · right
      exact ⟨k, by omega, by simp only [fst0]; rw [if_pos (by rw [h2]; omega), h2], h3, h4⟩
theorem boolor (b : Bool) : b = true ∨ b = false := by cases b <;> simp
def idx (l : List Int) (v : Int) : Int := fst0 (fun i => zI l i == v) l.length
theorem zI_mem {l : List Int} {i : Nat} (h : i < l.length) : zI l i ∈ l := by
  simp only [zI, List.getD_eq_getElem?_getD, List.getElem?_eq_getElem h, Option.getD_some]
  exact List.getElem_mem h
theorem mem_zI {l : List Int} {v : Int} (h : v ∈ l) : ∃ i, i < l.length ∧ zI l i = v := by
  obtain ⟨i, hi, e⟩ := List.mem_iff_getElem.1 h
  exact ⟨i, hi, by simp only [zI, List.getD_eq_getElem?_getD, List.getElem?_eq_getElem hi, Option.getD_some]; exact e⟩
theorem idx_mem (l : List Int) (v : Int) : decide (0 ≤ idx l v) = decide (v ∈ l) := by
  unfold idx
  rcases fst0_spec (fun i => zI l i == v) l.length with ⟨h, h2⟩ | ⟨k, h1, h2, h3, _⟩
  · rw [h]
    have : ¬ v ∈ l := fun hm => by
      obtain ⟨i, hi, e⟩ := mem_zI hm
      have := h2 i hi
      simp [e] at this
    simp [this]
  · rw [h2]
    have : v ∈ l := by have h4 := zI_mem h1; simp at h3; rw [h3] at h4; exact h4
    simp [this]
set_option maxHeartbeats 4000000 in
theorem indexI_any (l : List Int) (a : Option Addr) (cap : Nat) (v : Int) (w : World) (hn : l.length ≤ 100000) (h : IntsAt w a l.length (zI l)) :
    Calls Tryz.prog 118 #[.slice a l.length cap, .int .i64 v] w fun e w' => e = .returned (.int .i64 (idx l v)) ∧ w' = w := by
  have HX : Hid (IntsAt w a l.length (zI l)) := h
  clear h
  go_enter Tryz.func118, Tryz.ntmps118
  go_wp2_with fail
  go_loop [5, 8] (fun _ i => ∃ k : Nat, k ≤ l.length ∧ i = .int .i64 k ∧ Hid (∀ i, i < k → (zI l i == v) = false)) (fun _ i => l.length - (intOf i).toNat)
  case atStart => exact ⟨0, Nat.zero_le _, rfl, fun i hi => by omega⟩
  case round =>
    obtain ⟨k, hk, rfl, HN⟩ := hrel
    by_cases hlt : k < l.length
    · have hlt' : (k : Int) < (l.length : Int) := by omega
      have hk0 : (0 : Int) ≤ (k : Int) := by omega
      rcases HX.out with h | ⟨bb, off, rfl, hl, hcc⟩
      · omega
      have x0 := hcc k hlt
      clear hcc
      have HY : Hid ((zI l k == v) = true → idx l v = (k : Int)) := fun e => by
        unfold idx
        rcases fst0_spec (fun i => zI l i == v) l.length with ⟨_, h2⟩ | ⟨j, h1, h2, h3, h4⟩
        · have := h2 k hlt; rw [e] at this; simp at this
        · rw [h2]
          rcases Nat.lt_trichotomy k j with q | q | q
          · have := h4 k q; rw [e] at this; simp at this
          · omega
          · have := HN.out j q; rw [h3] at this; simp at this
      have HM : Hid ((zI l k == v) = false → ∀ i, i < k + 1 → (zI l i == v) = false) := fun e i hi => by
        by_cases q : i = k
        · subst q; exact e
        · exact HN.out i (by omega)
      generalize zI l k = z at *
      obtain h1 | h1 := boolor (v == z)
      · have HE : Hid (idx l v = (k : Int)) := HY.out (by have : v = z := by simpa using h1
                                                          simp [this])
        clear HY HM
        go_wp2_with fail
        first | (go_ret; exact ⟨ret_int HE.out.symm, rfl⟩) | (go_region; go_wp2_with fail; go_ret; exact ⟨ret_int HE.out.symm, rfl⟩)
      · have HE : Hid (∀ i, i < k + 1 → (zI l i == v) = false) := HM.out (by have : ¬ v = z := by simpa using h1
                                                                             simp; exact fun e => this e.symm)
        clear HY HM
        go_wp2_with fail
        go_round
        case rel => exact ⟨k + 1, hlt, by go_num, HE⟩
        case measure => simp [intOf]; omega
    · have hkn : k = l.length := by omega
      have hnl : ¬ ((k : Int) < (l.length : Int)) := by omega
      have HE : Hid (idx l v = -1) := by
        show idx l v = -1
        unfold idx
        rcases fst0_spec (fun i => zI l i == v) l.length with ⟨h1, _⟩ | ⟨j, h1, _, h3, _⟩
        · exact h1
        · have := HN.out j (by omega); rw [h3] at this; simp at this
      go_wp2_with fail
      go_ret
      exact ⟨ret_int HE.out.symm, rfl⟩
theorem containsI_any (l : List Int) (a : Option Addr) (cap : Nat) (v : Int) (w : World) (hn : l.length ≤ 100000) (h : IntsAt w a l.length (zI l)) :
    Calls Tryz.prog 95 #[.slice a l.length cap, .int .i64 v] w fun e w' => e = .returned (.bool (decide (v ∈ l))) ∧ w' = w := by
  have HX : Hid (IntsAt w a l.length (zI l)) := h
  have HE : Hid (decide (0 ≤ idx l v) = decide (v ∈ l)) := idx_mem l v
  clear h
  go_enter Tryz.func95, Tryz.ntmps95
  go_wp2_with fail
  refine (indexI_any l a cap v _ hn HX.out).mono ?_
  rintro e w1 ⟨rfl, hq⟩
  have hq2 := hq.symm
  clear hq
  subst hq2
  generalize idx l v = q at *
  go_wp2_with fail
  go_ret
  exact ⟨ret_bool HE.out, rfl⟩
set_option maxHeartbeats 2000000 in
theorem l1Has_any (zs : List Int) (a : Option Addr) (cap : Nat) (v : Int) (w : World) (hn : zs.length ≤ 100000) (h : IntsAt w a zs.length (zI zs)) :
    Calls Tryz.prog 83 #[.slice a zs.length cap, .int .i64 v] w fun e w' => e = .returned (.bool (decide (v ∈ zs))) ∧ w' = w := by
  have HA : Hid (IntsAt w a zs.length (zI zs)) := h
  clear h
  go_enter Tryz.func83, Tryz.ntmps83
  go_wp2_with fail
  go_loop [5] (fun i => ∃ k : Nat, k ≤ zs.length ∧ i = .int .i64 k ∧ Hid (∀ j, j < k → zI zs j ≠ v)) (fun i => zs.length - (intOf i).toNat)
  case atStart => exact ⟨0, Nat.zero_le _, rfl, fun j hj => by omega⟩
  case round =>
    obtain ⟨k, hk, rfl, HN⟩ := hrel
    by_cases hlt : k < zs.length
    · have hlt' : (k : Int) < (zs.length : Int) := by omega
      have hk0 : (0 : Int) ≤ (k : Int) := by omega
      rcases HA.out with h | ⟨b, off, rfl, hl, hc⟩
      · omega
      have hx := hc k hlt
      clear hc
      by_cases he : zI zs k = v
      · have HM : Hid (decide (v ∈ zs) = true) := by
          refine decide_eq_true ?_
          rw [← he]
          unfold zI
          rw [List.getD_eq_getElem?_getD, List.getElem?_eq_getElem hlt]
          exact List.getElem_mem hlt
        have he2 : (zI zs k == v) = true := by simp [he]
        generalize zI zs k = zk at *
        clear he
        go_wp2_with fail
        go_ret
        exact ⟨ret_bool HM.out.symm, rfl⟩
      · have HN2 : Hid (∀ j, j < k + 1 → zI zs j ≠ v) := fun j hj => by
          by_cases e : j = k
          · subst e; exact he
          · exact HN.out j (by omega)
        have he2 : (zI zs k == v) = false := by simp [he]
        generalize zI zs k = zk at *
        clear he
        go_wp2_with fail
        go_round
        case rel => exact ⟨k + 1, hlt, by go_num, HN2⟩
        case measure => simp [intOf]; omega
    · have hkn : k = zs.length := by omega
      have hnl : ¬ ((k : Int) < (zs.length : Int)) := by omega
      have HM : Hid (decide (v ∈ zs) = false) := by
        refine decide_eq_false fun hm => ?_
        obtain ⟨i, hi, e⟩ := List.mem_iff_getElem.1 hm
        refine HN.out i (by omega) ?_
        unfold zI
        rw [List.getD_eq_getElem?_getD, List.getElem?_eq_getElem hi]
        exact e
      go_wp2_with fail
      go_ret
      exact ⟨ret_bool HM.out.symm, rfl⟩
/-- The first n numbers, as a list. -/
def ivL (F : Nat → Int) (n : Nat) : List Int := (List.range n).map F
theorem ivL_len (F : Nat → Int) (n : Nat) : (ivL F n).length = n := by simp [ivL]
theorem ivL_at (F : Nat → Int) {n i : Nat} (h : i < n) : zI (ivL F n) i = F i := by simp [zI, ivL, h]
theorem IntsAt.list {w : World} {a : Option Addr} {n : Nat} {F : Nat → Int} (h : IntsAt w a n F) : IntsAt w a (ivL F n).length (zI (ivL F n)) := by
  rw [ivL_len]
  rcases h with h | ⟨b, off, ha, hl, hc⟩
  · exact .inl h
  · exact .inr ⟨b, off, ha, hl, fun i hi => by rw [ivL_at F hi]; exact hc i hi⟩
theorem containsF_any (F : Nat → Int) (n : Nat) (a : Option Addr) (cap : Nat) (v : Int) (w : World) (hn : n ≤ 100000) (h : IntsAt w a n F) :
    Calls Tryz.prog 95 #[.slice a n cap, .int .i64 v] w fun e w' => e = .returned (.bool (decide (v ∈ ivL F n))) ∧ w' = w := by
  have h1 := containsI_any (ivL F n) a cap v w (by rw [ivL_len]; exact hn) h.list
  rw [ivL_len] at h1
  exact h1
theorem l1HasF_any (F : Nat → Int) (n : Nat) (a : Option Addr) (cap : Nat) (v : Int) (w : World) (hn : n ≤ 100000) (h : IntsAt w a n F) :
    Calls Tryz.prog 83 #[.slice a n cap, .int .i64 v] w fun e w' => e = .returned (.bool (decide (v ∈ ivL F n))) ∧ w' = w := by
  have h1 := l1Has_any (ivL F n) a cap v w (by rw [ivL_len]; exact hn) h.list
  rw [ivL_len] at h1
  exact h1
end Go.Proofs.YtnplheilojhpmaaGreat
