/- The rows of an engine by key: a search by halves. -/
import Derived.Test.YtabkgncnanlapaaGreatQGf
namespace Go.Proofs.YtabkgncnanlapaaGreat
open Go.RowKit Go.Deep
set_option linter.unusedVariables false
set_option maxRecDepth 20000

def cmp3 (a b : Int) : Int := if a < b then -1 else if b < a then 1 else 0
theorem isNaN_any (x : Int) (w : World) : Calls Tryz.prog 137 #[.int .i64 x] w fun e w' => e = .returned (.bool false) ∧ w' = w := by
  have e1 : (x != x) = false := by simp
  go_enter Tryz.func137, Tryz.ntmps137
  go_wp2_with fail
  go_ret
  exact ⟨rfl, rfl⟩
theorem compare_any (x y : Int) (w : World) : Calls Tryz.prog 119 #[.int .i64 x, .int .i64 y] w fun e w' => e = .returned (.int .i64 (cmp3 x y)) ∧ w' = w := by
  have HE : Hid (cmp3 x y = if x < y then -1 else if y < x then 1 else 0) := rfl
  by_cases h1 : x < y
  · have HE2 : Hid (cmp3 x y = -1) := HE.out.trans (if_pos h1)
    clear HE
    go_enter Tryz.func119, Tryz.ntmps119
    go_wp2_with (first | (go_at_call 137; refine (isNaN_any _ _).mono ?_; rintro e w' ⟨rfl, rfl⟩))
    go_ret
    exact ⟨ret_int HE2.out.symm, rfl⟩
  · by_cases h2 : y < x
    · have HE2 : Hid (cmp3 x y = 1) := HE.out.trans ((if_neg h1).trans (if_pos h2))
      clear HE
      go_enter Tryz.func119, Tryz.ntmps119
      go_wp2_with (first | (go_at_call 137; refine (isNaN_any _ _).mono ?_; rintro e w' ⟨rfl, rfl⟩))
      go_ret
      exact ⟨ret_int HE2.out.symm, rfl⟩
    · have HE2 : Hid (cmp3 x y = 0) := HE.out.trans ((if_neg h1).trans (if_neg h2))
      clear HE
      go_enter Tryz.func119, Tryz.ntmps119
      go_wp2_with (first | (go_at_call 137; refine (isNaN_any _ _).mono ?_; rintro e w' ⟨rfl, rfl⟩))
      go_ret
      exact ⟨ret_int HE2.out.symm, rfl⟩
theorem place1_any (k key : Int) (ai : Option Addr) (n ci : Nat) (w : World) : Calls Tryz.prog 118 #[.agg #[.int .i64 k, .slice ai n ci], .int .i64 key] w fun e w' => e = .returned (.int .i64 (cmp3 k key)) ∧ Below w.heap.size w w' := by
  go_enter Tryz.func118, Tryz.ntmps118
  go_wp2_with fail
  refine (compare_any k key _).mono ?_
  rintro e w1 ⟨rfl, hw1⟩
  have HB : Hid (Below w.heap.size w w1) := by rw [hw1]; exact below_new _ _
  clear hw1
  go_wp2_with fail
  go_ret
  exact ⟨rfl, HB.out⟩
/-- Where the row of a key stands, or would have to be put. -/
def Pl (q : Nat) (R : Nat → Rw) (key : Int) (i : Nat) : Prop := i ≤ q ∧ (∀ x, x < i → (R x).key < key) ∧ (∀ x, i ≤ x → x < q → key ≤ (R x).key)
def plF (q : Nat) (R : Nat → Rw) (key : Int) (i : Nat) : Bool := decide (i < q) && (R i).key == key
set_option maxHeartbeats 4000000 in
theorem bsearch_any (q : Nat) (R : Nat → Rw) (a : Option Addr) (cap : Nat) (key : Int) (w : World) (hq : q ≤ 1048576) (hs : ∀ j, j < q → ∀ i, i < j → (R i).key < (R j).key) (h : RwsAt w a q R) :
    Calls Tryz.prog 117 #[.slice a q cap, .int .i64 key, .func (.func 118) #[] #[]] w fun e w' => ∃ i : Nat, e = .returned (.tuple #[.int .i64 i, .bool (plF q R key i)]) ∧ Pl q R key i ∧ Below w.heap.size w w' := by
  have HA : Hid (RwsAt w a q R) := h
  have HS : Hid (∀ j, j < q → ∀ i, i < j → (R i).key < (R j).key) := hs
  clear h hs
  go_enter Tryz.func117, Tryz.ntmps117
  go_wp2_with fail
  go_loopw [9, 10, 11] (fun i j _ wr => ∃ x y : Nat, i = .int .i64 x ∧ j = .int .i64 y ∧ x ≤ y ∧ y ≤ q ∧ Hid ((∀ z, z < x → (R z).key < key) ∧ (∀ z, y ≤ z → z < q → key ≤ (R z).key)) ∧ Hid (Below w.heap.size w wr)) (fun i j _ _ => (intOf j).toNat - (intOf i).toNat)
  case atStart => exact ⟨0, q, rfl, rfl, Nat.zero_le _, Nat.le_refl _, ⟨fun z hz => by omega, fun z h1 h2 => by omega⟩, Below.refl _ _⟩
  case round =>
    obtain ⟨x, y, rfl, rfl, hxy, hyq, HI, HB⟩ := hrel
    by_cases hlt : x < y
    · have hlt' : (x : Int) < (y : Int) := by omega
      obtain ⟨d, hd1, hd2, hdE⟩ : ∃ d : Nat, x ≤ d ∧ d < y ∧ ((x : Int) + (y : Int)) / 2 = (d : Int) := ⟨(x + y) / 2, by omega, by omega, by omega⟩
      go_upto_region 5 with fail
      clear hdE
      rcases HA.out.below HB.out with h | ⟨bb, off, rfl, hl, hcc⟩
      · omega
      obtain ⟨ai, ci, ⟨x0, x1⟩, -⟩ := hcc d (by omega)
      have hd3 : (d : Int) < (q : Int) := by omega
      have hd4 : (0 : Int) ≤ (d : Int) := by omega
      have HD : Hid (d < q ∧ x ≤ d ∧ d < y) := ⟨by omega, hd1, hd2⟩
      clear hcc
      go_wp2_with fail
      refine (place1_any (R d).key key ai (R d).n ci wr).mono ?_
      rintro e w1 ⟨rfl, hb1⟩
      have HB1 : Hid (Below w.heap.size w w1) := below_then HB.out hb1
      clear hb1 x0 x1
      by_cases hc : (R d).key < key
      · have e1 : cmp3 (R d).key key = -1 := if_pos hc
        have HI2 : Hid ((∀ z, z < d + 1 → (R z).key < key) ∧ (∀ z, y ≤ z → z < q → key ≤ (R z).key)) := ⟨fun z hz => by
          by_cases e : z = d
          · rw [e]; exact hc
          · have := HS.out d HD.out.1 z (by omega); omega, HI.out.2⟩
        rw [e1]
        clear e1 hc HI
        go_wp2_with fail
        go_roundw
        case rel => exact ⟨d + 1, y, by go_num, rfl, by omega, hyq, HI2, HB1⟩
        case measure => simp [intOf]; omega
      · have e1 : ¬ (cmp3 (R d).key key < 0) := by
          unfold cmp3
          rw [if_neg hc]
          split <;> decide
        have HI2 : Hid ((∀ z, z < x → (R z).key < key) ∧ (∀ z, d ≤ z → z < q → key ≤ (R z).key)) := ⟨HI.out.1, fun z h1 h2 => by
          by_cases e : z = d
          · rw [e]; omega
          · have := HS.out z h2 d (by omega); omega⟩
        generalize cmp3 (R d).key key = cv at *
        clear hc HI
        go_wp2_with fail
        go_roundw
        case rel => exact ⟨x, d, rfl, rfl, by omega, by omega, HI2, HB1⟩
        case measure => simp [intOf]; omega
    · have hxe : x = y := by omega
      subst hxe
      have hnl : ¬ ((x : Int) < (x : Int)) := by omega
      have HP : Hid (Pl q R key x) := ⟨hyq, HI.out.1, HI.out.2⟩
      have HF : Hid (plF q R key x = (decide (x < q) && (R x).key == key)) := rfl
      by_cases hxq : x < q
      · rcases HA.out.below HB.out with h | ⟨bb, off, rfl, hl, hcc⟩
        · omega
        obtain ⟨ai, ci, ⟨x0, x1⟩, -⟩ := hcc x hxq
        have hd3 : (x : Int) < (q : Int) := by omega
        have hd4 : (0 : Int) ≤ (x : Int) := by omega
        have hd5 : decide (x < q) = true := by simp; exact hxq
        clear hcc HI
        go_wp2_with fail
        refine (place1_any (R x).key key ai (R x).n ci wr).mono ?_
        rintro e w1 ⟨rfl, hb1⟩
        have HB1 : Hid (Below w.heap.size w w1) := below_then HB.out hb1
        have HE : Hid (plF q R key x = (cmp3 (R x).key key == 0)) := by
          show _ = _
          rw [HF.out, hd5, Bool.true_and]
          unfold cmp3
          by_cases c1 : (R x).key < key
          · rw [if_pos c1, show ((R x).key == key) = false by simp; omega]; rfl
          · rw [if_neg c1]
            by_cases c2 : key < (R x).key
            · rw [if_pos c2, show ((R x).key == key) = false by simp; omega]; rfl
            · rw [if_neg c2, show ((R x).key == key) = true by simp; omega]; rfl
        clear hb1 x0 x1 HF hd5
        generalize cmp3 (R x).key key = cv at *
        go_wp2_with fail
        go_ret2
        exact ⟨x, by rw [HE.out]; rfl, HP.out, HB1.out⟩
      · have hd3 : decide ((x : Int) < (q : Int)) = false := by simp; omega
        have hd4 : ¬ ((x : Int) < (q : Int)) := by omega
        have HE : Hid (plF q R key x = false) := by
          show _ = _
          rw [HF.out, show decide (x < q) = false by simp; omega]; rfl
        clear HF HI
        go_wp2_with fail
        go_ret2
        exact ⟨x, by rw [HE.out]; rfl, HP.out, HB.out⟩
theorem placeOfRow_any (q : Nat) (R : Nat → Rw) (a : Option Addr) (cap : Nat) (key : Int) (w : World) (hq : q ≤ 1048576) (hs : ∀ j, j < q → ∀ i, i < j → (R i).key < (R j).key) (h : RwsAt w a q R) :
    Calls Tryz.prog 92 #[.slice a q cap, .int .i64 key] w fun e w' => ∃ i : Nat, e = .returned (.tuple #[.int .i64 i, .bool (plF q R key i)]) ∧ Pl q R key i ∧ Below w.heap.size w w' := by
  have HA : Hid (RwsAt w a q R) := h
  have HS : Hid (∀ j, j < q → ∀ i, i < j → (R i).key < (R j).key) := hs
  clear h hs
  go_enter Tryz.func92, Tryz.ntmps92
  go_wp2_with fail
  refine (bsearch_any q R a cap key w hq HS.out HA.out).mono ?_
  rintro e w1 ⟨i, rfl, hp, hb1⟩
  have HB1 : Hid (Below w.heap.size w w1) := hb1
  have HP : Hid (Pl q R key i) := hp
  clear hb1 hp
  go_wp2_with fail
  go_ret2
  exact ⟨i, rfl, HP.out, HB1.out⟩
theorem pl_fR {q : Nat} {R : Nat → Rw} {key : Int} {i : Nat} (hs : ∀ j, j < q → ∀ i, i < j → (R i).key < (R j).key) (hp : Pl q R key i) : (plF q R key i = false ∧ fR q R key = -1) ∨ (plF q R key i = true ∧ i < q ∧ fR q R key = (i : Int)) := by
  obtain ⟨h1, h2, h3⟩ := hp
  rcases fi_cases (fun i => (R i).key == key) q with ⟨m1, m2⟩ | ⟨j, m1, m2, m3, m4⟩
  · refine .inl ⟨?_, m1⟩
    unfold plF
    by_cases h : i < q
    · have := m2 i h
      rw [this, Bool.and_false]
    · rw [show decide (i < q) = false by simp; omega]; rfl
  · have e : (R j).key = key := by simpa using m3
    have hij : i = j := by
      rcases Nat.lt_trichotomy i j with h | h | h
      · have := hs j m1 i h
        have := h3 i (Nat.le_refl _) (by omega)
        omega
      · exact h
      · have := h2 j h; omega
    subst hij
    refine .inr ⟨?_, m1, m2⟩
    unfold plF
    rw [show decide (i < q) = true by simp; exact m1, m3]; rfl
set_option maxHeartbeats 2000000 in
theorem chainOfKey_any (E : En) (a : Option Addr) (cap : Nat) (a' : Option Addr) (cap' : Nat) (key : Int) (w : World) (hq : E.q ≤ 32) (hs : ∀ j, j < E.q → ∀ i, i < j → (E.R i).key < (E.R j).key) (h : EngAt w a a' E) :
    Calls Tryz.prog 98 #[.agg #[.int .i64 E.nx, .int .i64 E.ck, .slice a E.p cap, .slice a' E.q cap'], .int .i64 key] w fun e w' =>
      ∃ ai n ci U, e = .returned (.slice ai n ci) ∧ Below w.heap.size w w' ∧ VersAt w ai n U ∧ ((fR E.q E.R key = -1 ∧ n = 0) ∨ ∃ j, j < E.q ∧ fR E.q E.R key = (j : Int) ∧ n = (E.R j).n ∧ U = (E.R j).U) := by
  obtain ⟨nx, ck, p, T, q, R⟩ := E
  dsimp only at *
  have HRA : Hid (RwsAt w a' q R) := h.2
  have HS : Hid (∀ j, j < q → ∀ i, i < j → (R i).key < (R j).key) := hs
  have HBX : Hid (∀ o1 : Obj, o1 = .cells #[.int .i64 nx, .int .i64 ck, .slice a p cap, .slice a' q cap'] 30 → Box4 (w.alloc o1) w.heap.size (.int .i64 nx) (.int .i64 ck) (.slice a p cap) (.slice a' q cap')) := by
    rintro o1 rfl
    exact Box4.new w _ _ _ _ _
  clear h hs
  go_enter Tryz.func98, Tryz.ntmps98
  go_wp2_with fail
  refine (placeOfRow_any q R a' cap' key _ (by omega) HS.out (HRA.out.below (below_new _ _))).mono ?_
  rintro e w1 ⟨i, rfl, hp, hb1⟩
  have HB4 := (HBX.out _ rfl).below hb1
  have HB1 : Hid (Below w.heap.size w w1) := below_then (below_new _ _) hb1
  obtain ⟨b0, b1, b2, b3⟩ := HB4
  have HF := pl_fR HS.out hp
  clear hb1 hp HBX b0 b1 b2
  rcases HF with ⟨h1, h2⟩ | ⟨h1, h2, h3⟩
  · rw [h1]
    have HE : Hid (fR q R key = -1) := h2
    clear h1 h2
    go_wp2_with fail
    go_ret
    exact ⟨none, 0, 0, fun _ => zV, rfl, HB1.out, .inl rfl, .inl ⟨HE.out, rfl⟩⟩
  · rw [h1]
    rcases HRA.out with h | ⟨bb, off, rfl, hl, hcc⟩
    · omega
    obtain ⟨ai, ci, ⟨x0, x1⟩, hv, -⟩ := hcc i h2
    have HV : Hid (VersAt w ai (R i).n (R i).U) := hv
    have HE : Hid (i < q ∧ fR q R key = (i : Int)) := ⟨h2, h3⟩
    replace x1 := cell_below x1 HB1.out
    have hi1 : (i : Int) < (q : Int) := by omega
    have hi0 : (0 : Int) ≤ (i : Int) := by omega
    clear h1 h3 hcc hv x0
    go_wp2_with fail
    go_ret
    exact ⟨ai, (R i).n, ci, (R i).U, rfl, HB1.out, HV.out, .inr ⟨i, HE.out.1, HE.out.2, rfl, rfl⟩⟩
end Go.Proofs.YtabkgncnanlapaaGreat
