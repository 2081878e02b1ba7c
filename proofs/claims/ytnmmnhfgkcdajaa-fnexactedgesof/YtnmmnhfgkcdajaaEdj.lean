/- Edges: the model's list: what its walk stands on. -/
import Derived.Test.YtnmmnhfgkcdajaaEdi
namespace Go.Proofs.Ytnmmnhfgkcdajaa
open Go.RowKit Go.Deep
set_option linter.unusedVariables false
set_option maxRecDepth 20000

set_option maxHeartbeats 2000000 in
theorem l1Has_any (zs : List Int) (a : Option Addr) (cap : Nat) (v : Int) (w : World) (hn : zs.length ≤ 100000) (h : IntsAt w a zs.length (zI zs)) :
    Calls Try.prog 60 #[.slice a zs.length cap, .int .i64 v] w fun e w' => e = .returned (.bool (decide (v ∈ zs))) ∧ w' = w := by
  have HA : Hid (IntsAt w a zs.length (zI zs)) := h
  clear h
  go_enter Try.func60, Try.ntmps60
  go_wp2_with fail
  go_loop [5] (fun i => ∃ k : Nat, k ≤ zs.length ∧ i = .int .i64 k ∧ Hid (∀ j, j < k → zI zs j ≠ v)) (fun i => zs.length - (intOf i).toNat)
  case atStart => exact ⟨0, Nat.zero_le _, rfl, fun j hj => by omega⟩
  case round =>
    obtain ⟨k, hk, rfl, HN⟩ := hrel
    by_cases hlt : k < zs.length
    · have hlt' : (k : Int) < (zs.length : Int) := by omega
      have hk0 : (0 : Int) ≤ (k : Int) := by omega
      rcases HA.out with h | ⟨b, off, rfl, hl, hc⟩
      · omega
      have hx := hc k hlt
      clear hc
      by_cases he : zI zs k = v
      · have HM : Hid (decide (v ∈ zs) = true) := by
          refine decide_eq_true ?_
          rw [← he]
          unfold zI
          rw [List.getD_eq_getElem?_getD, List.getElem?_eq_getElem hlt]
          exact List.getElem_mem hlt
        have he2 : (zI zs k == v) = true := by simp [he]
        generalize zI zs k = zk at *
        clear he
        go_wp2_with fail
        go_ret
        exact ⟨ret_bool HM.out.symm, rfl⟩
      · have HN2 : Hid (∀ j, j < k + 1 → zI zs j ≠ v) := fun j hj => by
          by_cases e : j = k
          · subst e; exact he
          · exact HN.out j (by omega)
        have he2 : (zI zs k == v) = false := by simp [he]
        generalize zI zs k = zk at *
        clear he
        go_wp2_with fail
        go_round
        case rel => exact ⟨k + 1, hlt, by go_num, HN2⟩
        case measure => simp [intOf]; omega
    · have hkn : k = zs.length := by omega
      have hnl : ¬ ((k : Int) < (zs.length : Int)) := by omega
      have HM : Hid (decide (v ∈ zs) = false) := by
        refine decide_eq_false fun hm => ?_
        obtain ⟨i, hi, e⟩ := List.mem_iff_getElem.1 hm
        refine HN.out i (by omega) ?_
        unfold zI
        rw [List.getD_eq_getElem?_getD, List.getElem?_eq_getElem hi]
        exact e
      go_wp2_with fail
      go_ret
      exact ⟨ret_bool HM.out.symm, rfl⟩

def addAll (l : List Ed) : List Ed → List Ed
  | [] => l
  | e :: r => addAll (adE l e) r
theorem addAll_app : ∀ (a l b : List Ed), addAll l (a ++ b) = addAll (addAll l a) b
  | [], l, b => rfl
  | e :: a, l, b => by simp only [List.cons_append, addAll]; exact addAll_app a (adE l e) b
theorem addAll_one (l : List Ed) (e : Ed) : addAll l [e] = adE l e := rfl
theorem addAll_len : ∀ (a l : List Ed), (addAll l a).length ≤ l.length + a.length
  | [], l => by simp [addAll]
  | e :: a, l => by
    have h1 := addAll_len a (adE l e)
    have h2 := adE_len l e
    simp only [addAll, List.length_cons]; omega
theorem addAll_mem : ∀ (a l : List Ed) (x : Ed), x ∈ addAll l a ↔ x ∈ l ∨ x ∈ a
  | [], l, x => by simp [addAll]
  | e :: a, l, x => by
    simp only [addAll]
    rw [addAll_mem a (adE l e) x, adE_mem]
    simp only [List.mem_cons]
    constructor
    · rintro ((h | h) | h)
      · exact .inl h
      · exact .inr (.inl h)
      · exact .inr (.inr h)
    · rintro (h | h | h)
      · exact .inl (.inl h)
      · exact .inl (.inr h)
      · exact .inr h
theorem eA_len2 (R : Nat → Hp) (n : Nat) (cm : List Int) (y : Int) (hn : n ≤ 400) (hl : cm.length ≤ 400) : (eA R n cm y).length ≤ 1200 := by
  have h1 := eH_len R cm (wrL R n y cm) y n
  have h2 := wrL_len R n y cm
  simp only [eA, List.length_append, eW_len]
  omega
theorem eI_len (R : Nat → Hp) (n : Nat) (cm : List Int) (hn : n ≤ 400) (hl : cm.length ≤ 400) : ∀ y, (eI R n cm y).length ≤ 1200 * y
  | 0 => by simp [eI]
  | y + 1 => by
    have h1 := eI_len R n cm hn hl y
    have h2 := eA_len2 R n cm (y : Int) hn hl
    simp only [eI, List.length_append]; omega
/-- Where the model's list stands. -/
structure XS (w W : World) (cm ws : List Int) (dv wv : Value) (v : Value) (L : List Ed) : Prop where
  bel : Below w.heap.size w W
  cmr : W.ownsRow w.heap.size 2 1 dv cm.length (il cm)
  wsr : W.ownsRow w.heap.size 2 1 wv ws.length (il ws)
  out : OwnE W w.heap.size v L
theorem XS.below {w W W' : World} {cm ws : List Int} {dv wv v : Value} {L : List Ed} (h : XS w W cm ws dv wv v L) (hb : Below W.heap.size W W') : XS w W' cm ws dv wv v L :=
  ⟨below_then h.bel hb, own_belowI h.cmr hb, own_belowI h.wsr hb, own_belowI h.out hb⟩
theorem XS.grow {w W W' : World} {cm ws : List Int} {dv wv v v' : Value} {L L' : List Ed} (h : XS w W cm ws dv wv v L) (hg : W.grownBy W' v.ownBlock) (ho : OwnE W' w.heap.size v' L') : XS w W' cm ws dv wv v' L' :=
  ⟨h.bel.grown hg h.bel.size fun q hq => (ownI_lt h.out q hq).1, ints_grown h.cmr h.out hg, ints_grown h.wsr h.out hg, ho⟩
theorem ints_at {w : World} {B : Nat} {a : Option Addr} {c : Nat} {zs : List Int} (h : w.ownsRow B 2 1 (.slice a zs.length c) zs.length (il zs)) : IntsAt w a zs.length (zI zs) := by
  obtain ⟨a', c', hd, hoi⟩ := ownI_of_row h
  obtain ⟨rfl, rfl⟩ : a' = a ∧ c' = c := by injection hd with e1 e2 e3; exact ⟨e1.symm, e3.symm⟩
  exact hoi.at
/-- A hop's box lies behind the list's own block. -/
theorem box_grow {W W' : World} {v : Value} {B B0 n : Nat} {xs : List Value} {c0 c1 c2 c3 : Value} (h : Box4 W B c0 c1 c2 c3) (hg : W.grownBy W' v.ownBlock) (hlt : ∀ q, v.ownBlock = some q → q < B) : Box4 W' B c0 c1 c2 c3 := by
  have hB : B < W.heap.size := Go.block_lt_of_cell h.1
  have hb := hg.block B hB (fun e => by have := hlt B e.symm; omega)
  obtain ⟨h0, h1, h2, h3⟩ := h
  exact ⟨(World.cell?_of_block (w := W) (a := ⟨B, 0, none⟩) hb).trans h0, (World.cell?_of_block (w := W) (a := ⟨B, 1, none⟩) hb).trans h1, (World.cell?_of_block (w := W) (a := ⟨B, 2, none⟩) hb).trans h2, (World.cell?_of_block (w := W) (a := ⟨B, 3, none⟩) hb).trans h3⟩
/-- The writers of a right history are 2 and more, and whose version was read is 0 and more. -/
theorem cm_two {R : Nat → Hp} {n : Nat} (h : hiF R n = 0) : ∀ k, k ≤ n → ∀ x ∈ cmL R k, 2 ≤ x
  | 0, _, x, hx => by simp [cmL] at hx
  | k + 1, hk, x, hx => by
    have hg := (hpF_zero (hop_good h (show k < n by omega))).1
    simp only [cmL] at hx
    split at hx
    · rcases List.mem_append.1 hx with q | q
      · exact cm_two h k (by omega) x q
      · rw [List.mem_singleton.1 q]
        simp only [hpIn, Bool.and_eq_true] at hg
        exact (inB_iff.1 hg.1.1.2).1
    · exact cm_two h k (by omega) x hx
theorem wr_two {R : Nat → Hp} {n : Nat} {y : Int} (h : hiF R n = 0) : ∀ x ∈ wrL R n y (cmL R n), 2 ≤ x := fun x hx => cm_two h n (Nat.le_refl _) x (List.mem_filter.1 hx).1
theorem of_pos {R : Nat → Hp} {n k : Nat} (h : hiF R n = 0) (hk : k < n) : 0 ≤ (R k).o := by
  have hg := (hpF_zero (hop_good h hk)).1
  simp only [hpIn, Bool.and_eq_true] at hg
  exact (inB_iff.1 hg.2).1
/-- The model's and the program's second edge of a read. -/
theorem r2_nx {r : Hp} {ws : List Int} (hw : ∀ x ∈ ws, 2 ≤ x) (ho : 0 ≤ r.o) : r2 r ws = if (nx ws r.o != 0 && nx ws r.o != r.t) = true then [⟨r.t, nx ws r.o, 4⟩] else [] := by
  have h := nx_nxt hw ho
  have hsub : ∀ x ∈ nxt ws r.o, 2 ≤ x := fun x hx => by
    unfold nxt at hx
    split at hx
    · exact hw x hx
    · split at hx
      · simp at hx
      · exact hw x (List.mem_of_mem_drop hx)
  unfold r2
  by_cases hl : 0 < (nxt ws r.o).length
  · rw [if_pos hl] at h
    have h2 := hsub _ (zI_mem hl)
    rw [h, decide_eq_true hl]
    have : (zI (nxt ws r.o) 0 != 0) = true := by simp; omega
    rw [this]
  · rw [if_neg hl] at h
    rw [h, decide_eq_false hl]
    simp
end Go.Proofs.Ytnmmnhfgkcdajaa
