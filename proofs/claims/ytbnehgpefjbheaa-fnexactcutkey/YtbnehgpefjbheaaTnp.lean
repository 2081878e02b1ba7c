/- HasKey, both sides. -/
import Derived.Test.YtbnehgpefjbheaaTno
import Derived.Test.YtbnehgpefjbheaaTnh
import Derived.Test.YtbnehgpefjbheaaTnl
namespace Go.Proofs.Ytbnehgpefjbheaa
open Go.RowKit Go.Deep
set_option linter.unusedVariables false
set_option maxRecDepth 20000

/-- The keys of a node, as a list. -/
def keyL (t : Nd) : List Int := (List.range t.kn).map t.K
theorem keyL_len (t : Nd) : (keyL t).length = t.kn := by simp [keyL]
theorem keyL_at {w : World} {a : Option Addr} {t : Nd} (h : IntsAt w a t.kn t.K) : IntsAt w a (keyL t).length (zI (keyL t)) := by
  rw [keyL_len]
  rcases h with h | ⟨b, off, ha, hl, hc⟩
  · exact .inl h
  · refine .inr ⟨b, off, ha, hl, fun i hi => ?_⟩
    rw [hc i hi]
    simp [zI, keyL, hi]
/-- Is the key in its leaf? -/
def hasB (t : Tr) (key : Int) : Bool := decide (key ∈ keyL (t.T (lst t.T key (t.n + 1) t.root.toNat)))
theorem index_any (zs : List Int) (a : Option Addr) (cap : Nat) (v : Int) (w : World) (hn : zs.length ≤ 100000) (h : IntsAt w a zs.length (zI zs)) :
    Calls Try.prog 92 #[.slice a zs.length cap, .int .i64 v] w fun e w' => ∃ r : Int, e = .returned (.int .i64 r) ∧ decide (0 ≤ r) = decide (v ∈ zs) ∧ w' = w := by
  have HA : Hid (IntsAt w a zs.length (zI zs)) := h
  clear h
  go_enter Try.func92, Try.ntmps92
  go_wp2_with fail
  go_loop [5, 8] (fun _ i => ∃ k : Nat, k ≤ zs.length ∧ i = .int .i64 k ∧ Hid (∀ j, j < k → zI zs j ≠ v)) (fun _ i => zs.length - (intOf i).toNat)
  case atStart => exact ⟨0, Nat.zero_le _, rfl, fun j hj => by omega⟩
  case round =>
    obtain ⟨k, hk, rfl, HN⟩ := hrel
    by_cases hlt : k < zs.length
    · have hlt' : (k : Int) < (zs.length : Int) := by omega
      have hk0 : (0 : Int) ≤ (k : Int) := by omega
      rcases HA.out with h | ⟨b, off, rfl, hl, hc⟩
      · omega
      have hx := hc k hlt
      clear hc
      by_cases he : zI zs k = v
      · have HM : Hid (decide (v ∈ zs) = true) := by
          refine decide_eq_true ?_
          rw [← he]
          unfold zI
          rw [List.getD_eq_getElem?_getD, List.getElem?_eq_getElem hlt]
          exact List.getElem_mem hlt
        have he2 : (v == zI zs k) = true := by simp [he]
        generalize zI zs k = zk at *
        clear he
        go_wp2_with fail
        go_ret
        refine ⟨k, rfl, ?_, rfl⟩
        have h9 := of_decide_eq_true HM.out
        first | exact ⟨fun _ => h9, fun _ => hk0⟩ | (rw [HM.out]; exact decide_eq_true hk0)
      · have HN2 : Hid (∀ j, j < k + 1 → zI zs j ≠ v) := fun j hj => by
          by_cases e : j = k
          · subst e; exact he
          · exact HN.out j (by omega)
        have he2 : (v == zI zs k) = false := by simp; omega
        generalize zI zs k = zk at *
        clear he
        go_wp2_with fail
        go_round
        case rel => exact ⟨k + 1, hlt, by go_num, HN2⟩
        case measure => simp [intOf]; omega
    · have hkn : k = zs.length := by omega
      have hnl : ¬ ((k : Int) < (zs.length : Int)) := by omega
      have HM : Hid (decide (v ∈ zs) = false) := by
        refine decide_eq_false fun hm => ?_
        obtain ⟨i, hi, e⟩ := List.mem_iff_getElem.1 hm
        refine HN.out i (by omega) ?_
        unfold zI
        rw [List.getD_eq_getElem?_getD, List.getElem?_eq_getElem hi]
        exact e
      go_wp2_with fail
      go_ret
      refine ⟨-1, rfl, ?_, rfl⟩
      have h9 := of_decide_eq_false HM.out
      first | exact ⟨fun x => by omega, fun x => absurd x h9⟩ | (rw [HM.out]; rfl)
theorem contains_any (zs : List Int) (a : Option Addr) (cap : Nat) (v : Int) (w : World) (hn : zs.length ≤ 100000) (h : IntsAt w a zs.length (zI zs)) :
    Calls Try.prog 81 #[.slice a zs.length cap, .int .i64 v] w fun e w' => e = .returned (.bool (decide (v ∈ zs))) ∧ w' = w := by
  go_enter Try.func81, Try.ntmps81
  go_wp2_with fail
  refine (index_any zs a cap v w hn h).mono ?_
  rintro e w' ⟨r, rfl, hr, hw⟩
  have hw1 := hw.symm
  clear hw
  subst hw1
  have HR : Hid (decide (0 ≤ r) = decide (v ∈ zs)) := hr
  clear hr
  go_wp2_with fail
  go_ret
  exact ⟨ret_bool HR.out, rfl⟩
set_option maxHeartbeats 2000000 in
theorem leafOf_any (t : Tr) (key : Int) (tb ca b off : Nat) (w : World) (hg : trF t = 0) (htr : w.cell? ⟨tb, 0, none⟩ = some (.int .i64 t.root)) (htb : w.cell? ⟨tb, 1, none⟩ = some (.slice (some ⟨b, off, none⟩) t.n ca)) (hA : NdsAt w (some ⟨b, off, none⟩) t.n t.T) :
    Calls Try.prog 63 #[.pointer (some ⟨tb, 0, none⟩), .int .i64 key] w fun e w' => e = .returned (.pointer (some ⟨b, off + lst t.T key (t.n + 1) t.root.toNat * 3, none⟩)) ∧ Below w.heap.size w w' := by
  obtain ⟨hn1, hn, hG, hr, hf⟩ := trF_good hg
  have hq := lst_ok hG key (t.n + 1) t.root.toNat (by omega)
  obtain ⟨h1, h2⟩ := pth_last key hG (t.n + 1) t.root.toNat (by omega) hf
  have hpl := pth_len t.T key (t.n + 1) t.root.toNat
  have HW := wayTo_any t key tb ca (some ⟨b, off, none⟩) w hn1 hn hG hr.1 hr.2 hf htr htb hA
  have HTB : Hid (w.cell? ⟨tb, 1, none⟩ = some (.slice (some ⟨b, off, none⟩) t.n ca)) := htb
  generalize pth t.T key (t.n + 1) t.root.toNat = P at *
  generalize lst t.T key (t.n + 1) t.root.toNat = q at *
  have HWH : Hid (Calls Try.prog 54 #[.pointer (some ⟨tb, 0, none⟩), .int .i64 key] w (IAn P w)) := HW
  obtain ⟨m, hm⟩ : ∃ m, P.length = m + 1 := ⟨_, (Nat.sub_add_cancel h1).symm⟩
  have HM : Hid (P.length = m + 1) := hm
  rw [hm, Nat.add_sub_cancel] at h2
  have H2 : Hid (zI P m = (q : Int)) := h2
  clear HW hA htb htr hf hG h1 hm hg h2 hr
  go_enter Try.func63, Try.ntmps63
  go_wp2_with fail
  refine HWH.out.mono ?_
  intro e w1 hpost
  unfold IAn at hpost
  obtain ⟨pa, pc, he, hb1, ho⟩ := hpost
  subst he
  have HB1 : Hid (Below w.heap.size w w1) := hb1
  have t1 := cell_below HTB.out hb1
  rcases ho with ⟨ho0, ho1 | ⟨g0, o0, rfl, hg1, hg2, hc, hfz⟩⟩
  · have := HM.out; omega
  have hx := hc m (by rw [HM.out]; omega)
  rw [H2.out] at hx
  rw [HM.out]
  have hm1 : (m : Int) < (m : Int) + 1 := by omega
  have hm0 : (0 : Int) ≤ (m : Int) := by omega
  have hwm : IntKind.i64.wrap (m : Int) = (m : Int) := by have hm9 := HM.out; rw [IntKind.wrap_i64]; omega
  have hqn : (q : Int) < (t.n : Int) := by omega
  have hq0 : (0 : Int) ≤ (q : Int) := by omega
  clear hc hfz HM H2 hb1 HWH
  go_wp2_with fail
  go_quiet (fail)
  go_wp2_with fail
  go_ret
  exact ⟨rfl, below_drewN HB1.out _⟩
set_option maxHeartbeats 2000000 in
theorem holds_any (t : Tr) (key : Int) (tb ca : Nat) (a : Option Addr) (w : World) (hg : trF t = 0) (htr : w.cell? ⟨tb, 0, none⟩ = some (.int .i64 t.root)) (htb : w.cell? ⟨tb, 1, none⟩ = some (.slice a t.n ca)) (hA : NdsAt w a t.n t.T) :
    Calls Try.prog 52 #[.pointer (some ⟨tb, 0, none⟩), .int .i64 key] w fun e w' => e = .returned (.bool (hasB t key)) ∧ Below w.heap.size w w' := by
  obtain ⟨hn1, hn, hG, hr, hf⟩ := trF_good hg
  have hq := lst_ok hG key (t.n + 1) t.root.toNat (by omega)
  have HA : Hid (NdsAt w a t.n t.T) := hA
  rcases hA with h | ⟨b, off, rfl, hbl, hc⟩
  · omega
  have HL : Hid (Calls Try.prog 63 #[.pointer (some ⟨tb, 0, none⟩), .int .i64 key] w fun e w' => e = .returned (.pointer (some ⟨b, off + lst t.T key (t.n + 1) t.root.toNat * 3, none⟩)) ∧ Below w.heap.size w w') := leafOf_any t key tb ca b off w hg htr htb HA.out
  obtain ⟨ak, ck, ad, cd, hC0, hy, -, -⟩ := hc _ hq
  have HE : Hid (hasB t key = decide (key ∈ keyL (t.T (lst t.T key (t.n + 1) t.root.toNat)))) := rfl
  have HK3 : Hid ((t.T (lst t.T key (t.n + 1) t.root.toNat)).kn ≤ 3) := (cntB_le (hG _ hq).1).1
  clear hG hf hr htr htb HA hg hc
  generalize lst t.T key (t.n + 1) t.root.toNat = q at *
  generalize t.T q = nd at *
  have HC0 : Hid (CNd w b (off + q * 3) nd ak ck ad cd) := hC0
  have HY0 : Hid (IntsAt w ak nd.kn nd.K) := hy
  clear hC0 hy
  go_enter Try.func52, Try.ntmps52
  go_wp2_with fail
  refine HL.out.mono ?_
  rintro e w1 ⟨rfl, hb1⟩
  have HB1 : Hid (Below w.heap.size w w1) := hb1
  obtain ⟨q0, q1, q2⟩ := HC0.out.below hb1
  have HY1 : Hid (IntsAt w1 ak (keyL nd).length (zI (keyL nd))) := keyL_at (HY0.out.below hb1)
  have HN : Hid (nd.kn = (keyL nd).length) := (keyL_len nd).symm
  rw [HN.out] at q1
  have HK9 : Hid ((keyL nd).length ≤ 3) := by rw [← HN.out]; exact HK3.out
  clear hb1 q0 q2 HL
  go_wp2_with fail
  refine (contains_any (keyL nd) ak ck key w1 (by have := HK9.out; omega) HY1.out).mono ?_
  rintro e w2 ⟨rfl, hw⟩
  have hw1 := hw.symm
  clear hw
  subst hw1
  go_wp2_with fail
  go_ret
  exact ⟨ret_bool HE.out.symm, HB1.out⟩
set_option maxHeartbeats 2000000 in
theorem l4Has_any (t : Tr) (key : Int) (tb ca : Nat) (a : Option Addr) (w : World) (hg : trF t = 0) (htr : w.cell? ⟨tb, 0, none⟩ = some (.int .i64 t.root)) (htb : w.cell? ⟨tb, 1, none⟩ = some (.slice a t.n ca)) (hA : NdsAt w a t.n t.T) :
    Calls Try.prog 51 #[.pointer (some ⟨tb, 0, none⟩), .int .i64 key] w fun e w' => e = .returned (.bool (hasB t key)) ∧ Below w.heap.size w w' := by
  obtain ⟨hn1, hn, hG, hr, hf⟩ := trF_good hg
  have hq := lst_ok hG key (t.n + 1) t.root.toNat (by omega)
  have HW := l4Path_any t key tb ca a w hn1 hn hG hr.1 hr.2 hf htr htb hA
  have HTB : Hid (w.cell? ⟨tb, 1, none⟩ = some (.slice a t.n ca)) := htb
  rcases hA with h | ⟨b, off, rfl, hbl, hc⟩
  · omega
  obtain ⟨ak, ck, ad, cd, hC0, hy, -, -⟩ := hc _ hq
  obtain ⟨h1, h2⟩ := pth_last key hG (t.n + 1) t.root.toNat (by omega) hf
  have hpl := pth_len t.T key (t.n + 1) t.root.toNat
  have HE : Hid (hasB t key = decide (key ∈ keyL (t.T (lst t.T key (t.n + 1) t.root.toNat)))) := rfl
  have HK3 : Hid ((t.T (lst t.T key (t.n + 1) t.root.toNat)).kn ≤ 3) := (cntB_le (hG _ hq).1).1
  generalize pth t.T key (t.n + 1) t.root.toNat = P at *
  have HWH : Hid (Calls Try.prog 53 #[.pointer (some ⟨tb, 0, none⟩), .int .i64 key] w (IAn P w)) := HW
  obtain ⟨m, hm⟩ : ∃ m, P.length = m + 1 := ⟨_, (Nat.sub_add_cancel h1).symm⟩
  have HM : Hid (P.length = m + 1) := hm
  rw [hm, Nat.add_sub_cancel] at h2
  clear hG hf hr htr htb hg hc HW hm h1
  generalize lst t.T key (t.n + 1) t.root.toNat = q at *
  have H2 : Hid (zI P m = (q : Int)) := h2
  clear h2
  generalize t.T q = nd at *
  have HC0 : Hid (CNd w b (off + q * 3) nd ak ck ad cd) := hC0
  have HY0 : Hid (IntsAt w ak nd.kn nd.K) := hy
  clear hC0 hy
  go_enter Try.func51, Try.ntmps51
  go_wp2_with fail
  refine HWH.out.mono ?_
  intro e w1 hpost
  unfold IAn at hpost
  obtain ⟨pa, pc, he, hb1, ho⟩ := hpost
  subst he
  have HB1 : Hid (Below w.heap.size w w1) := hb1
  have t1 := cell_below HTB.out hb1
  rcases ho with ⟨ho0, ho1 | ⟨g0, o0, rfl, hg1, hg2, hc, hfz⟩⟩
  · have := HM.out; omega
  have hx := hc m (by rw [HM.out]; omega)
  rw [H2.out] at hx
  rw [HM.out]
  have hm1 : (m : Int) < (m : Int) + 1 := by omega
  have hm0 : (0 : Int) ≤ (m : Int) := by omega
  have hwm : IntKind.i64.wrap (m : Int) = (m : Int) := by have hm9 := HM.out; rw [IntKind.wrap_i64]; omega
  have hqn : (q : Int) < (t.n : Int) := by omega
  have hq0 : (0 : Int) ≤ (q : Int) := by omega
  obtain ⟨q0, q1, q2⟩ := HC0.out.below hb1
  have HN : Hid (nd.kn = (keyL nd).length) := (keyL_len nd).symm
  rw [HN.out] at q1
  have HK9 : Hid ((keyL nd).length ≤ 3) := by rw [← HN.out]; exact HK3.out
  have HY1 : Hid (IntsAt w1 ak (keyL nd).length (zI (keyL nd))) := keyL_at (HY0.out.below hb1)
  have HKU : Hid (∀ u : World, (∃ m, u = w1.drewN m) → Calls Try.prog 73 #[.slice ak (keyL nd).length ck, .int .i64 key] u fun e w' => e = .returned (.bool (decide (key ∈ keyL nd))) ∧ ∃ n, w' = u.drewN n) := by
    rintro u ⟨m9, rfl⟩
    refine (l1Has_any (keyL nd) ak ck key (w1.drewN m9) (by have := HK9.out; omega) (HY1.out.below (below_drewN (Below.refl _ _) _))).mono ?_
    rintro e w' ⟨rfl, rfl⟩
    exact ⟨rfl, 0, rfl⟩
  clear hc hfz HM H2 hb1 HWH q0 q2
  go_wp2_with fail
  go_quiet (first | (go_at_call 73; exact Calls.quiet_of (HKU.out _ ⟨_, rfl⟩)) | (go_at_call 73; exact Calls.quiet_of (HKU.out _ ⟨0, rfl⟩)))
  go_wp2_with fail
  go_ret
  exact ⟨ret_bool HE.out.symm, below_drewN HB1.out _⟩
end Go.Proofs.Ytbnehgpefjbheaa
