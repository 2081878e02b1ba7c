/- slices.Collect and slices.Sorted of slices.Values of numbers. -/
import Derived.Test.YtbmjlahiggollaaSrt
import Derived.Sort.OwnSortedInts
namespace Go.Proofs.Ytbmjlahiggollaa
open Go.RowKit Go.Shelf Go.Sort
set_option linter.unusedVariables false
attribute [local go_sem] Oper.semAt_some

/-- The value of slices.Values, and what it leans on. -/
def SeqAt (w : World) (sv : Value) (len : Nat) (z : Nat → Int) : Prop :=
  ∃ Bs a cap, sv = .func (.func 33) #[] #[.pointer (some ⟨Bs, 0, none⟩)] ∧ Bs < w.heap.size ∧ w.cell? ⟨Bs, 0, none⟩ = some (.slice a len cap) ∧ IntsAt w a len z
theorem upto_il (z : Nat → Int) (k : Nat) : (upto z k).map (Value.int .i64) = il (upto z k) := rfl
set_option maxRecDepth 100000 in
set_option maxHeartbeats 2000000 in
theorem appendSeq_any (w : World) (sv : Value) (len : Nat) (z : Nat → Int) (hl : len ≤ 100000) (hs : SeqAt w sv len z) :
    Calls Try.prog 36 #[.slice none 0 0, sv] w fun e W' => ∃ v, e = .returned v ∧ W'.ownsRow w.heap.size 2 1 v (upto z len).length (il (upto z len)) ∧ Below w.heap.size w W' := by
  obtain ⟨Bs, a, cap, rfl, hBs, hcell, hints⟩ := hs
  obtain ⟨i0, hi, hz0, hz1, hz2⟩ := info_parts info2
  refine (callsIn_wide (n := 5)).1 ?_
  have hF : ∀ f, Fence.wide.fn f := fun _ => trivial
  have hro : Fence.wide.round = none := rfl
  refine callsIn_of_wp_marks Try.func36 rfl (hF _) ?_ hro
  simp only [Try.ntmps36, List.size_toArray, List.length_cons, List.length_nil, Nat.reduceAdd, Nat.reduceSub, Array.replicate_succ, Array.replicate_zero, List.push_toArray, List.append_toArray, List.nil_append, List.cons_append]
  gi_wp2
  have bO := Boxed.new w 24 (.slice none 0 0)
  have hB0 : Below w.heap.size w (w.alloc (.cells #[.slice none 0 0] 24)) := (Below.refl _ w).alloc (Nat.le_refl _) _
  have hI : len = 0 ∨ ∃ b off, a = some ⟨b, off, none⟩ ∧ b < w.heap.size ∧ ∀ j, j < len → (w.alloc (.cells #[.slice none 0 0] 24)).cell? ⟨b, off + j, none⟩ = some (.int .i64 (z j)) := by
    rcases hints with h | ⟨b, off, rfl, hb, hc⟩
    · exact .inl h
    · exact .inr ⟨b, off, rfl, hb, fun j hj => (hB0.cell (p := ⟨b, off + j, none⟩) hb).trans (hc j hj)⟩
  refine wpIn_rangeFunc_ownG hro (by omega) (gf := 33) (lb := #[.pointer (some ⟨Bs, 0, none⟩)]) rfl (hF _) (enters_of Try.func33 (by kernel_rfl) rfl)
    (values_stops Fence.wide _ (hF _) hro (by omega) Bs w.heap.size len cap a z (by omega) _ (by simp; omega) (by simp) ((hB0.cell (p := ⟨Bs, 0, none⟩) hBs).trans hcell) hI) belowK_t (belowK_b (by simp)) (Below.refl _ _) (fun _ => rfl)
    (fun pre W => (∃ v, Boxed W w.heap.size 24 v ∧ W.ownsRow w.heap.size 2 1 v pre.length (pre.map (Value.int .i64)) ∧ (v = .slice none 0 0 ↔ pre = [])) ∧ Below w.heap.size w W)
    (fun _ _ _ => False)
    (OwnFrom.and (Own.from (holdsRow_own w.heap.size w.heap.size 24 2 1 (fun pre : List Int => pre.length) (fun pre => pre.map (Value.int .i64)) (fun pre v => v = .slice none 0 0 ↔ pre = [])) _) (ownFrom_below (Nat.le_refl _) (by simp)))
    (fun _ _ _ _ _ hs _ _ => hs)
    ⟨⟨_, bO, World.ownsRow_nil _ _ _ _, by simp⟩, hB0⟩
    (fun x => { tmps := #[.slice none 0 0, .func (.func 33) #[] #[.pointer (some ⟨Bs, 0, none⟩)], .pointer (some ⟨w.heap.size, 0, none⟩), undef, .slice none 0 0, .int .i64 x, .func (.func 33) #[] #[.pointer (some ⟨Bs, 0, none⟩)], .int .i64 x, undef, undef, undef, undef, undef], defers := [] }) ?assign ?body ?done ?stop
  case assign =>
    intro l x W K hK
    gi_wp2
    exact hK
  case body =>
    rintro l pre x W ⟨⟨v, hv, hrow, hnil⟩, hB⟩ hlt
    have hc := hv.cell
    gi_wp2_with (gi_at_builtin; refine wpListIn_append_own _ rfl _ _ 24 rfl w.heap.size 2 i0 (.int .i64 0) 1 8 Try.underlying24 hi hz0 hz1 hz2 rfl (by decide) _ _ _ rfl (hrow.alloc _) ⟨W.heap.size, 0, none⟩ 1 1 [.int .i64 x] rfl rfl (cell_one_new _ _ _) (by simp [Value.oneCell']) (by unfold maxLen; omega) (by omega) (by have := hB.size; simp; omega) ?_; intro v' w1 hown' hgrow _; obtain ⟨g', cap', rfl⟩ := ownsRow_succ hown'; obtain ⟨hv1, hv2, hr2, hk2, hb2⟩ := hv.appended (by decide) hrow hB.size (Nat.le_refl _) hown' hgrow; have hc1 := hv1.cell; have hf1 := hv1.frozen)
    exact ⟨hk2.from _, hb2, ⟨_, hv2, by simpa using hr2, by simp⟩, hB.trans hb2⟩
  case done =>
    rintro D ys W hD rfl ⟨⟨v, hv, hrow, hnil⟩, hB⟩ hK
    have hc := hv.cell
    gi_wp2
    refine ⟨by simp, .inl ⟨_, _, rfl, run_takeDeferred hK, ?_⟩⟩
    exact ⟨_, results_tmp rfl _ _ _, v, rfl, ownsRow_putObj hrow _ hK rfl, hB.trans (belowK_b (w := w) (Nat.le_refl _) W D _ _ (by simp at hD; omega) hK rfl rfl)⟩
  case stop =>
    rintro D c pre W _ _ h _
    exact h.elim
set_option maxHeartbeats 1000000 in
theorem collect_any (w : World) (sv : Value) (len : Nat) (z : Nat → Int) (hl : len ≤ 100000) (hs : SeqAt w sv len z) :
    Calls Try.prog 31 #[sv] w fun e W' => ∃ v, e = .returned v ∧ W'.ownsRow w.heap.size 2 1 v (upto z len).length (il (upto z len)) ∧ Below w.heap.size w W' := by
  have HA := appendSeq_any w sv len z hl hs
  clear hs
  go_enter Try.func31, Try.ntmps31
  go_wp2_with fail
  refine HA.mono ?_
  rintro e W' ⟨v, rfl, ho, hb⟩
  obtain ⟨va, vc, rfl⟩ := row1_slice ho
  go_wp2_with fail
  go_ret
  exact ⟨_, rfl, ho, hb⟩
/-- Sorted. -/
def sortL (zs : List Int) : List Int := zs.mergeSort fun x y => decide (x ≤ y)
theorem sortL_len (zs : List Int) : (sortL zs).length = zs.length := by simp [sortL]
set_option maxHeartbeats 2000000 in
theorem sorted_any (w : World) (sv : Value) (len : Nat) (z : Nat → Int) (hl : len ≤ 100000) (hs : SeqAt w sv len z) :
    Calls Try.prog 20 #[sv] w fun e W' => ∃ v, e = .returned v ∧ W'.ownsRow w.heap.size 2 1 v (sortL (upto z len)).length (il (sortL (upto z len))) ∧ Below w.heap.size w W' := by
  have HC := collect_any w sv len z hl hs
  clear hs
  go_enter Try.func20, Try.ntmps20
  go_wp2_with fail
  refine HC.mono ?_
  rintro e W ⟨v, rfl, hrow, hb⟩
  clear HC
  have hlen := upto_len z len
  rcases hrow.2 with ⟨rfl, hz⟩ | ⟨gb, cap, cur, rfl, hbase, hgb, r1, r2, r3, r4⟩
  · have hss : upto z len = [] := List.eq_nil_of_length_eq_zero hz
    have HS : Calls Try.prog 32 #[.slice none 0 0] W (fun e w' => e = .returned (.tuple #[]) ∧ w' = W) := AnyM.slices_Sort_int_none Try.sortA none 0 W
    have HF : w.heap.size = w.heap.size ∧ W.ownsRow w.heap.size 2 1 (.slice none 0 0) (sortL (upto z len)).length (il (sortL (upto z len))) := by
      refine ⟨rfl, ?_⟩
      rw [hss] at hrow ⊢
      simpa [sortL] using hrow
    clear hrow hlen hss hz
    go_wp2_with fail
    refine HS.mono ?_
    rintro e w' ⟨rfl, rfl⟩
    go_wp2_with fail
    go_ret
    exact ⟨_, rfl, HF.2, hb⟩
  · have hH : Holds (Value.int .i64) W gb 0 (upto z len).toArray := holds_of_blockI hgb (by rw [Nat.mul_one] at r4; exact r4)
    have hgl : gb < W.heap.size := (Array.getElem?_eq_some_iff.1 hgb).1
    have cS : Calls Try.prog 32 #[.slice (some ⟨gb, 0, none⟩) (upto z len).length cap] W (fun e w' => e = .returned (.tuple #[]) ∧ ∃ n os, w' = grow (putRow (Value.int .i64) (Sort.ahead W n) gb 0 (sortL (upto z len)).toArray) os) := AnyM.slices_Sort_int Try.sortA gb 0 cap (upto z len) W hH hgl (by omega)
    have hc2 : Hid ((sortL (upto z len)).length = (upto z len).length) := sortL_len _
    clear hlen
    go_wp2_with fail
    refine cS.mono ?_
    rintro e w' ⟨rfl, nn, os, rfl⟩
    have HF : (grow (putRow (Value.int .i64) (Sort.ahead W nn) gb 0 (sortL (upto z len)).toArray) os).ownsRow w.heap.size 2 1 (.slice (some ⟨gb, 0, none⟩) (upto z len).length cap) (sortL (upto z len)).length (il (sortL (upto z len))) := by
      rw [hc2.out]
      exact ownsRow_sortedI hc2.out hbase hgb r1 r2 r3
    have HB : Below w.heap.size w (grow (putRow (Value.int .i64) (Sort.ahead W nn) gb 0 (sortL (upto z len)).toArray) os) := hb.grown (grownBy_sortedI _) hb.size (fun j hj => by cases hj; exact hbase)
    clear hrow cS hH r1 r2 r3 r4
    go_wp2_with fail
    go_ret
    exact ⟨_, rfl, HF, HB⟩
end Go.Proofs.Ytbmjlahiggollaa
