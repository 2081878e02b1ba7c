/- The program's versionWord. -/
import Derived.Test.YtaelpjjabkkhcaaGreatDoorYxa
import Derived.Test.YtaelpjjabkkhcaaGreatDoorWae
namespace Go.Proofs.YtaelpjjabkkhcaaGreatDoor
open Go.RowKit Go.Deep
set_option linter.unusedVariables false
set_option maxRecDepth 20000

set_option maxHeartbeats 2000000 in
theorem versionWord_any (t a : Int) (g : Bool) (y : Int) (w : World) (hr : vR ⟨t, a, g, y⟩ = true) (hP : PowAt w) :
    Calls Tryz.prog 20 #[.agg #[.int .i64 t, .int .i64 a, .bool g, .int .i64 y]] w fun e w' => e = .returned (.string (vt ⟨t, a, g, y⟩)) ∧ Below w.heap.size w w' := by
  have HP : Hid (PowAt w) := hP
  clear hP
  have hmo : Tryz.prog.follows .mixedOrders = true := by kernel_rfl
  obtain ⟨⟨ht0, ht1⟩, ⟨ha0, ha1⟩, hy0, hy1⟩ := vR_nat hr
  simp only at ht0 ht1 ha0 ha1 hy0 hy1
  have HT : Hid (vt ⟨t, a, g, y⟩ = ((dg t.toNat ++ cln) ++ dg a.toNat) ++ (if g = true then mns else eqs ++ dg y.toNat)) := (rfl : vt ⟨t, a, g, y⟩ = ((dg t.toNat ++ cln) ++ dg a.toNat) ++ (if g = true then mns else eqs ++ dg y.toNat))
  clear hr
  have hts := dg_size t.toNat (by omega)
  have has := dg_size a.toNat (by omega)
  have hys := dg_size y.toNat (by omega)
  have hw1 : ∀ u : World, (Op.stringOp .add (dg t.toNat) ⟨#[58]⟩).run Tryz.prog u = .ok (.string (dg t.toNat ++ cln)) u := fun u => run_string_add_sum u _ cln (by have : cln.size = 1 := rfl; omega)
  have hw2 : ∀ u : World, (Op.stringOp .add (dg t.toNat ++ cln) (dg a.toNat)).run Tryz.prog u = .ok (.string ((dg t.toNat ++ cln) ++ dg a.toNat)) u := fun u => run_string_add_sum u _ _ (by have : cln.size = 1 := rfl; rw [ByteArray.size_append]; omega)
  have hws : ((dg t.toNat ++ cln) ++ dg a.toNat).size ≤ 41 := by
    have : cln.size = 1 := rfl
    simp only [ByteArray.size_append]; omega
  go_enter Tryz.func20, Tryz.ntmps20
  go_upto_region 1 with fail
  have X0 := Box4.new w (.int .i64 t) (.int .i64 a) (.bool g) (.int .i64 y) 51
  have HB0 : Hid (Below w.heap.size w (w.alloc (.cells #[.int .i64 t, .int .i64 a, .bool g, .int .i64 y] 51))) := below_new _ _
  generalize (w.alloc (.cells #[.int .i64 t, .int .i64 a, .bool g, .int .i64 y] 51)) = w0 at *
  refine wp_region_E 999 (S := fun u => Below w.heap.size w u ∧ Box4 u w.heap.size (.int .i64 t) (.int .i64 a) (.bool g) (.int .i64 y)) hmo ⟨HB0.out.drew, X0⟩ (fun hS => ?_)
  refine wpAnyE_takeD (L := 999) (i := 0) (v := .pointer (some ⟨w.heap.size, 0, none⟩)) (some 4) rfl rfl (by kernel_rfl) (by kernel_rfl) (by kernel_rfl) (by kernel_rfl) (fun _ _ _ h => h) (Or.inl ⟨by kernel_rfl, by intro u hSu; obtain ⟨-, p0, p1, p2, p3⟩ := hSu; go_simp⟩) hS ?_
  try simp only [Act.put, List.setIfInBounds_toArray, List.set_cons_zero, List.set_cons_succ]
  refine wpAnyE_takeD (L := 999) (i := 1) (v := .int .i64 t) (some 5) rfl rfl (by kernel_rfl) (by kernel_rfl) (by kernel_rfl) (by kernel_rfl) (fun _ _ _ h => h) (Or.inl ⟨by kernel_rfl, by intro u hSu; obtain ⟨-, p0, p1, p2, p3⟩ := hSu; go_simp⟩) hS ?_
  try simp only [Act.put, List.setIfInBounds_toArray, List.set_cons_zero, List.set_cons_succ]
  refine wpAnyE_takeD (L := 999) (i := 4) (v := .pointer (some ⟨w.heap.size, 1, none⟩)) (some 8) rfl rfl (by kernel_rfl) (by kernel_rfl) (by kernel_rfl) (by kernel_rfl) (fun _ _ _ h => h) (Or.inl ⟨by kernel_rfl, by intro u hSu; obtain ⟨-, p0, p1, p2, p3⟩ := hSu; go_simp⟩) hS ?_
  try simp only [Act.put, List.setIfInBounds_toArray, List.set_cons_zero, List.set_cons_succ]
  refine wpAnyE_takeD (L := 999) (i := 5) (v := .int .i64 a) (some 9) rfl rfl (by kernel_rfl) (by kernel_rfl) (by kernel_rfl) (by kernel_rfl) (fun _ _ _ h => h) (Or.inl ⟨by kernel_rfl, by intro u hSu; obtain ⟨-, p0, p1, p2, p3⟩ := hSu; go_simp⟩) hS ?_
  try simp only [Act.put, List.setIfInBounds_toArray, List.set_cons_zero, List.set_cons_succ]
  refine wpAnyE_ready (rs := [2]) (by kernel_rfl) (by simp) ?_
  refine AllReadyE.cons rfl (fun K9 hK => ?_) AllReadyE.nil
  go_simp
  refine (decI_any t (by omega) (by omega) _ (HP.out.below hS.1)).mono ?_
  rintro e w1 ⟨rfl, hb1⟩
  refine hK.out _ _ (⟨hS.1.trans (hb1.mono hS.1.size), hS.2.below hb1⟩) (fun hS9 => ?_)
  try simp only [Act.put, List.setIfInBounds_toArray, List.set_cons_zero, List.set_cons_succ]
  clear hK K9 hS
  have hS := hS9
  clear hS9
  clear hb1
  refine wpAnyE_takeD (L := 999) (i := 3) (v := .string (dg t.toNat ++ cln)) (some 7) rfl rfl (by kernel_rfl) (by kernel_rfl) (by kernel_rfl) (by kernel_rfl) (fun _ _ _ h => h) (Or.inl ⟨by kernel_rfl, by intro u hSu; go_simp⟩) hS ?_
  try simp only [Act.put, List.setIfInBounds_toArray, List.set_cons_zero, List.set_cons_succ]
  refine wpAnyE_ready (rs := [6]) (by kernel_rfl) (by simp) ?_
  refine AllReadyE.cons rfl (fun K9 hK => ?_) AllReadyE.nil
  go_simp
  refine (decI_any a (by omega) (by omega) _ (HP.out.below hS.1)).mono ?_
  rintro e w2 ⟨rfl, hb2⟩
  refine hK.out _ _ (⟨hS.1.trans (hb2.mono hS.1.size), hS.2.below hb2⟩) (fun hS9 => ?_)
  try simp only [Act.put, List.setIfInBounds_toArray, List.set_cons_zero, List.set_cons_succ]
  clear hK K9 hS
  have hS := hS9
  clear hS9
  clear hb2
  refine wpAnyE_takeD (L := 999) (i := 7) (v := .string ((dg t.toNat ++ cln) ++ dg a.toNat)) (some 11) rfl rfl (by kernel_rfl) (by kernel_rfl) (by kernel_rfl) (by kernel_rfl) (fun _ _ _ h => h) (Or.inl ⟨by kernel_rfl, by intro u hSu; go_simp⟩) hS ?_
  try simp only [Act.put, List.setIfInBounds_toArray, List.set_cons_zero, List.set_cons_succ]
  refine wpAnyE_takeD (L := 999) (i := 8) (v := .string ((dg t.toNat ++ cln) ++ dg a.toNat)) (some 3) rfl rfl (by kernel_rfl) (by kernel_rfl) (by kernel_rfl) (by kernel_rfl) (fun _ _ _ h => h) (Or.inl ⟨by kernel_rfl, by intro u hSu; go_simp⟩) hS ?_
  try simp only [Act.put, List.setIfInBounds_toArray, List.set_cons_zero, List.set_cons_succ]
  have HS1 := hS
  refine wpAnyE_done (by kernel_rfl) ?_ _
  go_simp
  generalize (dg t.toNat ++ cln) ++ dg a.toNat = W at *
  have HB1 : Hid (Below w.heap.size w w2) := HS1.1
  have X1 := HS1.2
  clear HS1 hw1 hw2 X0 HB0
  obtain ⟨x0, x1, x2, x3⟩ := X1
  cases g with
  | true =>
    have ha1 : ∀ u : World, (Op.stringOp .add W ⟨#[45]⟩).run Tryz.prog u = .ok (.string (W ++ mns)) u := fun u => run_string_add_sum u _ mns (by have : mns.size = 1 := rfl; omega)
    go_wp2_with fail
    go_ret
    exact ⟨by rw [HT.out]; rfl, HB1.out⟩
  | false =>
    have ha1 : ∀ u : World, (Op.stringOp .add W ⟨#[61]⟩).run Tryz.prog u = .ok (.string (W ++ eqs)) u := fun u => run_string_add_sum u _ eqs (by have : eqs.size = 1 := rfl; omega)
    have ha2 : ∀ u : World, (Op.stringOp .add (W ++ eqs) (dg y.toNat)).run Tryz.prog u = .ok (.string ((W ++ eqs) ++ dg y.toNat)) u := fun u => run_string_add_sum u _ _ (by have : eqs.size = 1 := rfl; rw [ByteArray.size_append]; omega)
    have HE : Hid (vt ⟨t, a, false, y⟩ = (W ++ eqs) ++ dg y.toNat) := (by rw [HT.out, if_neg (by decide)]; simp only [ByteArray.append_assoc] : vt ⟨t, a, false, y⟩ = (W ++ eqs) ++ dg y.toNat)
    go_wp2_with fail
    refine (decI_any y (by omega) (by omega) _ (HP.out.below HB1.out)).mono ?_
    rintro e w3 ⟨rfl, hb3⟩
    have HB3 : Hid (Below w.heap.size w w3) := HB1.out.trans (hb3.mono HB1.out.size)
    clear hb3
    go_wp2_with fail
    go_ret
    exact ⟨by rw [HE.out]; rfl, HB3.out⟩
end Go.Proofs.YtaelpjjabkkhcaaGreatDoor
