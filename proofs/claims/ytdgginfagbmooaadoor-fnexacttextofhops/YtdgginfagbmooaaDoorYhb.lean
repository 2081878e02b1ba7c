/- The program's hopLine. -/
import Derived.Test.YtdgginfagbmooaaDoorYha
namespace Go.Proofs.YtdgginfagbmooaaDoor
open Go.RowKit Go.Deep
set_option linter.unusedVariables false
set_option maxRecDepth 20000

theorem two_cells (w : World) (a b : ByteArray) (t : TypeId) : ∀ (j : Nat) x, [a, b][j]? = some x → (w.alloc (.cells #[.string a, .string b] t)).cell? ⟨w.heap.size, 0 + j, none⟩ = some (.string x) := fun j x h => by
  match j with
  | 0 => simp at h; subst h; simp
  | 1 => simp at h; subst h; simp
  | j + 2 => simp at h
theorem one_cells (w : World) (a : ByteArray) (t : TypeId) : ∀ (j : Nat) x, [a][j]? = some x → (w.alloc (.cells #[.string a] t)).cell? ⟨w.heap.size, 0 + j, none⟩ = some (.string x) := fun j x h => by
  match j with
  | 0 => simp at h; subst h; simp
  | j + 1 => simp at h
set_option maxHeartbeats 2000000 in
theorem hopLine_any (q t y o : Nat) (w : World) (hq : q < 5) (ht : t ≤ 999) (hy : y ≤ 31) (ho : o ≤ 999) (hP : PowAt w) :
    Calls Tryd.prog 14 #[.agg #[.int .i64 ((q : Int) + 1), .int .i64 (t : Int), .int .i64 (y : Int), .int .i64 (o : Int)]] w fun e w' => e = .returned (.string (Go.Proofs.YtdgginfagbmooaaDoor.ht ⟨(q : Int) + 1, t, y, o⟩)) ∧ Below w.heap.size w w' := by
  have HP : Hid (PowAt w) := hP
  clear hP
  have hmo : Tryd.prog.follows .mixedOrders = true := by kernel_rfl
  have hw : (who ⟨(q : Int) + 1, t, y, o⟩) = lt5 (q + 1) ++ dg t := by
    have e1 : ((q : Int) + 1).toNat = q + 1 := by omega
    have e2 : ((t : Int)).toNat = t := by omega
    simp only [who, e1, e2]
  have hws : (lt5 (q + 1) ++ dg t).size ≤ 21 := by
    have h1 := lt5_size (q + 1) (by omega)
    have h2 := dg_size t (by omega)
    rw [ByteArray.size_append]; omega
  have HT : Hid (Go.Proofs.YtdgginfagbmooaaDoor.ht ⟨(q : Int) + 1, t, y, o⟩ = (if q = 1 then (lt5 (q + 1) ++ dg t) ++ blk ++ (dg y ++ col ++ dg o) else if q = 2 then (lt5 (q + 1) ++ dg t) ++ blk ++ dg y else (lt5 (q + 1) ++ dg t)) ++ nl) := by
    have e1 : ((y : Int)).toNat = y := by omega
    have e2 : ((o : Int)).toNat = o := by omega
    have c1 : ((q : Int) + 1 = 2) ↔ q = 1 := by omega
    have c2 : ((q : Int) + 1 = 3) ↔ q = 2 := by omega
    show Go.Proofs.YtdgginfagbmooaaDoor.ht ⟨(q : Int) + 1, t, y, o⟩ = _
    simp only [Go.Proofs.YtdgginfagbmooaaDoor.ht, hw, e1, e2, c1, c2]
  have hsl := lt5_ext q hq
  have hadd : ∀ u : World, (Op.stringOp .add (lt5 (q + 1)) (dg t)).run Tryd.prog u = .ok (.string (lt5 (q + 1) ++ dg t)) u := fun u => run_string_add_sum u _ _ (by have h1 := lt5_size (q + 1) (by omega); have h2 := dg_size t (by omega); omega)
  have hys := dg_size y (by omega)
  have hos := dg_size o (by omega)
  have hq1 : (q : Int) < 5 := by omega
  have hq0 : (0 : Int) ≤ (q : Int) := by omega
  have hq2 : (0 : Int) ≤ (q : Int) + 1 := by omega
  have hq3 : (q : Int) + 1 ≤ 5 := by omega
  have hq4 : (q : Int) ≤ (q : Int) + 1 := by omega
  have hwq : IntKind.i64.wrap (q : Int) = (q : Int) := by rw [IntKind.wrap_i64]; omega
  clear hw
  go_enter Tryd.func14, Tryd.ntmps14
  go_upto_region 1 with fail
  have X0 := Box4.new w (.int .i64 ((q : Int) + 1)) (.int .i64 (t : Int)) (.int .i64 (y : Int)) (.int .i64 (o : Int)) 34
  have HB0 : Hid (Below w.heap.size w (w.alloc (.cells #[.int .i64 ((q : Int) + 1), .int .i64 (t : Int), .int .i64 (y : Int), .int .i64 (o : Int)] 34))) := below_new _ _
  generalize (w.alloc (.cells #[.int .i64 ((q : Int) + 1), .int .i64 (t : Int), .int .i64 (y : Int), .int .i64 (o : Int)] 34)) = w0 at *
  refine wp_region_E 999 (S := fun u => Below w.heap.size w u ∧ Box4 u w.heap.size (.int .i64 ((q : Int) + 1)) (.int .i64 (t : Int)) (.int .i64 (y : Int)) (.int .i64 (o : Int))) hmo ⟨HB0.out.drew, X0⟩ (fun hS => ?_)
  refine wpAnyE_takeD (L := 999) (i := 0) (v := .pointer (some ⟨w.heap.size, 0, none⟩)) (some 4) rfl rfl (by kernel_rfl) (by kernel_rfl) (by kernel_rfl) (by kernel_rfl) (fun _ _ _ h => h) (Or.inl ⟨by kernel_rfl, by intro u hSu; obtain ⟨-, p0, p1, p2, p3⟩ := hSu; go_simp⟩) hS ?_
  try simp only [Act.put, List.setIfInBounds_toArray, List.set_cons_zero, List.set_cons_succ]
  refine wpAnyE_takeD (L := 999) (i := 1) (v := .int .i64 ((q : Int) + 1)) (some 5) rfl rfl (by kernel_rfl) (by kernel_rfl) (by kernel_rfl) (by kernel_rfl) (fun _ _ _ h => h) (Or.inl ⟨by kernel_rfl, by intro u hSu; obtain ⟨-, p0, p1, p2, p3⟩ := hSu; go_simp⟩) hS ?_
  try simp only [Act.put, List.setIfInBounds_toArray, List.set_cons_zero, List.set_cons_succ]
  refine wpAnyE_takeD (L := 999) (i := 2) (v := .int .i64 (q : Int)) (some 6) rfl rfl (by kernel_rfl) (by kernel_rfl) (by kernel_rfl) (by kernel_rfl) (fun _ _ _ h => h) (Or.inl ⟨by kernel_rfl, by intro u hSu; obtain ⟨-, p0, p1, p2, p3⟩ := hSu; go_simp⟩) hS ?_
  try simp only [Act.put, List.setIfInBounds_toArray, List.set_cons_zero, List.set_cons_succ]
  refine wpAnyE_takeD (L := 999) (i := 3) (v := .pointer (some ⟨w.heap.size, 0, none⟩)) (some 7) rfl rfl (by kernel_rfl) (by kernel_rfl) (by kernel_rfl) (by kernel_rfl) (fun _ _ _ h => h) (Or.inl ⟨by kernel_rfl, by intro u hSu; obtain ⟨-, p0, p1, p2, p3⟩ := hSu; go_simp⟩) hS ?_
  try simp only [Act.put, List.setIfInBounds_toArray, List.set_cons_zero, List.set_cons_succ]
  refine wpAnyE_takeD (L := 999) (i := 4) (v := .int .i64 ((q : Int) + 1)) (some 8) rfl rfl (by kernel_rfl) (by kernel_rfl) (by kernel_rfl) (by kernel_rfl) (fun _ _ _ h => h) (Or.inl ⟨by kernel_rfl, by intro u hSu; obtain ⟨-, p0, p1, p2, p3⟩ := hSu; go_simp⟩) hS ?_
  try simp only [Act.put, List.setIfInBounds_toArray, List.set_cons_zero, List.set_cons_succ]
  refine wpAnyE_takeD (L := 999) (i := 5) (v := .string (lt5 (q + 1))) (some 9) rfl rfl (by kernel_rfl) (by kernel_rfl) (by kernel_rfl) (by kernel_rfl) (fun _ _ _ h => h) (Or.inl ⟨by kernel_rfl, by intro u hSu; obtain ⟨-, p0, p1, p2, p3⟩ := hSu; go_simp⟩) hS ?_
  try simp only [Act.put, List.setIfInBounds_toArray, List.set_cons_zero, List.set_cons_succ]
  refine wpAnyE_takeD (L := 999) (i := 6) (v := .pointer (some ⟨w.heap.size, 1, none⟩)) (some 10) rfl rfl (by kernel_rfl) (by kernel_rfl) (by kernel_rfl) (by kernel_rfl) (fun _ _ _ h => h) (Or.inl ⟨by kernel_rfl, by intro u hSu; obtain ⟨-, p0, p1, p2, p3⟩ := hSu; go_simp⟩) hS ?_
  try simp only [Act.put, List.setIfInBounds_toArray, List.set_cons_zero, List.set_cons_succ]
  refine wpAnyE_takeD (L := 999) (i := 7) (v := .int .i64 (t : Int)) (some 11) rfl rfl (by kernel_rfl) (by kernel_rfl) (by kernel_rfl) (by kernel_rfl) (fun _ _ _ h => h) (Or.inl ⟨by kernel_rfl, by intro u hSu; obtain ⟨-, p0, p1, p2, p3⟩ := hSu; go_simp⟩) hS ?_
  try simp only [Act.put, List.setIfInBounds_toArray, List.set_cons_zero, List.set_cons_succ]
  refine wpAnyE_ready (rs := [8]) (by kernel_rfl) (by simp) ?_
  refine AllReadyE.cons rfl (fun K9 hK => ?_) AllReadyE.nil
  go_simp
  refine (decimal_any t (by omega) _ (HP.out.below hS.1)).mono ?_
  rintro e w1 ⟨rfl, hb1⟩
  refine hK.out _ _ (⟨hS.1.trans (hb1.mono hS.1.size), hS.2.below hb1⟩) (fun hS9 => ?_)
  try simp only [Act.put, List.setIfInBounds_toArray, List.set_cons_zero, List.set_cons_succ]
  clear hK K9 hS
  have hS := hS9
  clear hS9
  clear hb1
  refine wpAnyE_takeD (L := 999) (i := 9) (v := .string (lt5 (q + 1) ++ dg t)) (some 13) rfl rfl (by kernel_rfl) (by kernel_rfl) (by kernel_rfl) (by kernel_rfl) (fun _ _ _ h => h) (Or.inl ⟨by kernel_rfl, by intro u hSu; go_simp⟩) hS ?_
  try simp only [Act.put, List.setIfInBounds_toArray, List.set_cons_zero, List.set_cons_succ]
  refine wpAnyE_takeD (L := 999) (i := 10) (v := .string (lt5 (q + 1) ++ dg t)) (some 3) rfl rfl (by kernel_rfl) (by kernel_rfl) (by kernel_rfl) (by kernel_rfl) (fun _ _ _ h => h) (Or.inl ⟨by kernel_rfl, by intro u hSu; go_simp⟩) hS ?_
  try simp only [Act.put, List.setIfInBounds_toArray, List.set_cons_zero, List.set_cons_succ]
  have HS1 := hS
  refine wpAnyE_done (by kernel_rfl) ?_ _
  go_simp
  generalize lt5 (q + 1) ++ dg t = W at *
  have HB1 : Hid (Below w.heap.size w w1) := HS1.1
  have X1 := HS1.2
  clear HS1 hsl hadd X0 HB0
  obtain ⟨x0, x1, x2, x3⟩ := X1
  by_cases h1 : q = 1
  · have HE : Hid (Go.Proofs.YtdgginfagbmooaaDoor.ht ⟨(q : Int) + 1, t, y, o⟩ = txt [W, dg y ++ col ++ dg o] ++ nl) := by
      refine HT.out.trans ?_
      rw [if_pos h1, txt_two]
    have hc1 : ((q : Int) + 1 == 2) = true := by simp; omega
    have ha1 : ∀ u : World, (Op.stringOp .add (dg y) ⟨#[58]⟩).run Tryd.prog u = .ok (.string (dg y ++ col)) u := fun u => run_string_add_sum u _ col (by have : col.size = 1 := rfl; omega)
    have ha2 : ∀ u : World, (Op.stringOp .add (dg y ++ col) (dg o)).run Tryd.prog u = .ok (.string (dg y ++ col ++ dg o)) u := fun u => run_string_add_sum u _ _ (by have : col.size = 1 := rfl; rw [ByteArray.size_append]; omega)
    have hD : (txt [W, dg y ++ col ++ dg o]).size ≤ 100000000 := by
      rw [txt_two]
      simp only [ByteArray.size_append]
      have : col.size = 1 := rfl
      have : blk.size = 1 := rfl
      omega
    clear h1
    go_upto_region 4 with fail
    refine wp_region_E 999 (S := fun u => Below w.heap.size w u ∧ Box4 u w.heap.size (.int .i64 ((q : Int) + 1)) (.int .i64 (t : Int)) (.int .i64 (y : Int)) (.int .i64 (o : Int))) hmo ⟨HB1.out.drew, x0, x1, x2, x3⟩ (fun hS => ?_)
    refine wpAnyE_takeD (L := 999) (i := 0) (v := .string W) (some 18) rfl rfl (by kernel_rfl) (by kernel_rfl) (by kernel_rfl) (by kernel_rfl) (fun _ _ _ h => h) (Or.inl ⟨by kernel_rfl, by intro u hSu; obtain ⟨-, p0, p1, p2, p3⟩ := hSu; go_simp⟩) hS ?_
    try simp only [Act.put, List.setIfInBounds_toArray, List.set_cons_zero, List.set_cons_succ]
    refine wpAnyE_takeD (L := 999) (i := 1) (v := .pointer (some ⟨w.heap.size, 2, none⟩)) (some 19) rfl rfl (by kernel_rfl) (by kernel_rfl) (by kernel_rfl) (by kernel_rfl) (fun _ _ _ h => h) (Or.inl ⟨by kernel_rfl, by intro u hSu; obtain ⟨-, p0, p1, p2, p3⟩ := hSu; go_simp⟩) hS ?_
    try simp only [Act.put, List.setIfInBounds_toArray, List.set_cons_zero, List.set_cons_succ]
    refine wpAnyE_takeD (L := 999) (i := 2) (v := .int .i64 (y : Int)) (some 20) rfl rfl (by kernel_rfl) (by kernel_rfl) (by kernel_rfl) (by kernel_rfl) (fun _ _ _ h => h) (Or.inl ⟨by kernel_rfl, by intro u hSu; obtain ⟨-, p0, p1, p2, p3⟩ := hSu; go_simp⟩) hS ?_
    try simp only [Act.put, List.setIfInBounds_toArray, List.set_cons_zero, List.set_cons_succ]
    refine wpAnyE_takeD (L := 999) (i := 5) (v := .pointer (some ⟨w.heap.size, 3, none⟩)) (some 23) rfl rfl (by kernel_rfl) (by kernel_rfl) (by kernel_rfl) (by kernel_rfl) (fun _ _ _ h => h) (Or.inl ⟨by kernel_rfl, by intro u hSu; obtain ⟨-, p0, p1, p2, p3⟩ := hSu; go_simp⟩) hS ?_
    try simp only [Act.put, List.setIfInBounds_toArray, List.set_cons_zero, List.set_cons_succ]
    refine wpAnyE_takeD (L := 999) (i := 6) (v := .int .i64 (o : Int)) (some 24) rfl rfl (by kernel_rfl) (by kernel_rfl) (by kernel_rfl) (by kernel_rfl) (fun _ _ _ h => h) (Or.inl ⟨by kernel_rfl, by intro u hSu; obtain ⟨-, p0, p1, p2, p3⟩ := hSu; go_simp⟩) hS ?_
    try simp only [Act.put, List.setIfInBounds_toArray, List.set_cons_zero, List.set_cons_succ]
    refine wpAnyE_ready (rs := [3]) (by kernel_rfl) (by simp) ?_
    refine AllReadyE.cons rfl (fun K9 hK => ?_) AllReadyE.nil
    go_simp
    refine (decimal_any y (by omega) _ (HP.out.below hS.1)).mono ?_
    rintro e w2 ⟨rfl, hb2⟩
    refine hK.out _ _ (⟨hS.1.trans (hb2.mono hS.1.size), hS.2.below hb2⟩) (fun hS9 => ?_)
    try simp only [Act.put, List.setIfInBounds_toArray, List.set_cons_zero, List.set_cons_succ]
    clear hK K9 hS
    have hS := hS9
    clear hS9
    clear hb2
    refine wpAnyE_takeD (L := 999) (i := 4) (v := .string (dg y ++ col)) (some 22) rfl rfl (by kernel_rfl) (by kernel_rfl) (by kernel_rfl) (by kernel_rfl) (fun _ _ _ h => h) (Or.inl ⟨by kernel_rfl, by intro u hSu; go_simp⟩) hS ?_
    try simp only [Act.put, List.setIfInBounds_toArray, List.set_cons_zero, List.set_cons_succ]
    refine wpAnyE_ready (rs := [7]) (by kernel_rfl) (by simp) ?_
    refine AllReadyE.cons rfl (fun K9 hK => ?_) AllReadyE.nil
    go_simp
    refine (decimal_any o (by omega) _ (HP.out.below hS.1)).mono ?_
    rintro e w3 ⟨rfl, hb3⟩
    refine hK.out _ _ (⟨hS.1.trans (hb3.mono hS.1.size), hS.2.below hb3⟩) (fun hS9 => ?_)
    try simp only [Act.put, List.setIfInBounds_toArray, List.set_cons_zero, List.set_cons_succ]
    clear hK K9 hS
    have hS := hS9
    clear hS9
    clear hb3
    refine wpAnyE_takeD (L := 999) (i := 8) (v := .string (dg y ++ col ++ dg o)) (some 26) rfl rfl (by kernel_rfl) (by kernel_rfl) (by kernel_rfl) (by kernel_rfl) (fun _ _ _ h => h) (Or.inl ⟨by kernel_rfl, by intro u hSu; go_simp⟩) hS ?_
    try simp only [Act.put, List.setIfInBounds_toArray, List.set_cons_zero, List.set_cons_succ]
    generalize dg y ++ col ++ dg o = D at *
    refine wpAnyE_ready (rs := [9]) (by kernel_rfl) (by simp) ?_
    refine AllReadyE.cons rfl (fun K9 hK => ?_) AllReadyE.nil
    go_simp
    refine hK.out _ _ (⟨hS.1.alloc hS.1.size _, hS.2.alloc _⟩) (fun hS9 => ?_)
    try simp only [Act.put, List.setIfInBounds_toArray, List.set_cons_zero, List.set_cons_succ]
    clear hK K9 hS
    have hS := hS9
    clear hS9
    refine wpAnyE_ready (rs := [10]) (by kernel_rfl) (by simp) ?_
    refine AllReadyE.cons rfl (fun K9 hK => ?_) AllReadyE.nil
    go_simp
    refine (lineOf_any [W, D] w3.heap.size 0 2 _ (by simp) (by simp) (by simp) (two_cells w3 W D _) (by simp) hD).mono ?_
    rintro e w4 ⟨rfl, hb4⟩
    refine hK.out _ _ (⟨hS.1.trans (hb4.mono hS.1.size), hS.2.below hb4⟩) (fun hS9 => ?_)
    try simp only [Act.put, List.setIfInBounds_toArray, List.set_cons_zero, List.set_cons_succ]
    clear hK K9 hS
    have hS := hS9
    clear hS9
    clear hb4
    refine wpAnyE_takeD (L := 999) (i := 11) (v := .string (txt [W, D] ++ nl)) (some 2) rfl rfl (by kernel_rfl) (by kernel_rfl) (by kernel_rfl) (by kernel_rfl) (fun _ _ _ h => h) (Or.inl ⟨by kernel_rfl, by intro u hSu; go_simp⟩) hS ?_
    try simp only [Act.put, List.setIfInBounds_toArray, List.set_cons_zero, List.set_cons_succ]
    have HB9 : Hid (Below w.heap.size w w4) := hS.1
    refine wpAnyE_done (by kernel_rfl) ?_ _
    go_simp
    go_wp2_with fail
    go_ret
    exact ⟨by rw [HE.out]; rfl, HB9.out⟩
  · have hc1 : ((q : Int) + 1 == 2) = false := by simp; omega
    by_cases h2 : q = 2
    · have HE : Hid (Go.Proofs.YtdgginfagbmooaaDoor.ht ⟨(q : Int) + 1, t, y, o⟩ = txt [W, dg y] ++ nl) := by
        refine HT.out.trans ?_
        rw [if_neg h1, if_pos h2, txt_two]
      have hc2 : ((q : Int) + 1 == 3) = true := by simp; omega
      have hD : (txt [W, dg y]).size ≤ 100000000 := by
        rw [txt_two]
        simp only [ByteArray.size_append]
        have : blk.size = 1 := rfl
        omega
      clear h1 h2
      go_wp2_with fail
      refine (decimal_any y (by omega) _ (HP.out.below HB1.out)).mono ?_
      rintro e w2 ⟨rfl, hb2⟩
      have HB2 : Hid (Below w.heap.size w w2) := HB1.out.trans (hb2.mono HB1.out.size)
      clear hb2 x0 x1 x2 x3
      generalize dg y = D at *
      go_wp2_with fail
      refine (lineOf_any [W, D] w2.heap.size 0 2 _ (by simp) (by simp) (by simp) (two_cells w2 W D _) (by simp) hD).mono ?_
      rintro e w3 ⟨rfl, hb3⟩
      have HB3 : Hid (Below w.heap.size w w3) := (HB2.out.alloc HB2.out.size _).trans (hb3.mono (by have := HB2.out.size; simp; omega))
      clear hb3
      go_wp2_with fail
      go_ret
      exact ⟨by rw [HE.out]; rfl, HB3.out⟩
    · have HE : Hid (Go.Proofs.YtdgginfagbmooaaDoor.ht ⟨(q : Int) + 1, t, y, o⟩ = txt [W] ++ nl) := by
        refine HT.out.trans ?_
        rw [if_neg h1, if_neg h2, txt_one]
      have hc2 : ((q : Int) + 1 == 3) = false := by simp; omega
      have hD : (txt [W]).size ≤ 100000000 := by rw [txt_one]; omega
      clear h1 h2
      go_wp2_with fail
      refine (lineOf_any [W] w1.heap.size 0 1 _ (by simp) (by simp) (by simp) (one_cells w1 W _) (by simp) hD).mono ?_
      rintro e w3 ⟨rfl, hb3⟩
      have HB3 : Hid (Below w.heap.size w w3) := (HB1.out.alloc HB1.out.size _).trans (hb3.mono (by have := HB1.out.size; simp; omega))
      clear hb3
      go_wp2_with fail
      go_ret
      exact ⟨by rw [HE.out]; rfl, HB3.out⟩
end Go.Proofs.YtdgginfagbmooaaDoor
