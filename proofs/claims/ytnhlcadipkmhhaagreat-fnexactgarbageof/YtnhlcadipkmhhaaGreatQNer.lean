/- impl.neededOf at impl.Txn. -/
import Derived.Test.YtnhlcadipkmhhaaGreatQMpa
import Derived.Test.YtnhlcadipkmhhaaGreatQWae
import Derived.Test.YtnhlcadipkmhhaaGreatQOa
namespace Go.Proofs.YtnhlcadipkmhhaaGreat
open Go.RowKit Go.Deep Go.Maps
set_option linter.unusedVariables false
set_option linter.unusedSimpArgs false
set_option maxRecDepth 20000

theorem keyRw_any (x : HRw) (w : World) :
    Calls Tryz.prog 92 #[.agg #[.int .i64 x.t.key, .slice x.A x.t.n x.c]] w fun e w' => e = .returned (.int .i64 (keyRw x)) ∧ Below w.heap.size w w' := by
  go_enter Tryz.func92, Tryz.ntmps92
  go_wp2_with fail
  go_ret
  exact ⟨rfl, below_new _ _⟩
theorem needRw_any (x : HRw) (w : World) :
    Calls Tryz.prog 93 #[.agg #[.int .i64 x.t.key, .slice x.A x.t.n x.c]] w fun e w' => e = .returned (.bool (needRw x)) ∧ Below w.heap.size w w' := by
  go_enter Tryz.func93, Tryz.ntmps93
  go_wp2_with fail
  go_ret
  exact ⟨by simp [needRw], below_new _ _⟩
def NeRw (xs : List HRw) (w : World) (e : Ending) (w' : World) : Prop := ∃ v, e = .returned v ∧ Below w.heap.size w w' ∧ w'.ownsRow w.heap.size 105 2 v (xs.filter needRw).length (hbRw (xs.filter needRw))
theorem zeroRw (w : World) : (zeroValue 105).run Tryz.prog w = .ok (valRw ⟨zRw, none, 0, 0, 0⟩) w := by kernel_rfl
theorem lookRw {w : World} {b n : Nat} {D : DataW Value} {ys : List HRw} (h : w.ownsMap Tryz.prog 2 relRw b n D) (hD : MapOf keyRw valRw D ys) {y : HRw} (hy : y ∈ ys) (hw : (Lit.int .i64 (keyRw y)).wf = true) :
    (Instr.lookup 167 (.map (some b)) (.int .i64 (keyRw y)) false).run Tryz.prog w = .ok (.agg #[.int .i64 y.t.key, .slice y.A y.t.n y.c]) w := by
  obtain ⟨v, ps, hrun, hv⟩ := h.lookup keysI6 Tryz.underlying167 (zeroRw w) (relRw_val _) (keyOf_int_mk Tryz.underlying2 hw)
  rw [(hD.2.1 y hy).2] at hv
  obtain ⟨x, rfl, e⟩ := relRw_inv hv
  simp only [Prod.mk.injEq, DataW.held.injEq] at e
  rw [← e.1] at hrun
  exact hrun
set_option maxHeartbeats 16000000 in
theorem neededRw_any (xs : List HRw) (n : Nat) (a : Option Addr) (cap : Nat) (w : World) (hn : xs.length = n) (hle : n ≤ 100) (hri : RiRw xs) (hwf : ∀ x ∈ xs, (Lit.int .i64 (keyRw x)).wf = true) (h : HAtRw w a xs) :
    Calls Tryz.prog 91 #[.slice a n cap, .func (.func 92) #[] #[], .func (.func 93) #[] #[]] w (NeRw xs w) := by
  have HX : Hid (HAtRw w a xs) := h
  have HN : Hid (xs.length = n) := hn
  have HRI : Hid (RiRw xs) := hri
  have HWW : Hid (∀ x ∈ xs, (Lit.int .i64 (keyRw x)).wf = true) := hwf
  have hmm := @run_makeMap Tryz.prog
  clear h hn hri hwf
  go_enter Tryz.func91, Tryz.ntmps91
  go_wp2_with fail
  clear hmm
  go_loopw [9, 18] (fun _ i wr => ∃ k : Nat, k ≤ n ∧ i = .int .i64 k ∧ Hid (Below w.heap.size w wr) ∧ w.heap.size < wr.heap.size ∧ ∃ D : DataW Value, Hid (wr.ownsMap Tryz.prog 2 relRw w.heap.size k D) ∧ Hid (MapOf keyRw valRw D (xs.take k))) (fun _ i _ => n - (intOf i).toNat)
  case atStart => exact ⟨0, Nat.zero_le _, rfl, (Below.refl _ _).alloc (Nat.le_refl _) _, by simp, .map [], World.ownsMap_made _ _ _ _, by rw [List.take_zero]; exact MapOf.nil⟩
  case round =>
    obtain ⟨k, hk, rfl, HB, hsz, D, HM, HD⟩ := hrel
    by_cases hlt : k < n
    · have hlt' : (k : Int) < (n : Int) := by omega
      have hk0 : (0 : Int) ≤ (k : Int) := by omega
      obtain ⟨x, hx⟩ : ∃ x, xs[k]? = some x := ⟨_, List.getElem?_eq_getElem (by rw [HN.out]; exact hlt)⟩
      have HXK : Hid (xs[k]? = some x) := hx
      have HWF : Hid ((Lit.int .i64 (keyRw x)).wf = true) := HWW.out x (List.mem_of_getElem? hx)
      have HD2 : Hid (MapOf keyRw valRw (D.put (.int .i64 (keyRw x)) (.held (valRw x))) (xs.take (k + 1))) := by
        rw [Hid, take_next hx]
        exact HD.out.snoc x (HRI.out.fresh hx)
      rcases HX.out.below HB.out with h | ⟨b, off, rfl, hl, hc⟩
      · rw [h] at hx; simp at hx
      obtain ⟨q0, q1⟩ := hc k x hx
      have HBX : Hid (∀ o : Obj, o = .cells #[.int .i64 x.t.key, .slice x.A x.t.n x.c] 105 → CRw (wr.alloc o) wr.heap.size 0 x.t x.A x.c) := by
        rintro o rfl
        simp [CRw, go_sem]
      clear hc hx
      go_upto_region 5 with fail
      have hbx := HBX.out _ rfl
      obtain ⟨W1, hW1⟩ : ∃ y, y = wr.alloc (.cells #[.int .i64 x.t.key, .slice x.A x.t.n x.c] 105) := ⟨_, rfl⟩
      rw [← hW1] at hbx ⊢
      have hBn : Below wr.heap.size wr W1 := by rw [hW1]; exact below_new _ _
      have HBW1 : Hid (Below w.heap.size w W1) := below_then HB.out hBn
      have hs1 : w.heap.size < W1.heap.size := by have := hBn.size; omega
      have HM1 : Hid (W1.ownsMap Tryz.prog 2 relRw w.heap.size k D) := ownsMap_block6 HM.out (hBn.block _ hsz)
      have hBW : w.heap.size < W1.heap.size := hs1
      clear hW1 hBn q0 q1 HBX HB HM
      obtain ⟨q0, q1⟩ := hbx
      rw [Nat.zero_add] at q1
      · clear HD
        refine wp_region_E 5 (S := fun u => Below W1.heap.size W1 u) (by kernel_rfl) ((Below.refl _ _).drew) (fun hS => ?_)
        obtain ⟨u0, hu0⟩ : ∃ y, y = W1.drew := ⟨_, rfl⟩
        rw [← hu0] at hS ⊢
        clear hu0
        refine wpAnyE_takeD (L := 5) (i := 0) (v := .map (some w.heap.size)) (some 22) rfl rfl (by kernel_rfl) (by kernel_rfl) (by kernel_rfl) (by kernel_rfl) (fun _ _ _ h => h) (Or.inl ⟨by kernel_rfl, by intro u hSu; go_simp⟩) hS ?_
        try simp only [Act.put, List.setIfInBounds_toArray, List.set_cons_zero, List.set_cons_succ]
        refine wpAnyE_takeD (L := 5) (i := 1) (v := .func (.func 92) #[] #[]) (some 23) rfl rfl (by kernel_rfl) (by kernel_rfl) (by kernel_rfl) (by kernel_rfl) (fun _ _ _ h => h) (Or.inl ⟨by kernel_rfl, by intro u hSu; go_simp⟩) hS ?_
        try simp only [Act.put, List.setIfInBounds_toArray, List.set_cons_zero, List.set_cons_succ]
        refine wpAnyE_takeD (L := 5) (i := 2) (v := .agg #[.int .i64 x.t.key, .slice x.A x.t.n x.c]) (some 24) rfl rfl (by kernel_rfl) (by kernel_rfl) (by kernel_rfl) (by kernel_rfl) (fun _ _ _ h => h) (Or.inl ⟨by kernel_rfl, by intro u hSu; have gq0 := cell_below q0 hSu; have gq1 := cell_below q1 hSu; go_simp⟩) hS ?_
        try simp only [Act.put, List.setIfInBounds_toArray, List.set_cons_zero, List.set_cons_succ]
        refine wpAnyE_takeD (L := 5) (i := 4) (v := .agg #[.int .i64 x.t.key, .slice x.A x.t.n x.c]) (some 26) rfl rfl (by kernel_rfl) (by kernel_rfl) (by kernel_rfl) (by kernel_rfl) (fun _ _ _ h => h) (Or.inl ⟨by kernel_rfl, by intro u hSu; have gq0 := cell_below q0 hSu; have gq1 := cell_below q1 hSu; go_simp⟩) hS ?_
        try simp only [Act.put, List.setIfInBounds_toArray, List.set_cons_zero, List.set_cons_succ]
        refine wpAnyE_ready (rs := [3]) (by kernel_rfl) (by simp) ?_
        refine AllReadyE.cons rfl (fun K9 hK => ?_) AllReadyE.nil
        go_simp
        refine (keyRw_any x _).mono ?_
        rintro e u1 ⟨rfl, hbu⟩
        have HMu : Hid (u1.ownsMap Tryz.prog 2 relRw w.heap.size k D) := ownsMap_block6 HM1.out ((below_then hS hbu).block _ hBW)
        refine hK.out _ _ (below_then hS hbu) (fun hS9 => ?_)
        try simp only [Act.put, List.setIfInBounds_toArray, List.set_cons_zero, List.set_cons_succ]
        clear hK K9 hS hbu
        have hS := hS9
        clear hS9
        refine wpAnyE_ready (rs := [5]) (by kernel_rfl) (by simp) ?_
        refine AllReadyE.last rfl (fun K9 hK => ?_)
        have hzu := hS.size
        refine step_mapUp _ rfl (.tmp 22) (.tmp 25) (.tmp 26) 167 rfl rfl 105 Tryz.underlying167 relRw w.heap.size k D rfl HMu.out (by unfold maxLen; omega) _ _ _ rfl rfl (keyOf_int_mk Tryz.underlying2 HWF.out) _ [] (relRw_val x) (fun w3 hown3 hg3 => ?_)
        refine hK.out _ _ ?_
        have HB3 : Hid (Below w.heap.size w w3) := (below_then HBW1.out hS).grown hg3 (by omega) (fun j hj => by cases hj; exact Nat.le_refl _)
        have hs3 : w.heap.size < w3.heap.size := by have := hg3.size; omega
        have HM3 : Hid (w3.ownsMap Tryz.prog 2 relRw w.heap.size (k + 1) (D.put (.int .i64 (keyRw x)) (.held (valRw x)))) := hown3
        clear hK K9 hS hown3 hg3 HMu q0 q1
        refine wpAnyE_done (by kernel_rfl) ?_ _
        go_simp
        go_wp2_with fail
        go_roundw
        case rel => exact ⟨k + 1, hlt, by go_num, HB3, hs3, _, HM3, HD2⟩
        case measure => simp [intOf]; omega
    · have hkn : k = n := by omega
      have hnl : ¬ ((k : Int) < (n : Int)) := by omega
      have HD0 : Hid (MapLf keyRw valRw needRw D (has D) xs) := by
        have h9 := HD.out
        rw [hkn, ← HN.out, List.take_length] at h9
        exact MapLf.start h9
      have hnk : k < maxLen := by unfold maxLen; omega
      have hk1 : k ≤ 100 := by omega
      have HKN : Hid (k = n) := hkn
      obtain ⟨w2, rfl⟩ : ∃ x, x = wr := ⟨wr, rfl⟩
      clear HD hkn
      go_wp2_with (first | (at_range; refine wpList_range_own _ rfl _ 167 rfl 2 105 keysI6 Tryz.underlying167 _ w.heap.size k _ rfl HM.out ?_; intro w0 hrg0 hg0 hs0))
      try go_frame
      obtain ⟨r, hr⟩ : ∃ r, r = w2.heap.size := ⟨_, rfl⟩
      rw [← hr] at hrg0 ⊢
      have HRL : Hid (w.heap.size < r) := by rw [Hid, hr]; exact hsz
      have HB0 : Hid (Below w.heap.size w w0) := HB.out.grown hg0 HB.out.size (fun j hj => by cases hj)
      have HRG0 : Hid (w0.ranges Tryz.prog 2 relRw w.heap.size r k D (has D) (Maps.size D)) := hrg0
      clear hrg0 hg0 hs0 hr HB HM hsz
      go_loopw [10, 11] (fun _ _ wr => ∃ (D : DataW Value) (left : Lit → Bool) (cnt : Nat), Hid (wr.ranges Tryz.prog 2 relRw w.heap.size r k D left cnt) ∧ Hid (MapLf keyRw valRw needRw D left xs) ∧ Hid (Below w.heap.size w wr)) (fun _ _ wr => wr.rangeLeft w.heap.size r)
      case atStart => exact ⟨_, _, _, HRG0, HD0, HB0⟩
      case round =>
        clear HD0 HB0 HRG0
        obtain ⟨D1, left, cnt, HRG, HL, HB⟩ := hrel
        go_wp2_with (first | (at_next; refine wpList_next_ranges _ rfl _ rfl 2 keysI6 relRw (Value.int .i64) valRw (fun key kl hkey => by obtain ⟨x, rfl, _⟩ := Maps.keyOf_int_inv Tryz.underlying2 hkey; exact ⟨x, rfl⟩) (fun v y hv => by obtain ⟨x, rfl, _⟩ := relRw_inv hv; exact ⟨x, rfl⟩) w.heap.size r k _ _ _ rfl HRG.out ?_ ?_))
        · intro _ hl0
          have HD3 : Hid (MapOf keyRw valRw D1 (xs.filter needRw)) := HL.out.last hl0
          have HM3 : Hid (wr.ownsMap Tryz.prog 2 relRw w.heap.size k D1) := HRG.out.owns
          have HR3 : Hid (RiRw (xs.filter needRw)) := HRI.out.filter _
          have HW3 : Hid (∀ x ∈ xs.filter needRw, (Lit.int .i64 (keyRw x)).wf = true) := fun x hx => HWW.out x (List.mem_filter.1 hx).1
          have hm3 : (xs.filter needRw).length ≤ 100 := by have := List.length_filter_le needRw xs; rw [HN.out] at this; omega
          obtain ⟨ys, hys⟩ : ∃ y, y = xs.filter needRw := ⟨_, rfl⟩
          rw [← hys] at HD3 HR3 HW3 hm3
          have HYS : Hid (ys = xs.filter needRw) := hys
          obtain ⟨m, hm⟩ : ∃ y, y = ys.length := ⟨_, rfl⟩
          rw [← hm] at hm3
          have HM : Hid (ys.length = m) := hm.symm
          obtain ⟨w3, rfl⟩ : ∃ x, x = wr := ⟨wr, rfl⟩
          clear hl0 HL HRG hys hm HRI HWW
          have hlt3 : w.heap.size < w3.heap.size := HM3.out.lt
          go_wp2_with (first | (go_at_call 135; refine (keysRw_any _ _).mono ?_; rintro e w4 ⟨rfl, rfl⟩) | (go_at_call 134; refine (sortedRw_any w3.heap.size w.heap.size k D1 _ ys (by simp) (by simp [go_sem]) (HM3.out.alloc _) hnk (by omega) HD3.out HR3.out).mono ?_; rintro e w5 ⟨v5, rfl, hb5, hr5⟩; obtain ⟨sa, sc, rfl⟩ := slRw_slice HM.out hr5))
          have HB5 : Hid (Below w.heap.size w w5) := below_then HB.out (below_then (below_new _ _) hb5)
          have HM5 : Hid (w5.ownsMap Tryz.prog 2 relRw w.heap.size k D1) := ownsMap_block6 HM3.out ((below_then (below_new _ _) hb5).block _ hlt3)
          have HR5 : Hid (w5.ownsRow w.heap.size 2 1 (.slice sa m sc) m (klRw ys)) := by
            have h9 := hr5
            rw [HM.out] at h9
            exact row_base h9 (by simp; omega)
          clear hb5 hr5 HB HM3
          go_loopw [12, 14, 45] (fun v _ i wr => ∃ k2 : Nat, k2 ≤ m ∧ i = .int .i64 k2 ∧ Hid (Below w.heap.size w wr) ∧ Hid (wr.ownsMap Tryz.prog 2 relRw w.heap.size k D1) ∧ Hid (wr.ownsRow w.heap.size 2 1 (.slice sa m sc) m (klRw ys)) ∧ Hid (wr.ownsRow w.heap.size 105 2 v k2 (hbRw (ys.take k2)))) (fun _ _ i _ => m - (intOf i).toNat)
          case atStart => exact ⟨0, Nat.zero_le _, rfl, HB5, HM5, HR5, World.ownsRow_nil _ _ _ _⟩
          case round =>
            clear HB5 HM5 HR5
            obtain ⟨k2, hk2, rfl, HB, HMP, HSR, HO⟩ := hrel
            have hszr : w.heap.size < wr.heap.size := HMP.out.lt
            by_cases hlt : k2 < m
            · have hlt' : (k2 : Int) < (m : Int) := by omega
              have hk0 : (0 : Int) ≤ (k2 : Int) := by omega
              obtain ⟨y, hy⟩ : ∃ y, ys[k2]? = some y := ⟨_, List.getElem?_eq_getElem (by rw [HM.out]; exact hlt)⟩
              obtain ⟨g, rfl, hg0, hgk⟩ := slRw_cell HSR.out hy hlt
              have hlook := lookRw HMP.out HD3.out (List.mem_of_getElem? hy) (HW3.out y (List.mem_of_getElem? hy))
              have HTN : Hid (ys.take (k2 + 1) = ys.take k2 ++ [y]) := take_next hy
              have HTL : Hid ((ys.take k2).length = k2) := by rw [Hid, List.length_take, HM.out]; omega
              have HBX : Hid (∀ o : Obj, o = .cells #[.int .i64 y.t.key, .slice y.A y.t.n y.c] 105 → CRw (wr.alloc o) wr.heap.size 0 y.t y.A y.c) := by
                rintro o rfl
                simp [CRw, go_sem]
              have HOA : Hid (∀ o1 : Obj, (wr.alloc o1).ownsRow w.heap.size 105 2 _ k2 (hbRw (ys.take k2))) := fun o1 => own_belowI HO.out (below_new _ _)
              have HSA : Hid (∀ o1 : Obj, (wr.alloc o1).ownsRow w.heap.size 2 1 (.slice (some ⟨g, 0, none⟩) m sc) m (klRw ys)) := fun o1 => own_belowI HSR.out (below_new _ _)
              have HMA : Hid (∀ o1 : Obj, (wr.alloc o1).ownsMap Tryz.prog 2 relRw w.heap.size k D1) := fun o1 => HMP.out.alloc o1
              have HBA : Hid (∀ o1 : Obj, Below w.heap.size w (wr.alloc o1)) := fun o1 => below_then HB.out (below_new _ _)
              obtain ⟨kk, hkk⟩ : ∃ z, z = keyRw y := ⟨_, rfl⟩
              rw [← hkk] at hgk hlook
              clear hkk hy HO HSR HMP HB
              go_wp2_with (first | (at_builtin; refine wpList_appHRw _ rfl (.tmp 49) (.tmp 53) rfl w.heap.size _ k2 (ys.take k2) HTL.out rfl (HOA.out _) wr.heap.size 1 y rfl (HBX.out _ rfl) (by simp; omega) (by omega) ?_))
              intro v2 w7 ho7 hg7
              have HO7 : Hid (w7.ownsRow w.heap.size 105 2 v2 (k2 + 1) (hbRw (ys.take (k2 + 1)))) := by rw [Hid, HTN.out]; exact ho7
              have HB7 : Hid (Below w.heap.size w w7) := (HBA.out (.cells #[.int .i64 y.t.key, .slice y.A y.t.n y.c] 105)).grown hg7 (by simp; omega) fun q hq => ((HOA.out (.cells #[.int .i64 y.t.key, .slice y.A y.t.n y.c] 105)).lt q hq).1
              have HM7 : Hid (w7.ownsMap Tryz.prog 2 relRw w.heap.size k D1) := by
                refine ownsMap_block6 (HMA.out (.cells #[.int .i64 y.t.key, .slice y.A y.t.n y.c] 105)) (hg7.block _ (by simp; omega) ?_)
                obtain ⟨es, clock, hmb, _⟩ := HMA.out (.cells #[.int .i64 y.t.key, .slice y.A y.t.n y.c] 105)
                exact row_ne (HOA.out (.cells #[.int .i64 y.t.key, .slice y.A y.t.n y.c] 105)) hmb (fun cur e => by cases e)
              have HS7 : Hid (w7.ownsRow w.heap.size 2 1 (.slice (some ⟨g, 0, none⟩) m sc) m (klRw ys)) := by
                refine ownsRow_of (HSA.out (.cells #[.int .i64 y.t.key, .slice y.A y.t.n y.c] 105)) fun q hq => ?_
                have hqb := (HSA.out (.cells #[.int .i64 y.t.key, .slice y.A y.t.n y.c] 105)).lt q hq
                refine hg7.block q hqb.2 ?_
                rcases (HSA.out (.cells #[.int .i64 y.t.key, .slice y.A y.t.n y.c] 105)).2 with ⟨e0, _⟩ | ⟨g2, c2, cur2, e2, _, hgb, _⟩
                · cases e0
                · injection e2 with e2
                  injection e2 with e2
                  injection e2 with e3
                  subst e3
                  simp only [Value.ownBlock, Option.some.injEq] at hq
                  subst hq
                  exact row_ne (HOA.out (.cells #[.int .i64 y.t.key, .slice y.A y.t.n y.c] 105)) hgb (fun cur e => by injection e with _ e; exact absurd e (by decide))
              clear ho7 hg7 HOA HSA HMA HBA HBX hgk hlook
              go_wp2_with fail
              go_roundw
              case rel => exact ⟨k2 + 1, hlt, by go_num, HB7, HM7, HS7, HO7⟩
              case measure => simp [intOf]; omega
            · have hkn : k2 = m := by omega
              have hnl : ¬ ((k2 : Int) < (m : Int)) := by omega
              have h9 := HO.out
              rw [hkn, ← HM.out, List.take_length] at h9
              rw [HM.out] at h9
              have HF : Hid (World.ownsRow _ _ _ _ _ _ _) := h9
              clear h9
              clear HO HSR HMP
              go_wp2_with fail
              go_ret
              refine ⟨_, rfl, HB.out, ?_⟩
              rw [← HYS.out, HM.out]
              exact HF.out
        · intro x c kl yd yp w1 cnt1 hkey hlk hv hat hrg1 hlt hg1 hs1 hen
          obtain ⟨x2, ex, rfl, hwx⟩ := Maps.keyOf_int_inv Tryz.underlying2 hkey
          injection ex with _ ex
          subst ex
          have hy : yd = .held (valRw c) := by
            rw [relRw_val] at hv
            injection hv with hv
            injection hv with hv _
            exact hv.symm
          obtain ⟨x0, hx0, ek, ev⟩ := HL.out.who hlk (v := valRw c) (fun z => by rw [hat z, hy])
          have hnd := (valRw_inj ev).2
          injection ek with _ ek
          have HKL : Hid (x = keyRw x0) := ek
          have HX0 : Hid (x0 ∈ xs) := hx0
          have HND : Hid (needRw c = needRw x0) := hnd
          have HRG1 : Hid (w1.ranges Tryz.prog 2 relRw w.heap.size r k D1 (fun z => left z && !z.sameKey (.int .i64 x)) cnt1) := hrg1
          have HLT : Hid (cnt1 < cnt) := hlt
          have HB1 : Hid (Below w.heap.size w w1) := HB.out.grown hg1 HB.out.size (fun j hj => by cases hj; exact Nat.le_of_lt HRL.out)
          have HKY : Hid (keyOf Tryz.prog 2 (.int .i64 x) = some (.int .i64 x)) := hkey
          unfold valRw at hen ⊢
          clear hkey hlk hv hat hrg1 hlt hg1 hs1 hwx hy hx0 ek ev hnd
          have HBX : Hid (∀ o : Obj, o = .cells #[.int .i64 c.t.key, .slice c.A c.t.n c.c] 105 → CRw (w1.alloc o) w1.heap.size 0 c.t c.A c.c) := by
            rintro o rfl
            simp [CRw, go_sem]
          have HRA : Hid (∀ o : Obj, (w1.alloc o).ranges Tryz.prog 2 relRw w.heap.size r k D1 (fun z => left z && !z.sameKey (.int .i64 x)) cnt1) := fun o => HRG1.out.alloc o
          have HBA : Hid (∀ o : Obj, Below w.heap.size w (w1.alloc o)) := fun o => below_then HB1.out (below_new _ _)
          obtain hm | hm := (by cases needRw c <;> simp : needRw c = true ∨ needRw c = false)
          · have HLF : Hid (MapLf keyRw valRw needRw D1 (fun z => left z && !z.sameKey (.int .i64 x)) xs) := by
              rw [Hid, HKL.out]
              exact HL.out.keep HX0.out (by rw [← HND.out]; exact hm)
            have HCN : Hid (∀ u, Calls Tryz.prog 93 #[.agg #[.int .i64 c.t.key, .slice c.A c.t.n c.c]] u fun e w' => e = .returned (.bool true) ∧ Below u.heap.size u w') := fun u => by
              have := needRw_any c u
              rwa [hm] at this
            clear hm
            go_wp2_with (first | (go_at_call 93; refine (HCN.out _).mono ?_; rintro e w6 ⟨rfl, hb6⟩))
            have HR6 : Hid (w6.ranges Tryz.prog 2 relRw w.heap.size r k D1 (fun z => left z && !z.sameKey (.int .i64 x)) cnt1) := (HRA.out _).kept (grown_none hb6) (by simp) (by simp)
            have HB6 : Hid (Below w.heap.size w w6) := below_then (HBA.out _) hb6
            go_roundw
            case rel => exact ⟨_, _, _, HR6, HLF, HB6⟩
            case measure => rw [HR6.out.left_eq, HRG.out.left_eq]; exact HLT.out
          · have HLF : Hid (MapLf keyRw valRw needRw (D1.del (.int .i64 x)) (fun z => left z && !z.sameKey (.int .i64 x)) xs) := by
              rw [Hid, HKL.out]
              exact HL.out.drop HX0.out (by rw [← HND.out]; exact hm) (fun y hy e => HRI.out.one HX0.out hy e)
            have HCN : Hid (∀ u, Calls Tryz.prog 93 #[.agg #[.int .i64 c.t.key, .slice c.A c.t.n c.c]] u fun e w' => e = .returned (.bool false) ∧ Below u.heap.size u w') := fun u => by
              have := needRw_any c u
              rwa [hm] at this
            clear hm
            go_wp2_with (first | (go_at_call 93; refine (HCN.out _).mono ?_; rintro e w6 ⟨rfl, hb6⟩; have HR6 : Hid (w6.ranges Tryz.prog 2 relRw w.heap.size r k D1 (fun z => left z && !z.sameKey (.int .i64 x)) cnt1) := (HRA.out _).kept (grown_none hb6) (by simp) (by simp); have HB6 : Hid (Below w.heap.size w w6) := below_then (HBA.out _) hb6; clear hb6) | (at_delete; refine wpList_delete_ranges _ rfl _ _ 167 2 rfl 105 keysI6 Tryz.underlying167 _ w.heap.size r k _ _ _ rfl HR6.out _ _ rfl HKY.out ?_; intro w7 cnt7 hrg7 hle7 ht7; go_frame))
            rw [Maps.strike_twice] at hrg7
            have HR7 : Hid (w7.ranges Tryz.prog 2 relRw w.heap.size r k (D1.del (.int .i64 x)) (fun z => left z && !z.sameKey (.int .i64 x)) cnt7) := hrg7
            have HB7 : Hid (Below w.heap.size w w7) := HB6.out.grown ht7.grown HB6.out.size (fun j hj => by cases hj; exact Nat.le_refl _)
            go_roundw
            case rel => exact ⟨_, _, _, HR7, HLF, HB7⟩
            case measure => rw [HR7.out.left_eq, HRG.out.left_eq]; have := HLT.out; omega
theorem keyTx_any (x : HTx) (w : World) :
    Calls Tryz.prog 95 #[.agg #[.int .i64 x.t.id, .int .i64 x.t.am, .int .i64 x.t.st, .int .i64 x.t.dn, .slice x.A x.t.n x.c]] w fun e w' => e = .returned (.int .i64 (keyTx x)) ∧ Below w.heap.size w w' := by
  go_enter Tryz.func95, Tryz.ntmps95
  go_wp2_with fail
  go_ret
  exact ⟨rfl, below_new _ _⟩
theorem needTx_any (x : HTx) (w : World) :
    Calls Tryz.prog 78 #[.agg #[.int .i64 x.t.id, .int .i64 x.t.am, .int .i64 x.t.st, .int .i64 x.t.dn, .slice x.A x.t.n x.c]] w fun e w' => e = .returned (.bool (needTx x)) ∧ Below w.heap.size w w' := by
  go_enter Tryz.func78, Tryz.ntmps78
  go_wp2_with fail
  go_ret
  exact ⟨by simp [needTx], below_new _ _⟩
def NeTx (xs : List HTx) (w : World) (e : Ending) (w' : World) : Prop := ∃ v, e = .returned v ∧ Below w.heap.size w w' ∧ w'.ownsRow w.heap.size 64 5 v (xs.filter needTx).length (hbTx (xs.filter needTx))
theorem zeroTx (w : World) : (zeroValue 64).run Tryz.prog w = .ok (valTx ⟨zTx, none, 0, 0, 0⟩) w := by kernel_rfl
theorem lookTx {w : World} {b n : Nat} {D : DataW Value} {ys : List HTx} (h : w.ownsMap Tryz.prog 2 relTx b n D) (hD : MapOf keyTx valTx D ys) {y : HTx} (hy : y ∈ ys) (hw : (Lit.int .i64 (keyTx y)).wf = true) :
    (Instr.lookup 172 (.map (some b)) (.int .i64 (keyTx y)) false).run Tryz.prog w = .ok (.agg #[.int .i64 y.t.id, .int .i64 y.t.am, .int .i64 y.t.st, .int .i64 y.t.dn, .slice y.A y.t.n y.c]) w := by
  obtain ⟨v, ps, hrun, hv⟩ := h.lookup keysI6 Tryz.underlying172 (zeroTx w) (relTx_val _) (keyOf_int_mk Tryz.underlying2 hw)
  rw [(hD.2.1 y hy).2] at hv
  obtain ⟨x, rfl, e⟩ := relTx_inv hv
  simp only [Prod.mk.injEq, DataW.held.injEq] at e
  rw [← e.1] at hrun
  exact hrun
set_option maxHeartbeats 16000000 in
theorem neededTx_any (xs : List HTx) (n : Nat) (a : Option Addr) (cap : Nat) (w : World) (hn : xs.length = n) (hle : n ≤ 100) (hri : RiTx xs) (hwf : ∀ x ∈ xs, (Lit.int .i64 (keyTx x)).wf = true) (h : HAtTx w a xs) :
    Calls Tryz.prog 94 #[.slice a n cap, .func (.func 95) #[] #[], .func (.func 78) #[] #[]] w (NeTx xs w) := by
  have HX : Hid (HAtTx w a xs) := h
  have HN : Hid (xs.length = n) := hn
  have HRI : Hid (RiTx xs) := hri
  have HWW : Hid (∀ x ∈ xs, (Lit.int .i64 (keyTx x)).wf = true) := hwf
  have hmm := @run_makeMap Tryz.prog
  clear h hn hri hwf
  go_enter Tryz.func94, Tryz.ntmps94
  go_wp2_with fail
  clear hmm
  go_loopw [9, 18] (fun _ i wr => ∃ k : Nat, k ≤ n ∧ i = .int .i64 k ∧ Hid (Below w.heap.size w wr) ∧ w.heap.size < wr.heap.size ∧ ∃ D : DataW Value, Hid (wr.ownsMap Tryz.prog 2 relTx w.heap.size k D) ∧ Hid (MapOf keyTx valTx D (xs.take k))) (fun _ i _ => n - (intOf i).toNat)
  case atStart => exact ⟨0, Nat.zero_le _, rfl, (Below.refl _ _).alloc (Nat.le_refl _) _, by simp, .map [], World.ownsMap_made _ _ _ _, by rw [List.take_zero]; exact MapOf.nil⟩
  case round =>
    obtain ⟨k, hk, rfl, HB, hsz, D, HM, HD⟩ := hrel
    by_cases hlt : k < n
    · have hlt' : (k : Int) < (n : Int) := by omega
      have hk0 : (0 : Int) ≤ (k : Int) := by omega
      obtain ⟨x, hx⟩ : ∃ x, xs[k]? = some x := ⟨_, List.getElem?_eq_getElem (by rw [HN.out]; exact hlt)⟩
      have HXK : Hid (xs[k]? = some x) := hx
      have HWF : Hid ((Lit.int .i64 (keyTx x)).wf = true) := HWW.out x (List.mem_of_getElem? hx)
      have HD2 : Hid (MapOf keyTx valTx (D.put (.int .i64 (keyTx x)) (.held (valTx x))) (xs.take (k + 1))) := by
        rw [Hid, take_next hx]
        exact HD.out.snoc x (HRI.out.fresh hx)
      rcases HX.out.below HB.out with h | ⟨b, off, rfl, hl, hc⟩
      · rw [h] at hx; simp at hx
      obtain ⟨q0, q1, q2, q3, q4⟩ := hc k x hx
      have HBX : Hid (∀ o : Obj, o = .cells #[.int .i64 x.t.id, .int .i64 x.t.am, .int .i64 x.t.st, .int .i64 x.t.dn, .slice x.A x.t.n x.c] 64 → CTx (wr.alloc o) wr.heap.size 0 x.t x.A x.c) := by
        rintro o rfl
        simp [CTx, go_sem]
      clear hc hx
      go_upto_region 5 with fail
      have hbx := HBX.out _ rfl
      obtain ⟨W1, hW1⟩ : ∃ y, y = wr.alloc (.cells #[.int .i64 x.t.id, .int .i64 x.t.am, .int .i64 x.t.st, .int .i64 x.t.dn, .slice x.A x.t.n x.c] 64) := ⟨_, rfl⟩
      rw [← hW1] at hbx ⊢
      have hBn : Below wr.heap.size wr W1 := by rw [hW1]; exact below_new _ _
      have HBW1 : Hid (Below w.heap.size w W1) := below_then HB.out hBn
      have hs1 : w.heap.size < W1.heap.size := by have := hBn.size; omega
      have HM1 : Hid (W1.ownsMap Tryz.prog 2 relTx w.heap.size k D) := ownsMap_block6 HM.out (hBn.block _ hsz)
      have hBW : w.heap.size < W1.heap.size := hs1
      clear hW1 hBn q0 q1 q2 q3 q4 HBX HB HM
      obtain ⟨q0, q1, q2, q3, q4⟩ := hbx
      rw [Nat.zero_add] at q1 q2 q3 q4
      · clear HD
        refine wp_region_E 5 (S := fun u => Below W1.heap.size W1 u) (by kernel_rfl) ((Below.refl _ _).drew) (fun hS => ?_)
        obtain ⟨u0, hu0⟩ : ∃ y, y = W1.drew := ⟨_, rfl⟩
        rw [← hu0] at hS ⊢
        clear hu0
        refine wpAnyE_takeD (L := 5) (i := 0) (v := .map (some w.heap.size)) (some 22) rfl rfl (by kernel_rfl) (by kernel_rfl) (by kernel_rfl) (by kernel_rfl) (fun _ _ _ h => h) (Or.inl ⟨by kernel_rfl, by intro u hSu; go_simp⟩) hS ?_
        try simp only [Act.put, List.setIfInBounds_toArray, List.set_cons_zero, List.set_cons_succ]
        refine wpAnyE_takeD (L := 5) (i := 1) (v := .func (.func 95) #[] #[]) (some 23) rfl rfl (by kernel_rfl) (by kernel_rfl) (by kernel_rfl) (by kernel_rfl) (fun _ _ _ h => h) (Or.inl ⟨by kernel_rfl, by intro u hSu; go_simp⟩) hS ?_
        try simp only [Act.put, List.setIfInBounds_toArray, List.set_cons_zero, List.set_cons_succ]
        refine wpAnyE_takeD (L := 5) (i := 2) (v := .agg #[.int .i64 x.t.id, .int .i64 x.t.am, .int .i64 x.t.st, .int .i64 x.t.dn, .slice x.A x.t.n x.c]) (some 24) rfl rfl (by kernel_rfl) (by kernel_rfl) (by kernel_rfl) (by kernel_rfl) (fun _ _ _ h => h) (Or.inl ⟨by kernel_rfl, by intro u hSu; have gq0 := cell_below q0 hSu; have gq1 := cell_below q1 hSu; have gq2 := cell_below q2 hSu; have gq3 := cell_below q3 hSu; have gq4 := cell_below q4 hSu; go_simp⟩) hS ?_
        try simp only [Act.put, List.setIfInBounds_toArray, List.set_cons_zero, List.set_cons_succ]
        refine wpAnyE_takeD (L := 5) (i := 4) (v := .agg #[.int .i64 x.t.id, .int .i64 x.t.am, .int .i64 x.t.st, .int .i64 x.t.dn, .slice x.A x.t.n x.c]) (some 26) rfl rfl (by kernel_rfl) (by kernel_rfl) (by kernel_rfl) (by kernel_rfl) (fun _ _ _ h => h) (Or.inl ⟨by kernel_rfl, by intro u hSu; have gq0 := cell_below q0 hSu; have gq1 := cell_below q1 hSu; have gq2 := cell_below q2 hSu; have gq3 := cell_below q3 hSu; have gq4 := cell_below q4 hSu; go_simp⟩) hS ?_
        try simp only [Act.put, List.setIfInBounds_toArray, List.set_cons_zero, List.set_cons_succ]
        refine wpAnyE_ready (rs := [3]) (by kernel_rfl) (by simp) ?_
        refine AllReadyE.cons rfl (fun K9 hK => ?_) AllReadyE.nil
        go_simp
        refine (keyTx_any x _).mono ?_
        rintro e u1 ⟨rfl, hbu⟩
        have HMu : Hid (u1.ownsMap Tryz.prog 2 relTx w.heap.size k D) := ownsMap_block6 HM1.out ((below_then hS hbu).block _ hBW)
        refine hK.out _ _ (below_then hS hbu) (fun hS9 => ?_)
        try simp only [Act.put, List.setIfInBounds_toArray, List.set_cons_zero, List.set_cons_succ]
        clear hK K9 hS hbu
        have hS := hS9
        clear hS9
        refine wpAnyE_ready (rs := [5]) (by kernel_rfl) (by simp) ?_
        refine AllReadyE.last rfl (fun K9 hK => ?_)
        have hzu := hS.size
        refine step_mapUp _ rfl (.tmp 22) (.tmp 25) (.tmp 26) 172 rfl rfl 64 Tryz.underlying172 relTx w.heap.size k D rfl HMu.out (by unfold maxLen; omega) _ _ _ rfl rfl (keyOf_int_mk Tryz.underlying2 HWF.out) _ [] (relTx_val x) (fun w3 hown3 hg3 => ?_)
        refine hK.out _ _ ?_
        have HB3 : Hid (Below w.heap.size w w3) := (below_then HBW1.out hS).grown hg3 (by omega) (fun j hj => by cases hj; exact Nat.le_refl _)
        have hs3 : w.heap.size < w3.heap.size := by have := hg3.size; omega
        have HM3 : Hid (w3.ownsMap Tryz.prog 2 relTx w.heap.size (k + 1) (D.put (.int .i64 (keyTx x)) (.held (valTx x)))) := hown3
        clear hK K9 hS hown3 hg3 HMu q0 q1 q2 q3 q4
        refine wpAnyE_done (by kernel_rfl) ?_ _
        go_simp
        go_wp2_with fail
        go_roundw
        case rel => exact ⟨k + 1, hlt, by go_num, HB3, hs3, _, HM3, HD2⟩
        case measure => simp [intOf]; omega
    · have hkn : k = n := by omega
      have hnl : ¬ ((k : Int) < (n : Int)) := by omega
      have HD0 : Hid (MapLf keyTx valTx needTx D (has D) xs) := by
        have h9 := HD.out
        rw [hkn, ← HN.out, List.take_length] at h9
        exact MapLf.start h9
      have hnk : k < maxLen := by unfold maxLen; omega
      have hk1 : k ≤ 100 := by omega
      have HKN : Hid (k = n) := hkn
      obtain ⟨w2, rfl⟩ : ∃ x, x = wr := ⟨wr, rfl⟩
      clear HD hkn
      go_wp2_with (first | (at_range; refine wpList_range_own _ rfl _ 172 rfl 2 64 keysI6 Tryz.underlying172 _ w.heap.size k _ rfl HM.out ?_; intro w0 hrg0 hg0 hs0))
      try go_frame
      obtain ⟨r, hr⟩ : ∃ r, r = w2.heap.size := ⟨_, rfl⟩
      rw [← hr] at hrg0 ⊢
      have HRL : Hid (w.heap.size < r) := by rw [Hid, hr]; exact hsz
      have HB0 : Hid (Below w.heap.size w w0) := HB.out.grown hg0 HB.out.size (fun j hj => by cases hj)
      have HRG0 : Hid (w0.ranges Tryz.prog 2 relTx w.heap.size r k D (has D) (Maps.size D)) := hrg0
      clear hrg0 hg0 hs0 hr HB HM hsz
      go_loopw [10, 11] (fun _ _ wr => ∃ (D : DataW Value) (left : Lit → Bool) (cnt : Nat), Hid (wr.ranges Tryz.prog 2 relTx w.heap.size r k D left cnt) ∧ Hid (MapLf keyTx valTx needTx D left xs) ∧ Hid (Below w.heap.size w wr)) (fun _ _ wr => wr.rangeLeft w.heap.size r)
      case atStart => exact ⟨_, _, _, HRG0, HD0, HB0⟩
      case round =>
        clear HD0 HB0 HRG0
        obtain ⟨D1, left, cnt, HRG, HL, HB⟩ := hrel
        go_wp2_with (first | (at_next; refine wpList_next_ranges _ rfl _ rfl 2 keysI6 relTx (Value.int .i64) valTx (fun key kl hkey => by obtain ⟨x, rfl, _⟩ := Maps.keyOf_int_inv Tryz.underlying2 hkey; exact ⟨x, rfl⟩) (fun v y hv => by obtain ⟨x, rfl, _⟩ := relTx_inv hv; exact ⟨x, rfl⟩) w.heap.size r k _ _ _ rfl HRG.out ?_ ?_))
        · intro _ hl0
          have HD3 : Hid (MapOf keyTx valTx D1 (xs.filter needTx)) := HL.out.last hl0
          have HM3 : Hid (wr.ownsMap Tryz.prog 2 relTx w.heap.size k D1) := HRG.out.owns
          have HR3 : Hid (RiTx (xs.filter needTx)) := HRI.out.filter _
          have HW3 : Hid (∀ x ∈ xs.filter needTx, (Lit.int .i64 (keyTx x)).wf = true) := fun x hx => HWW.out x (List.mem_filter.1 hx).1
          have hm3 : (xs.filter needTx).length ≤ 100 := by have := List.length_filter_le needTx xs; rw [HN.out] at this; omega
          obtain ⟨ys, hys⟩ : ∃ y, y = xs.filter needTx := ⟨_, rfl⟩
          rw [← hys] at HD3 HR3 HW3 hm3
          have HYS : Hid (ys = xs.filter needTx) := hys
          obtain ⟨m, hm⟩ : ∃ y, y = ys.length := ⟨_, rfl⟩
          rw [← hm] at hm3
          have HM : Hid (ys.length = m) := hm.symm
          obtain ⟨w3, rfl⟩ : ∃ x, x = wr := ⟨wr, rfl⟩
          clear hl0 HL HRG hys hm HRI HWW
          have hlt3 : w.heap.size < w3.heap.size := HM3.out.lt
          go_wp2_with (first | (go_at_call 136; refine (keysTx_any _ _).mono ?_; rintro e w4 ⟨rfl, rfl⟩) | (go_at_call 134; refine (sortedTx_any w3.heap.size w.heap.size k D1 _ ys (by simp) (by simp [go_sem]) (HM3.out.alloc _) hnk (by omega) HD3.out HR3.out).mono ?_; rintro e w5 ⟨v5, rfl, hb5, hr5⟩; obtain ⟨sa, sc, rfl⟩ := slTx_slice HM.out hr5))
          have HB5 : Hid (Below w.heap.size w w5) := below_then HB.out (below_then (below_new _ _) hb5)
          have HM5 : Hid (w5.ownsMap Tryz.prog 2 relTx w.heap.size k D1) := ownsMap_block6 HM3.out ((below_then (below_new _ _) hb5).block _ hlt3)
          have HR5 : Hid (w5.ownsRow w.heap.size 2 1 (.slice sa m sc) m (klTx ys)) := by
            have h9 := hr5
            rw [HM.out] at h9
            exact row_base h9 (by simp; omega)
          clear hb5 hr5 HB HM3
          go_loopw [12, 14, 45] (fun v _ i wr => ∃ k2 : Nat, k2 ≤ m ∧ i = .int .i64 k2 ∧ Hid (Below w.heap.size w wr) ∧ Hid (wr.ownsMap Tryz.prog 2 relTx w.heap.size k D1) ∧ Hid (wr.ownsRow w.heap.size 2 1 (.slice sa m sc) m (klTx ys)) ∧ Hid (wr.ownsRow w.heap.size 64 5 v k2 (hbTx (ys.take k2)))) (fun _ _ i _ => m - (intOf i).toNat)
          case atStart => exact ⟨0, Nat.zero_le _, rfl, HB5, HM5, HR5, World.ownsRow_nil _ _ _ _⟩
          case round =>
            clear HB5 HM5 HR5
            obtain ⟨k2, hk2, rfl, HB, HMP, HSR, HO⟩ := hrel
            have hszr : w.heap.size < wr.heap.size := HMP.out.lt
            by_cases hlt : k2 < m
            · have hlt' : (k2 : Int) < (m : Int) := by omega
              have hk0 : (0 : Int) ≤ (k2 : Int) := by omega
              obtain ⟨y, hy⟩ : ∃ y, ys[k2]? = some y := ⟨_, List.getElem?_eq_getElem (by rw [HM.out]; exact hlt)⟩
              obtain ⟨g, rfl, hg0, hgk⟩ := slTx_cell HSR.out hy hlt
              have hlook := lookTx HMP.out HD3.out (List.mem_of_getElem? hy) (HW3.out y (List.mem_of_getElem? hy))
              have HTN : Hid (ys.take (k2 + 1) = ys.take k2 ++ [y]) := take_next hy
              have HTL : Hid ((ys.take k2).length = k2) := by rw [Hid, List.length_take, HM.out]; omega
              have HBX : Hid (∀ o : Obj, o = .cells #[.int .i64 y.t.id, .int .i64 y.t.am, .int .i64 y.t.st, .int .i64 y.t.dn, .slice y.A y.t.n y.c] 64 → CTx (wr.alloc o) wr.heap.size 0 y.t y.A y.c) := by
                rintro o rfl
                simp [CTx, go_sem]
              have HOA : Hid (∀ o1 : Obj, (wr.alloc o1).ownsRow w.heap.size 64 5 _ k2 (hbTx (ys.take k2))) := fun o1 => own_belowI HO.out (below_new _ _)
              have HSA : Hid (∀ o1 : Obj, (wr.alloc o1).ownsRow w.heap.size 2 1 (.slice (some ⟨g, 0, none⟩) m sc) m (klTx ys)) := fun o1 => own_belowI HSR.out (below_new _ _)
              have HMA : Hid (∀ o1 : Obj, (wr.alloc o1).ownsMap Tryz.prog 2 relTx w.heap.size k D1) := fun o1 => HMP.out.alloc o1
              have HBA : Hid (∀ o1 : Obj, Below w.heap.size w (wr.alloc o1)) := fun o1 => below_then HB.out (below_new _ _)
              obtain ⟨kk, hkk⟩ : ∃ z, z = keyTx y := ⟨_, rfl⟩
              rw [← hkk] at hgk hlook
              clear hkk hy HO HSR HMP HB
              go_wp2_with (first | (at_builtin; refine wpList_appHTx _ rfl (.tmp 49) (.tmp 53) rfl w.heap.size _ k2 (ys.take k2) HTL.out rfl (HOA.out _) wr.heap.size 1 y rfl (HBX.out _ rfl) (by simp; omega) (by omega) ?_))
              intro v2 w7 ho7 hg7
              have HO7 : Hid (w7.ownsRow w.heap.size 64 5 v2 (k2 + 1) (hbTx (ys.take (k2 + 1)))) := by rw [Hid, HTN.out]; exact ho7
              have HB7 : Hid (Below w.heap.size w w7) := (HBA.out (.cells #[.int .i64 y.t.id, .int .i64 y.t.am, .int .i64 y.t.st, .int .i64 y.t.dn, .slice y.A y.t.n y.c] 64)).grown hg7 (by simp; omega) fun q hq => ((HOA.out (.cells #[.int .i64 y.t.id, .int .i64 y.t.am, .int .i64 y.t.st, .int .i64 y.t.dn, .slice y.A y.t.n y.c] 64)).lt q hq).1
              have HM7 : Hid (w7.ownsMap Tryz.prog 2 relTx w.heap.size k D1) := by
                refine ownsMap_block6 (HMA.out (.cells #[.int .i64 y.t.id, .int .i64 y.t.am, .int .i64 y.t.st, .int .i64 y.t.dn, .slice y.A y.t.n y.c] 64)) (hg7.block _ (by simp; omega) ?_)
                obtain ⟨es, clock, hmb, _⟩ := HMA.out (.cells #[.int .i64 y.t.id, .int .i64 y.t.am, .int .i64 y.t.st, .int .i64 y.t.dn, .slice y.A y.t.n y.c] 64)
                exact row_ne (HOA.out (.cells #[.int .i64 y.t.id, .int .i64 y.t.am, .int .i64 y.t.st, .int .i64 y.t.dn, .slice y.A y.t.n y.c] 64)) hmb (fun cur e => by cases e)
              have HS7 : Hid (w7.ownsRow w.heap.size 2 1 (.slice (some ⟨g, 0, none⟩) m sc) m (klTx ys)) := by
                refine ownsRow_of (HSA.out (.cells #[.int .i64 y.t.id, .int .i64 y.t.am, .int .i64 y.t.st, .int .i64 y.t.dn, .slice y.A y.t.n y.c] 64)) fun q hq => ?_
                have hqb := (HSA.out (.cells #[.int .i64 y.t.id, .int .i64 y.t.am, .int .i64 y.t.st, .int .i64 y.t.dn, .slice y.A y.t.n y.c] 64)).lt q hq
                refine hg7.block q hqb.2 ?_
                rcases (HSA.out (.cells #[.int .i64 y.t.id, .int .i64 y.t.am, .int .i64 y.t.st, .int .i64 y.t.dn, .slice y.A y.t.n y.c] 64)).2 with ⟨e0, _⟩ | ⟨g2, c2, cur2, e2, _, hgb, _⟩
                · cases e0
                · injection e2 with e2
                  injection e2 with e2
                  injection e2 with e3
                  subst e3
                  simp only [Value.ownBlock, Option.some.injEq] at hq
                  subst hq
                  exact row_ne (HOA.out (.cells #[.int .i64 y.t.id, .int .i64 y.t.am, .int .i64 y.t.st, .int .i64 y.t.dn, .slice y.A y.t.n y.c] 64)) hgb (fun cur e => by injection e with _ e; exact absurd e (by decide))
              clear ho7 hg7 HOA HSA HMA HBA HBX hgk hlook
              go_wp2_with fail
              go_roundw
              case rel => exact ⟨k2 + 1, hlt, by go_num, HB7, HM7, HS7, HO7⟩
              case measure => simp [intOf]; omega
            · have hkn : k2 = m := by omega
              have hnl : ¬ ((k2 : Int) < (m : Int)) := by omega
              have h9 := HO.out
              rw [hkn, ← HM.out, List.take_length] at h9
              rw [HM.out] at h9
              have HF : Hid (World.ownsRow _ _ _ _ _ _ _) := h9
              clear h9
              clear HO HSR HMP
              go_wp2_with fail
              go_ret
              refine ⟨_, rfl, HB.out, ?_⟩
              rw [← HYS.out, HM.out]
              exact HF.out
        · intro x c kl yd yp w1 cnt1 hkey hlk hv hat hrg1 hlt hg1 hs1 hen
          obtain ⟨x2, ex, rfl, hwx⟩ := Maps.keyOf_int_inv Tryz.underlying2 hkey
          injection ex with _ ex
          subst ex
          have hy : yd = .held (valTx c) := by
            rw [relTx_val] at hv
            injection hv with hv
            injection hv with hv _
            exact hv.symm
          obtain ⟨x0, hx0, ek, ev⟩ := HL.out.who hlk (v := valTx c) (fun z => by rw [hat z, hy])
          have hnd := (valTx_inj ev).2
          injection ek with _ ek
          have HKL : Hid (x = keyTx x0) := ek
          have HX0 : Hid (x0 ∈ xs) := hx0
          have HND : Hid (needTx c = needTx x0) := hnd
          have HRG1 : Hid (w1.ranges Tryz.prog 2 relTx w.heap.size r k D1 (fun z => left z && !z.sameKey (.int .i64 x)) cnt1) := hrg1
          have HLT : Hid (cnt1 < cnt) := hlt
          have HB1 : Hid (Below w.heap.size w w1) := HB.out.grown hg1 HB.out.size (fun j hj => by cases hj; exact Nat.le_of_lt HRL.out)
          have HKY : Hid (keyOf Tryz.prog 2 (.int .i64 x) = some (.int .i64 x)) := hkey
          unfold valTx at hen ⊢
          clear hkey hlk hv hat hrg1 hlt hg1 hs1 hwx hy hx0 ek ev hnd
          have HBX : Hid (∀ o : Obj, o = .cells #[.int .i64 c.t.id, .int .i64 c.t.am, .int .i64 c.t.st, .int .i64 c.t.dn, .slice c.A c.t.n c.c] 64 → CTx (w1.alloc o) w1.heap.size 0 c.t c.A c.c) := by
            rintro o rfl
            simp [CTx, go_sem]
          have HRA : Hid (∀ o : Obj, (w1.alloc o).ranges Tryz.prog 2 relTx w.heap.size r k D1 (fun z => left z && !z.sameKey (.int .i64 x)) cnt1) := fun o => HRG1.out.alloc o
          have HBA : Hid (∀ o : Obj, Below w.heap.size w (w1.alloc o)) := fun o => below_then HB1.out (below_new _ _)
          obtain hm | hm := (by cases needTx c <;> simp : needTx c = true ∨ needTx c = false)
          · have HLF : Hid (MapLf keyTx valTx needTx D1 (fun z => left z && !z.sameKey (.int .i64 x)) xs) := by
              rw [Hid, HKL.out]
              exact HL.out.keep HX0.out (by rw [← HND.out]; exact hm)
            have HCN : Hid (∀ u, Calls Tryz.prog 78 #[.agg #[.int .i64 c.t.id, .int .i64 c.t.am, .int .i64 c.t.st, .int .i64 c.t.dn, .slice c.A c.t.n c.c]] u fun e w' => e = .returned (.bool true) ∧ Below u.heap.size u w') := fun u => by
              have := needTx_any c u
              rwa [hm] at this
            clear hm
            go_wp2_with (first | (go_at_call 78; refine (HCN.out _).mono ?_; rintro e w6 ⟨rfl, hb6⟩))
            have HR6 : Hid (w6.ranges Tryz.prog 2 relTx w.heap.size r k D1 (fun z => left z && !z.sameKey (.int .i64 x)) cnt1) := (HRA.out _).kept (grown_none hb6) (by simp) (by simp)
            have HB6 : Hid (Below w.heap.size w w6) := below_then (HBA.out _) hb6
            go_roundw
            case rel => exact ⟨_, _, _, HR6, HLF, HB6⟩
            case measure => rw [HR6.out.left_eq, HRG.out.left_eq]; exact HLT.out
          · have HLF : Hid (MapLf keyTx valTx needTx (D1.del (.int .i64 x)) (fun z => left z && !z.sameKey (.int .i64 x)) xs) := by
              rw [Hid, HKL.out]
              exact HL.out.drop HX0.out (by rw [← HND.out]; exact hm) (fun y hy e => HRI.out.one HX0.out hy e)
            have HCN : Hid (∀ u, Calls Tryz.prog 78 #[.agg #[.int .i64 c.t.id, .int .i64 c.t.am, .int .i64 c.t.st, .int .i64 c.t.dn, .slice c.A c.t.n c.c]] u fun e w' => e = .returned (.bool false) ∧ Below u.heap.size u w') := fun u => by
              have := needTx_any c u
              rwa [hm] at this
            clear hm
            go_wp2_with (first | (go_at_call 78; refine (HCN.out _).mono ?_; rintro e w6 ⟨rfl, hb6⟩; have HR6 : Hid (w6.ranges Tryz.prog 2 relTx w.heap.size r k D1 (fun z => left z && !z.sameKey (.int .i64 x)) cnt1) := (HRA.out _).kept (grown_none hb6) (by simp) (by simp); have HB6 : Hid (Below w.heap.size w w6) := below_then (HBA.out _) hb6; clear hb6) | (at_delete; refine wpList_delete_ranges _ rfl _ _ 172 2 rfl 64 keysI6 Tryz.underlying172 _ w.heap.size r k _ _ _ rfl HR6.out _ _ rfl HKY.out ?_; intro w7 cnt7 hrg7 hle7 ht7; go_frame))
            rw [Maps.strike_twice] at hrg7
            have HR7 : Hid (w7.ranges Tryz.prog 2 relTx w.heap.size r k (D1.del (.int .i64 x)) (fun z => left z && !z.sameKey (.int .i64 x)) cnt7) := hrg7
            have HB7 : Hid (Below w.heap.size w w7) := HB6.out.grown ht7.grown HB6.out.size (fun j hj => by cases hj; exact Nat.le_refl _)
            go_roundw
            case rel => exact ⟨_, _, _, HR7, HLF, HB7⟩
            case measure => rw [HR7.out.left_eq, HRG.out.left_eq]; have := HLT.out; omega
end Go.Proofs.YtnhlcadipkmhhaaGreat
