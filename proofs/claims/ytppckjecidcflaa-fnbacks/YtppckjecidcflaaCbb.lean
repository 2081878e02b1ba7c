/- spec.l3Back. -/
import Derived.Test.YtppckjecidcflaaCba
namespace Go.Proofs.Ytppckjecidcflaa
open Go.RowKit Go.Deep
set_option linter.unusedVariables false
set_option maxRecDepth 20000

/-- An answer that is a list of numbers. -/
def IAns (zs : List Int) (w : World) (e : Ending) (w' : World) : Prop := ∃ v, e = .returned v ∧ Below w.heap.size w w' ∧ w'.ownsRow w.heap.size 2 1 v zs.length (il zs)
theorem rowI_shape {w : World} {base : Nat} {v : Value} {zs : List Int} (h : w.ownsRow base 2 1 v zs.length (il zs)) : ∃ a cap, v = .slice a zs.length cap ∧ IntsAt w a zs.length (zI zs) := by
  obtain ⟨a, cap, e, ho⟩ := ownI_of_row h
  exact ⟨a, cap, e, ho.at⟩
theorem litI (w0 : World) (z : Int) (X : Nat) (hX : w0.heap.size = X) : (w0.alloc (.cells #[.int .i64 z] 2)).cell? ⟨X, 0, none⟩ = some (.int .i64 z) := by subst hX; simp [go_sem]
theorem lit8 {w0 : World} {X : Nat} (r : Rc) (hX : w0.heap.size = X) : C8 (w0.alloc (.cells #[.int .i64 r.k, .int .i64 r.t, .int .i64 r.key, .bool r.hd, .int .i64 r.old, .bool r.hs, .int .i64 r.nw, .int .i64 r.bk] 33)) X 0 r := by
  subst hX
  exact ⟨by simp [go_sem], by simp [go_sem], by simp [go_sem], by simp [go_sem], by simp [go_sem], by simp [go_sem], by simp [go_sem], by simp [go_sem]⟩
theorem two_start (w : World) : TwoI w.heap.size ((w.alloc (.cells #[] 2)).alloc (.cells #[] 2)) (.slice (some ⟨w.heap.size, 0, none⟩) 0 0) (.slice (some ⟨w.heap.size + 1, 0, none⟩) 0 0) [] [] := by
  refine ⟨?_, ?_, fun q hq hq2 => ?_⟩
  · refine ownI_keep (World.ownsRow_made w #[] 0 (Nat.le_refl _) (by unfold maxLen; omega) rfl) fun q hq => ?_
    simp only [Value.ownBlock, Option.some.injEq] at hq
    subst hq
    exact Below.heap_alloc _ _ _ (by rw [World.size_alloc]; omega)
  · have h := World.ownsRow_made (w.alloc (.cells #[] 2)) #[] (e := 2) (size := 1) (base := w.heap.size) 0 (by rw [World.size_alloc]; omega) (by unfold maxLen; omega) rfl
    rw [World.size_alloc] at h
    exact h
  · simp only [Value.ownBlock, Option.some.injEq] at hq hq2
    omega
set_option maxHeartbeats 8000000 in
theorem l3Back_any (n : Nat) (R : Nat → Rc) (a : Option Addr) (cap : Nat) (txn : Int) (w : World) (hn : n ≤ 400) (h : RecsAt w a n R) :
    Calls Try.prog 41 #[.slice a n cap, .int .i64 txn] w (IAns (bkL R txn n n) w) := by
  have HA : Hid (RecsAt w a n R) := h
  have H0 : Hid (TwoI w.heap.size ((w.alloc (.cells #[] 2)).alloc (.cells #[] 2)) (.slice (some ⟨w.heap.size, 0, none⟩) 0 0) (.slice (some ⟨w.heap.size + 1, 0, none⟩) 0 0) [] []) := two_start w
  have hw1 : IntKind.i64.wrap ((n : Int) - 1) = (n : Int) - 1 := by rw [IntKind.wrap_i64]; omega
  clear h
  go_enter Try.func41, Try.ntmps41
  go_wp2_with fail
  go_loopw [5, 6, 7, 8] (fun vg vo i _ wr => ∃ j : Nat, j ≤ n ∧ i = .int .i64 ((n : Int) - 1 - j) ∧ Hid (Below w.heap.size w wr) ∧ Hid (TwoI w.heap.size wr vg vo (gnL R txn n j) (bkL R txn n j))) (fun _ _ i _ _ => (intOf i + 1).toNat)
  case atStart => exact ⟨0, Nat.zero_le _, by go_num, (below_then (below_new _ _) (below_new _ _)), H0⟩
  case round =>
    clear H0 hw1
    obtain ⟨j, hj, rfl, HB, HT⟩ := hrel
    by_cases hlt : j < n
    · have hi0 : (0 : Int) ≤ (n : Int) - 1 - j := by omega
      have hi1 : (n : Int) - 1 - j < (n : Int) := by omega
      have hie : (n : Int) - 1 - j = ((n - 1 - j : Nat) : Int) := by omega
      have hnum : IntKind.i64.wrap (((n - 1 - j : Nat) : Int) + 1) = ((n - j : Nat) : Int) := by rw [IntKind.wrap_i64]; omega
      have hsub : IntKind.i64.wrap (((n - 1 - j : Nat) : Int) - 1) = (n : Int) - 1 - ((j + 1 : Nat) : Int) := by rw [IntKind.wrap_i64]; omega
      rcases HA.out.below HB.out with h | ⟨b, off, rfl, hl, hc⟩
      · omega
      obtain ⟨x0, x1, x2, x3, x4, x5, x6, x7⟩ := hc (n - 1 - j) (by omega)
      have HG1 : Hid (gnL R txn n (j + 1) = if (R (n - 1 - j)).t = txn ∧ (R (n - 1 - j)).k = 5 then gnL R txn n j ++ [(R (n - 1 - j)).bk] else gnL R txn n j) := rfl
      have HG2 : Hid (bkL R txn n (j + 1) = if (R (n - 1 - j)).t = txn ∧ (R (n - 1 - j)).k = 2 ∧ ((n - j : Nat) : Int) ∉ gnL R txn n j then bkL R txn n j ++ [((n - j : Nat) : Int)] else bkL R txn n j) := rfl
      have hgl := gnL_len R txn n j
      have hbl := bkL_len R txn n j
      rw [hie]
      have hi0' : (0 : Int) ≤ ((n - 1 - j : Nat) : Int) := by omega
      have hi1' : ((n - 1 - j : Nat) : Int) < (n : Int) := by omega
      have HJ : Hid (n - 1 - j < n ∧ j < n) := ⟨by omega, hlt⟩
      have HI : Hid (((n - 1 - j : Nat) : Int) = (n : Int) - 1 - j) := by show _ = _; omega
      obtain ⟨ga, gc, rfl, hga⟩ := rowI_shape HT.out.1
      obtain ⟨oa, oc, rfl, -⟩ := rowI_shape HT.out.2.1
      have HGA : Hid (∀ o : Obj, IntsAt (wr.alloc o) ga (gnL R txn n j).length (zI (gnL R txn n j))) := fun o => hga.below (below_new _ _)
      have HOA : Hid (∀ o1 o2 : Obj, TwoI w.heap.size ((wr.alloc o1).alloc o2) (.slice ga (gnL R txn n j).length gc) (.slice oa (bkL R txn n j).length oc) (gnL R txn n j) (bkL R txn n j)) := fun o1 o2 => (HT.out.below (below_new _ _)).below (below_new _ _)
      have HBA : Hid (∀ o1 o2 : Obj, Below w.heap.size w ((wr.alloc o1).alloc o2)) := fun o1 o2 => below_then (below_then HB.out (below_new _ _)) (below_new _ _)
      have HSZ : Hid (w.heap.size ≤ wr.heap.size) := HB.out.size
      have HGB : Hid (∀ q, (Value.slice ga (gnL R txn n j).length gc).ownBlock = some q → w.heap.size ≤ q ∧ q < wr.heap.size) := ownI_lt HT.out.1
      have HOB : Hid (∀ q, (Value.slice oa (bkL R txn n j).length oc).ownBlock = some q → w.heap.size ≤ q ∧ q < wr.heap.size) := ownI_lt HT.out.2.1
      clear hga
      clear hc hi0 hi1 hie
      generalize n - 1 - j = i at *
      generalize R i = r at *
      by_cases ht : r.t = txn
      · have ht2 : (r.t != txn) = false := by simp [ht]
        have HLG : Hid ((gnL R txn n j).length ≤ 100000) := by show _ ≤ _; omega
        have HLB : Hid ((bkL R txn n j).length ≤ 100000) := by show _ ≤ _; omega
        by_cases hk5 : r.k = 5
        · have e1 : gnL R txn n (j + 1) = gnL R txn n j ++ [r.bk] := by rw [HG1.out, if_pos ⟨ht, hk5⟩]
          have e2 : bkL R txn n (j + 1) = bkL R txn n j := by rw [HG2.out, if_neg (fun x => by have := x.2.1; omega)]
          have HE1 : Hid (gnL R txn n (j + 1) = gnL R txn n j ++ [r.bk]) := e1
          have HE2 : Hid (bkL R txn n (j + 1) = bkL R txn n j) := e2
          have h5 : (r.k == 5) = true := by simp [hk5]
          have h2 : (r.k == 2) = false := by simp [hk5]
          have HC0 : Hid (∀ o1 o2 : Obj, ∀ w3, ((wr.alloc o1).alloc o2).grownBy w3 (Value.slice ga (gnL R txn n j).length gc).ownBlock → o1 = .cells #[.int .i64 r.k, .int .i64 r.t, .int .i64 r.key, .bool r.hd, .int .i64 r.old, .bool r.hs, .int .i64 r.nw, .int .i64 r.bk] 33 → w3.cell? ⟨wr.heap.size, 0, none⟩ = some (.int .i64 r.k) ∧ Below w.heap.size w w3) := by
            rintro o1 o2 w3 hg rfl
            refine ⟨?_, (HBA.out _ _).grown hg (by have := HSZ.out; simp; omega) fun q hq => (HGB.out q hq).1⟩
            rw [World.cell?_of_block (a := ⟨wr.heap.size, 0, none⟩) (hg.block wr.heap.size (by simp; omega) (fun e => by have := (HGB.out _ e.symm).2; omega))]
            simp [go_sem]
          clear ht hk5 e1 e2 HG1 HG2
          go_wp2_with (at_builtin; refine wpList_appIL _ rfl (.tmp 29) (.tmp 32) rfl w.heap.size _ (gnL R txn n j) rfl (HOA.out _ _).1 (wr.heap.size + 1) 0 1 r.bk rfl (by simp [go_sem]) (by have := HSZ.out; simp; omega) HLG.out ?_)
          intro g gcap w3 ho3 hg3 hl3 hlt3
          obtain ⟨z0, hB3⟩ := HC0.out _ _ w3 hg3 rfl
          have HB3 : Hid (Below w.heap.size w w3) := hB3
          have HT3 : Hid (TwoI w.heap.size w3 (.slice (some ⟨g, 0, none⟩) (gnL R txn n j ++ [r.bk]).length gcap) (.slice oa (bkL R txn n j).length oc) (gnL R txn n (j + 1)) (bkL R txn n (j + 1))) := by
            rw [HE1.out, HE2.out]
            have el : (gnL R txn n j ++ [r.bk]).length = (gnL R txn n j).length + 1 := by simp
            rw [← el] at ho3
            exact (HOA.out _ _).grow1 hg3 ho3 (hl3.imp_right fun e => by rw [e]; simp)
          clear ho3 hg3 hl3 hlt3 hB3 x0 x1 x2 x3 x4 x5 x6 x7
          go_wp2_with fail
          go_roundw
          case rel => exact ⟨j + 1, HJ.out.2, by first | go_num | (rw [hsub]), HB3, by first | exact HT3 | (have h := HT3.out; simp only [List.length_append, List.length_cons, List.length_nil, Nat.zero_add] at h; exact h)⟩
          case measure => have := HI.out; simp [intOf]; omega
        · have e1 : gnL R txn n (j + 1) = gnL R txn n j := by rw [HG1.out, if_neg (fun x => hk5 x.2)]
          have h5 : (r.k == 5) = false := by simp [hk5]
          by_cases hk2 : r.k = 2
          · have h2 : (r.k == 2) = true := by simp [hk2]
            by_cases hm : ((n - j : Nat) : Int) ∈ gnL R txn n j
            · have e2 : bkL R txn n (j + 1) = bkL R txn n j := by rw [HG2.out, if_neg (fun x => x.2.2 hm)]
              have HT2 : Hid (∀ o : Obj, TwoI w.heap.size (wr.alloc o) (.slice ga (gnL R txn n j).length gc) (.slice oa (bkL R txn n j).length oc) (gnL R txn n (j + 1)) (bkL R txn n (j + 1))) := fun o => by rw [e1, e2]; exact HT.out.below (below_new _ _)
              have HB2 : Hid (∀ o : Obj, Below w.heap.size w (wr.alloc o)) := fun o => below_then HB.out (below_new _ _)
              have hd : decide (((n - j : Nat) : Int) ∈ gnL R txn n j) = true := decide_eq_true hm
              clear ht hk5 hk2 hm e1 e2 HG1 HG2
              go_wp2_with (first | (go_at_call 65; refine (l1Has_any (gnL R txn n j) ga gc ((n - j : Nat) : Int) _ HLG.out (HGA.out _)).mono ?_; rintro e w' ⟨rfl, hw'⟩; rw [hw', hd]; clear hw'))
              go_roundw
              case rel => exact ⟨j + 1, HJ.out.2, by first | go_num | (rw [hsub]), HB2.out _, HT2.out _⟩
              case measure => have := HI.out; simp [intOf]; omega
            · have e2 : bkL R txn n (j + 1) = bkL R txn n j ++ [((n - j : Nat) : Int)] := by rw [HG2.out, if_pos ⟨ht, hk2, hm⟩]
              have HE1 : Hid (gnL R txn n (j + 1) = gnL R txn n j) := e1
              have HE2 : Hid (bkL R txn n (j + 1) = bkL R txn n j ++ [((n - j : Nat) : Int)]) := e2
              have hd : decide (((n - j : Nat) : Int) ∈ gnL R txn n j) = false := decide_eq_false hm
              clear ht hk5 hk2 hm e1 e2 HG1 HG2
              generalize ((n - j : Nat) : Int) = num at *
              go_wp2_with (first | (go_at_call 65; refine (l1Has_any (gnL R txn n j) ga gc num _ HLG.out (HGA.out _)).mono ?_; rintro e w' ⟨rfl, hw'⟩; rw [hw', hd]; clear hw') | (at_builtin; refine wpList_appIL _ rfl (.tmp 44) (.tmp 47) rfl w.heap.size _ (bkL R txn n j) rfl (HOA.out _ _).2.1 (wr.heap.size + 1) 0 1 num rfl (by simp [go_sem]) (by have := HSZ.out; simp; omega) HLB.out ?_))
              intro g gcap w3 ho3 hg3 hl3 hlt3
              have HB3 : Hid (Below w.heap.size w w3) := (HBA.out _ _).grown hg3 (by have := HSZ.out; simp; omega) fun q hq => (HOB.out q hq).1
              have HT3 : Hid (TwoI w.heap.size w3 (.slice ga (gnL R txn n j).length gc) (.slice (some ⟨g, 0, none⟩) (bkL R txn n j ++ [num]).length gcap) (gnL R txn n (j + 1)) (bkL R txn n (j + 1))) := by
                rw [HE1.out, HE2.out]
                have el : (bkL R txn n j ++ [num]).length = (bkL R txn n j).length + 1 := by simp
                rw [← el] at ho3
                exact (HOA.out _ _).grow2 hg3 ho3 (hl3.imp_right fun e => by rw [e]; simp)
              clear ho3 hg3 hl3 hlt3 x0 x1 x2 x3 x4 x5 x6 x7
              go_wp2_with fail
              go_roundw
              case rel => exact ⟨j + 1, HJ.out.2, by first | go_num | (rw [hsub]), HB3, by first | exact HT3 | (have h := HT3.out; simp only [List.length_append, List.length_cons, List.length_nil, Nat.zero_add] at h; exact h)⟩
              case measure => have := HI.out; simp [intOf]; omega
          · have e2 : bkL R txn n (j + 1) = bkL R txn n j := by rw [HG2.out, if_neg (fun x => hk2 x.2.1)]
            have HT2 : Hid (∀ o : Obj, TwoI w.heap.size (wr.alloc o) (.slice ga (gnL R txn n j).length gc) (.slice oa (bkL R txn n j).length oc) (gnL R txn n (j + 1)) (bkL R txn n (j + 1))) := fun o => by rw [e1, e2]; exact HT.out.below (below_new _ _)
            have HB2 : Hid (∀ o : Obj, Below w.heap.size w (wr.alloc o)) := fun o => below_then HB.out (below_new _ _)
            have h2 : (r.k == 2) = false := by simp [hk2]
            clear ht hk5 hk2 e1 e2 HG1 HG2
            go_wp2_with fail
            go_roundw
            case rel => exact ⟨j + 1, HJ.out.2, by first | go_num | (rw [hsub]), HB2.out _, HT2.out _⟩
            case measure => have := HI.out; simp [intOf]; omega
      · have e1 : gnL R txn n (j + 1) = gnL R txn n j := by rw [HG1.out, if_neg (fun x => ht x.1)]
        have e2 : bkL R txn n (j + 1) = bkL R txn n j := by rw [HG2.out, if_neg (fun x => ht x.1)]
        have HT2 : Hid (∀ o : Obj, TwoI w.heap.size (wr.alloc o) _ _ (gnL R txn n (j + 1)) (bkL R txn n (j + 1))) := fun o => by rw [e1, e2]; exact HT.out.below (below_new _ _)
        have HB2 : Hid (∀ o : Obj, Below w.heap.size w (wr.alloc o)) := fun o => below_then HB.out (below_new _ _)
        have ht2 : (r.t != txn) = true := by simp [ht]
        clear ht e1 e2 HG1 HG2
        go_wp2_with fail
        go_roundw
        case rel => exact ⟨j + 1, HJ.out.2, by first | go_num | (rw [hsub]), HB2.out _, HT2.out _⟩
        case measure => have := HI.out; simp [intOf]; omega
    · have hjn : j = n := by omega
      subst hjn
      have hnl : ¬ ((0 : Int) ≤ (j : Int) - 1 - j) := by omega
      have HF : Hid (IAns (bkL R txn j j) w (.returned _) wr) := ⟨_, rfl, HB.out, HT.out.2.1⟩
      go_wp2_with fail
      go_ret
      exact HF.out
end Go.Proofs.Ytppckjecidcflaa
