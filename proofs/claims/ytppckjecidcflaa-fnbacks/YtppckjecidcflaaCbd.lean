/- impl.putsLeft. -/
import Derived.Test.YtppckjecidcflaaCbc
import Derived.Deep.MidRow
import Derived.Deep.WholeRow
namespace Go.Proofs.Ytppckjecidcflaa
open Go.RowKit Go.Deep
set_option linter.unusedVariables false
set_option maxRecDepth 20000

theorem zeroUndone : ∃ Z : Array Value, Z.size = 1001 ∧ (∀ i, i ≤ 1000 → Z[i]? = some (.bool false)) ∧ ∀ w, (zeroValue 95).run Try.prog w = .ok (.agg Z) w :=
  ⟨Array.replicate 1001 (.bool false), by simp, fun i hi => by rw [Array.getElem?_replicate, if_pos (by omega)], (zero_of_info (P := Try.prog) (n := 1001) (by kernel_rfl)).1⟩
/-- The program's list under way: the array's block, what is left. -/
structure Pl4 (w wr : World) (v : Value) (gs bs : List Int) : Prop where
  below : Below w.heap.size w wr
  size : w.heap.size + 1 ≤ wr.heap.size
  u : ∀ x : Nat, x ≤ 1000 → wr.cell? ⟨w.heap.size, x, none⟩ = some (.bool (decide ((x : Int) ∈ gs)))
  f : ∀ i, wr.frozen? ⟨w.heap.size, i, none⟩ = false
  own : wr.ownsRow (w.heap.size + 1) 2 1 v bs.length (il bs)
theorem Pl4.alloc {w wr : World} {v : Value} {gs bs : List Int} (h : Pl4 w wr v gs bs) (c : Array Value) (t : TypeId) : Pl4 w (wr.alloc (.cells c t)) v gs bs := by
  have hs := h.size
  exact ⟨below_then h.below (below_new _ _), by simp; omega, fun x hx => cell_alloc (h.u x hx) _, fun i => by rw [frozen?_alloc_cells]; exact h.f i, ownI_keep h.own fun q hq => Below.heap_alloc _ _ _ (ownI_lt h.own q hq).2⟩
theorem Pl4.undo {w wr : World} {v : Value} {gs bs : List Int} (h : Pl4 w wr v gs bs) (B : Nat) : Pl4 w (wr.setCell ⟨w.heap.size, B, none⟩ (.bool true)) v (gs ++ [(B : Int)]) bs := by
  have hs := h.size
  have hw : Writes w.heap.size (w.heap.size + 1) wr (wr.setCell ⟨w.heap.size, B, none⟩ (.bool true)) := Writes.setCell (Writes.refl _ _ _) (p := ⟨w.heap.size, B, none⟩) (Nat.le_refl _) (Nat.lt_succ_self _) _
  refine ⟨Writes.below h.below hw (Nat.le_refl _), Nat.le_trans hs hw.size, fun x hx => ?_, fun i => by rw [World.frozen?_setCell]; exact h.f i, ownI_keep h.own fun q hq => hw.block q (ownI_lt h.own q hq).2 (.inr (ownI_lt h.own q hq).1)⟩
  by_cases e : x = B
  · subst e
    rw [setS (h.u x hx)]
    simp
  · rw [setO (by omega), h.u x hx]
    congr 2
    have : (x : Int) ≠ (B : Int) := by omega
    simp [this]
theorem Pl4.put {w wr w3 : World} {v v3 : Value} {gs bs cs : List Int} (h : Pl4 w wr v gs bs) (hg : wr.grownBy w3 v.ownBlock) (ho : w3.ownsRow (w.heap.size + 1) 2 1 v3 cs.length (il cs)) : Pl4 w w3 v3 gs cs := by
  have hs := h.size
  have hb : w3.heap[w.heap.size]? = wr.heap[w.heap.size]? := hg.block _ (by omega) fun e => by have := (ownI_lt h.own _ e.symm).1; omega
  exact ⟨h.below.grown hg (by omega) fun q hq => by have := (ownI_lt h.own q hq).1; omega, Nat.le_trans hs hg.size, fun x hx => (World.cell?_of_block (w := wr) (a := ⟨w.heap.size, x, none⟩) hb).trans (h.u x hx), fun i => (World.frozen?_of_block (w := wr) (a := ⟨w.heap.size, i, none⟩) hb).trans (h.f i), ho⟩
set_option maxHeartbeats 4000000 in
theorem putsLeft_any (n : Nat) (R : Nat → Rc) (a : Option Addr) (cap : Nat) (txn : Int) (w : World) (hn : n ≤ 400) (hb : ∀ i, i < n → 0 ≤ (R i).bk ∧ (R i).bk ≤ 1000) (h : RecsAt w a n R) :
    Calls Try.prog 44 #[.slice a n cap, .int .i64 txn] w (IAns (bkL R txn n n) w) := by
  have HA : Hid (RecsAt w a n R) := h
  have HBK : Hid (∀ i, i < n → 0 ≤ (R i).bk ∧ (R i).bk ≤ 1000) := hb
  have hw1 : IntKind.i64.wrap ((n : Int) - 1) = (n : Int) - 1 := by rw [IntKind.wrap_i64]; omega
  obtain ⟨Z, hZs, hZc, hzero⟩ := zeroUndone
  have H0 : Hid (∀ t : TypeId, Pl4 w (w.alloc (.cells Z t)) (.slice none 0 0) [] []) := fun t => by
    refine ⟨below_new _ _, by simp, fun x hx => ?_, fun i => by simp [go_sem], World.ownsRow_nil _ _ _ _⟩
    have := hZc x hx
    simp [go_sem, this]
  clear h hb hZc
  go_enter Try.func44, Try.ntmps44
  go_wp2_with fail
  clear hzero
  go_loopw [6, 7, 8, 9] (fun v i _ _ wr => ∃ j : Nat, j ≤ n ∧ i = .int .i64 ((n : Int) - 1 - j) ∧ Hid (Pl4 w wr v (gnL R txn n j) (bkL R txn n j))) (fun _ i _ _ _ => (intOf i + 1).toNat)
  case atStart => exact ⟨0, Nat.zero_le _, by go_num, H0.out _⟩
  case round =>
    clear H0 hw1
    obtain ⟨j, hj, rfl, HT⟩ := hrel
    by_cases hlt : j < n
    · have hie : (n : Int) - 1 - j = ((n - 1 - j : Nat) : Int) := by omega
      have hnum : IntKind.i64.wrap (((n - 1 - j : Nat) : Int) + 1) = ((n - j : Nat) : Int) := by rw [IntKind.wrap_i64]; omega
      have hsub : IntKind.i64.wrap (((n - 1 - j : Nat) : Int) - 1) = (n : Int) - 1 - ((j + 1 : Nat) : Int) := by rw [IntKind.wrap_i64]; omega
      rcases HA.out.below HT.out.below with h | ⟨b, off, rfl, hl, hc⟩
      · omega
      obtain ⟨x0, x1, x2, x3, x4, x5, x6, x7⟩ := hc (n - 1 - j) (by omega)
      have HG1 : Hid (gnL R txn n (j + 1) = if (R (n - 1 - j)).t = txn ∧ (R (n - 1 - j)).k = 5 then gnL R txn n j ++ [(R (n - 1 - j)).bk] else gnL R txn n j) := rfl
      have HG2 : Hid (bkL R txn n (j + 1) = if (R (n - 1 - j)).t = txn ∧ (R (n - 1 - j)).k = 2 ∧ ((n - j : Nat) : Int) ∉ gnL R txn n j then bkL R txn n j ++ [((n - j : Nat) : Int)] else bkL R txn n j) := rfl
      have hbl := bkL_len R txn n j
      have hbk := HBK.out (n - 1 - j) (by omega)
      rw [hie]
      have hi0' : (0 : Int) ≤ ((n - 1 - j : Nat) : Int) := by omega
      have hi1' : ((n - 1 - j : Nat) : Int) < (n : Int) := by omega
      have HJ : Hid (n - 1 - j < n ∧ j < n) := ⟨by omega, hlt⟩
      have HI : Hid (((n - 1 - j : Nat) : Int) = (n : Int) - 1 - j) := by show _ = _; omega
      have HNM : Hid (n - j ≤ 1000) := by show _ ≤ _; omega
      have HLB : Hid ((bkL R txn n j).length ≤ 100000) := by show _ ≤ _; omega
      have HSZ : Hid (w.heap.size + 1 ≤ wr.heap.size) := HT.out.size
      have HTA : Hid (∀ c t, Pl4 w (wr.alloc (.cells c t)) _ (gnL R txn n j) (bkL R txn n j)) := fun c t => HT.out.alloc c t
      have HTB : Hid (∀ c t c' t', Pl4 w ((wr.alloc (.cells c t)).alloc (.cells c' t')) _ (gnL R txn n j) (bkL R txn n j)) := fun c t c' t' => (HT.out.alloc c t).alloc c' t'
      clear hc hie
      generalize n - 1 - j = i at *
      generalize R i = r at *
      by_cases ht : r.t = txn
      · have ht2 : (r.t != txn) = false := by simp [ht]
        by_cases hk5 : r.k = 5
        · have e1 : gnL R txn n (j + 1) = gnL R txn n j ++ [r.bk] := by rw [HG1.out, if_pos ⟨ht, hk5⟩]
          have e2 : bkL R txn n (j + 1) = bkL R txn n j := by rw [HG2.out, if_neg (fun x => by have := x.2.1; omega)]
          obtain ⟨B, hB⟩ : ∃ B : Nat, r.bk = (B : Int) := ⟨r.bk.toNat, by omega⟩
          have hB1 : B ≤ 1000 := by omega
          have h5 : (r.k == 5) = true := by simp [hk5]
          have h2 : (r.k == 2) = false := by simp [hk5]
          have uB := fun c t => (HTA.out c t).u B hB1
          have uF := fun c t => (HTA.out c t).f
          have hne1 : w.heap.size ≠ wr.heap.size := by have := HSZ.out; omega
          have hne2 : wr.heap.size ≠ w.heap.size := by have := HSZ.out; omega
          have hne3 : ¬ (wr.heap.size = w.heap.size) := hne2
          have hne4 : ¬ (w.heap.size = wr.heap.size) := hne1
          have hB2 : (B : Int) < 1001 := by omega
          have hB3 : (0 : Int) ≤ (B : Int) := by omega
          rw [hB] at x7 e1
          have HT2 : Hid (∀ c t, Pl4 w ((wr.alloc (.cells c t)).setCell ⟨w.heap.size, B, none⟩ (.bool true)) _ (gnL R txn n (j + 1)) (bkL R txn n (j + 1))) := fun c t => by rw [e1, e2]; exact (HTA.out c t).undo B
          clear ht hk5 e1 e2 HG1 HG2 hbk
          go_wp2_with fail
          go_roundw
          case rel => exact ⟨j + 1, HJ.out.2, by first | go_num | (rw [hsub]), HT2.out _ _⟩
          case measure => have := HI.out; simp [intOf]; omega
        · have e1 : gnL R txn n (j + 1) = gnL R txn n j := by rw [HG1.out, if_neg (fun x => hk5 x.2)]
          have h5 : (r.k == 5) = false := by simp [hk5]
          by_cases hk2 : r.k = 2
          · have h2 : (r.k == 2) = true := by simp [hk2]
            have uN := fun c t => (HTA.out c t).u (n - j) HNM.out
            have hN2 : ((n - j : Nat) : Int) < 1001 := by have := HNM.out; omega
            have hN3 : (0 : Int) ≤ ((n - j : Nat) : Int) := by omega
            by_cases hm : ((n - j : Nat) : Int) ∈ gnL R txn n j
            · have e2 : bkL R txn n (j + 1) = bkL R txn n j := by rw [HG2.out, if_neg (fun x => x.2.2 hm)]
              have HT2 : Hid (∀ c t, Pl4 w (wr.alloc (.cells c t)) _ (gnL R txn n (j + 1)) (bkL R txn n (j + 1))) := fun c t => by rw [e1, e2]; exact HTA.out c t
              simp only [decide_eq_true hm] at uN
              clear ht hk5 hk2 hm e1 e2 HG1 HG2
              generalize n - j = num at *
              go_wp2_with fail
              go_roundw
              case rel => exact ⟨j + 1, HJ.out.2, by first | go_num | (rw [hsub]), HT2.out _ _⟩
              case measure => have := HI.out; simp [intOf]; omega
            · have e2 : bkL R txn n (j + 1) = bkL R txn n j ++ [((n - j : Nat) : Int)] := by rw [HG2.out, if_pos ⟨ht, hk2, hm⟩]
              have HE1 : Hid (gnL R txn n (j + 1) = gnL R txn n j) := e1
              have HE2 : Hid (bkL R txn n (j + 1) = bkL R txn n j ++ [((n - j : Nat) : Int)]) := e2
              simp only [decide_eq_false hm] at uN
              clear ht hk5 hk2 hm e1 e2 HG1 HG2
              generalize n - j = num at *
              go_wp2_with (at_builtin; refine wpList_appIL _ rfl (.tmp 42) (.tmp 44) rfl (w.heap.size + 1) _ (bkL R txn n j) rfl (HTB.out _ _ _ _).own (wr.heap.size + 1) 0 1 (num : Int) rfl (by simp [go_sem]) (by have := HSZ.out; simp; omega) HLB.out ?_)
              intro g gcap w3 ho3 hg3 hl3 hlt3
              have el : (bkL R txn n j ++ [(num : Int)]).length = (bkL R txn n j).length + 1 := by simp
              rw [← el] at ho3
              have HT3 : Hid (Pl4 w w3 (.slice (some ⟨g, 0, none⟩) (bkL R txn n j ++ [(num : Int)]).length gcap) (gnL R txn n (j + 1)) (bkL R txn n (j + 1))) := by
                rw [HE1.out, HE2.out]
                exact (HTB.out _ _ _ _).put hg3 ho3
              clear ho3 hg3 hl3 hlt3 x0 x1 x2 x3 x4 x5 x6 x7 uN el
              go_wp2_with fail
              go_roundw
              case rel => exact ⟨j + 1, HJ.out.2, by first | go_num | (rw [hsub]), by first | exact HT3 | (have h := HT3.out; simp only [List.length_append, List.length_cons, List.length_nil, Nat.zero_add] at h; exact h)⟩
              case measure => have := HI.out; simp [intOf]; omega
          · have e2 : bkL R txn n (j + 1) = bkL R txn n j := by rw [HG2.out, if_neg (fun x => hk2 x.2.1)]
            have HT2 : Hid (∀ c t, Pl4 w (wr.alloc (.cells c t)) _ (gnL R txn n (j + 1)) (bkL R txn n (j + 1))) := fun c t => by rw [e1, e2]; exact HTA.out c t
            have h2 : (r.k == 2) = false := by simp [hk2]
            clear ht hk5 hk2 e1 e2 HG1 HG2
            go_wp2_with fail
            go_roundw
            case rel => exact ⟨j + 1, HJ.out.2, by first | go_num | (rw [hsub]), HT2.out _ _⟩
            case measure => have := HI.out; simp [intOf]; omega
      · have e1 : gnL R txn n (j + 1) = gnL R txn n j := by rw [HG1.out, if_neg (fun x => ht x.1)]
        have e2 : bkL R txn n (j + 1) = bkL R txn n j := by rw [HG2.out, if_neg (fun x => ht x.1)]
        have HT2 : Hid (∀ c t, Pl4 w (wr.alloc (.cells c t)) _ (gnL R txn n (j + 1)) (bkL R txn n (j + 1))) := fun c t => by rw [e1, e2]; exact HTA.out c t
        have ht2 : (r.t != txn) = true := by simp [ht]
        clear ht e1 e2 HG1 HG2
        go_wp2_with fail
        go_roundw
        case rel => exact ⟨j + 1, HJ.out.2, by first | go_num | (rw [hsub]), HT2.out _ _⟩
        case measure => have := HI.out; simp [intOf]; omega
    · have hjn : j = n := by omega
      subst hjn
      have hnl : ¬ ((0 : Int) ≤ (j : Int) - 1 - j) := by omega
      have HF : Hid (IAns (bkL R txn j j) w (.returned _) wr) := ⟨_, rfl, HT.out.below, by
        obtain ⟨k1, k2 | ⟨g, cp, cur, k3, k4, k5⟩⟩ := HT.out.own
        · exact ⟨k1, .inl k2⟩
        · exact ⟨k1, .inr ⟨g, cp, cur, k3, by omega, k5⟩⟩⟩
      go_wp2_with fail
      go_ret
      exact HF.out
end Go.Proofs.Ytppckjecidcflaa
