/- spec.l6Set: a row put in. -/
import Derived.Test.YtjdodbiphijjgaaGreatQRlb
import Derived.Test.YtjdodbiphijjgaaGreatQRse
namespace Go.Proofs.YtjdodbiphijjgaaGreat
open Go.RowKit Go.Deep
set_option linter.unusedVariables false
set_option linter.unusedSimpArgs false
set_option maxRecDepth 20000

/-- The rows behind the first k of them were gone through. -/
def stN (xs : List HRw) (p : Nat) (y : HRw) (k : Nat) : List HRw := if k ≤ p then xs.take k else xs.take p ++ y :: (xs.take k).drop p
theorem stN_last {xs : List HRw} {p : Nat} {y : HRw} (h : p < xs.length) : stN xs p y xs.length = skH false p y xs := by
  unfold stN skH
  rw [if_neg (by omega), List.take_length]
  rfl
theorem stN_all {xs : List HRw} {y : HRw} : stN xs xs.length y xs.length ++ [y] = skH false xs.length y xs := by
  unfold stN skH
  rw [if_pos (Nat.le_refl _), List.take_length]
  simp
theorem stN_at {xs : List HRw} {p : Nat} {y x : HRw} (hx : xs[p]? = some x) : stN xs p y (p + 1) = (stN xs p y p ++ [y]) ++ [x] := by
  have hk : p < xs.length := (List.getElem?_eq_some_iff.1 hx).1
  have hl : (xs.take p).length = p := by rw [List.length_take]; omega
  unfold stN
  rw [if_neg (by omega), if_pos (Nat.le_refl _), take_next hx, List.drop_append, hl, Nat.sub_self]
  simp
theorem stN_other {xs : List HRw} {p k : Nat} {y x : HRw} (hx : xs[k]? = some x) (hne : k ≠ p) : stN xs p y (k + 1) = stN xs p y k ++ [x] := by
  have hk : k < xs.length := (List.getElem?_eq_some_iff.1 hx).1
  unfold stN
  by_cases c : k < p
  · rw [if_pos (by omega), if_pos (by omega)]
    exact take_next hx
  · have e1 : ¬ (k + 1 ≤ p) := by omega
    have e2 : ¬ (k ≤ p) := by omega
    simp only [e1, e2, if_false]
    rw [take_next hx, List.drop_append_of_le_length (by simp; omega)]
    simp
theorem stN_len {xs : List HRw} {p k : Nat} {y : HRw} : (stN xs p y k).length ≤ k + 1 := by
  unfold stN
  split
  · have := List.length_take_le k xs; omega
  · have h1 := List.length_take_le k xs
    have h2 := List.length_take_le p xs
    simp; omega
def SeN (f : Bool) (B : Nat) (xs : List HRw) (p : Nat) (y : HRw) (w : World) (e : Ending) (w' : World) : Prop := e = .returned (.tuple #[]) ∧ ∃ v u, Below w.heap.size w u ∧ w' = u.setCell ⟨B, 3, none⟩ v ∧ u.ownsRow w.heap.size 173 2 v (skH f p y xs).length (hbRw (skH f p y xs))
set_option maxHeartbeats 8000000 in
theorem l6SetN_any (B : Nat) (xs : List HRw) (y : HRw) (p q : Nat) (ra : Option Addr) (rc : Nat) (w : World) (hq : xs.length = q) (hle : q ≤ 32) (c3 : w.cell? ⟨B, 3, none⟩ = some (.slice ra q rc)) (f3 : w.frozen? ⟨B, 3, none⟩ = false) (hat : HAtRw w ra xs) (hpq : p ≤ q) (hlo : ∀ i x, xs[i]? = some x → i < p → x.t.key < y.t.key) (hhi : ∀ i x, xs[i]? = some x → p ≤ i → y.t.key < x.t.key) (hn0 : y.t.n ≠ 0) :
    Calls Tryz.prog 115 #[.pointer (some ⟨B, 0, none⟩), .int .i64 y.t.key, .slice y.A y.t.n y.c] w (SeN false B xs p y w) := by
  have hBl : B < w.heap.size := Go.block_lt_of_cell c3
  have HC3 : Hid (w.cell? ⟨B, 3, none⟩ = some (.slice ra q rc)) := c3
  have HF3 : Hid (w.frozen? ⟨B, 3, none⟩ = false) := f3
  have HX : Hid (HAtRw w ra xs) := hat
  have HQ : Hid (xs.length = q) := hq
  have HLO : Hid (∀ i x, xs[i]? = some x → i < p → x.t.key < y.t.key) := hlo
  have HHI : Hid (∀ i x, xs[i]? = some x → p ≤ i → y.t.key < x.t.key) := hhi
  have HI : Hid ((w.alloc (.cells #[] 173)).ownsRow w.heap.size 173 2 (.slice (some ⟨w.heap.size, 0, none⟩) 0 0) 0 []) := World.ownsRow_made w #[] 0 (Nat.le_refl _) (by unfold maxLen; omega) rfl
  have hd0 : ((y.t.n : Int) == 0) = false := by simp [hn0]
  clear c3 f3 hat hq hlo hhi hn0
  go_enter Tryz.func115, Tryz.ntmps115
  go_wp2_with fail
  go_loopw [6, 7, 8] (fun v d i wr => ∃ k : Nat, k ≤ q ∧ i = .int .i64 k ∧ Hid (d = .bool (decide (p < k))) ∧ ∃ m, Hid ((stN xs p y k).length = m) ∧ Hid (Below w.heap.size w wr) ∧ Hid (wr.ownsRow w.heap.size 173 2 v m (hbRw (stN xs p y k)))) (fun _ _ i _ => q - (Go.RowKit.intOf i).toNat)
  case atStart => exact ⟨0, Nat.zero_le _, rfl, by rw [Hid]; simp, 0, by simp [Hid, stN], below_new _ _, by rw [Hid, show stN xs p y 0 = [] by simp [stN]]; exact HI.out⟩
  case round =>
    clear HI hd0
    obtain ⟨k, hk, rfl, HD, m, HM, HB, HO⟩ := hrel
    have hsz := HB.out.size
    have hm9 : m ≤ 33 := by have h9 := stN_len (xs := xs) (p := p) (k := k) (y := y); rw [HM.out] at h9; omega
    have c3 := cell_below HC3.out HB.out
    by_cases hlt : k < q
    · have hlt' : (k : Int) < (q : Int) := by omega
      have hk0 : (0 : Int) ≤ (k : Int) := by omega
      obtain ⟨x, hx⟩ : ∃ x, xs[k]? = some x := ⟨_, List.getElem?_eq_getElem (by rw [HQ.out]; exact hlt)⟩
      rcases HX.out.below HB.out with h | ⟨b, off, rfl, hl, hcc⟩
      · rw [h] at hx; simp at hx
      obtain ⟨z0, z1⟩ := hcc k x hx
      clear hcc
      by_cases hkp : k = p
      · subst hkp
        have hgt : y.t.key < x.t.key := HHI.out k x hx (Nat.le_refl _)
        have heq : (x.t.key == y.t.key) = false := by simp; omega
        have HSTT : Hid (stN xs k y (k + 1) = (stN xs k y k ++ [y]) ++ [x]) := stN_at hx
        have HDN : Hid (.bool true = (.bool (decide (k < k + 1)) : Value)) := by simp [Hid]
        have HXX : Hid (xs[k]? = some x) := hx
        obtain ⟨L1, hL1⟩ : ∃ l, l = stN xs k y k ++ [y] := ⟨_, rfl⟩
        rw [← hL1] at HSTT
        have HST : Hid (L1 = stN xs k y k ++ [y]) := hL1
        clear hL1
        have hD := HD.out
        rw [show decide (k < k) = false by simp] at hD
        subst hD
        clear HD hx
        have HOA : Hid (∀ o1 : Obj, (wr.alloc o1).ownsRow w.heap.size 173 2 _ m (hbRw (stN xs k y k))) := fun o1 => own_belowI HO.out (below_new _ _)
        have HBX : Hid (∀ o : Obj, o = .cells #[.int .i64 y.t.key, .slice y.A y.t.n y.c] 173 → CRw (wr.alloc o) wr.heap.size 0 y.t y.A y.c) := by
          rintro o rfl
          simp [CRw, go_sem]
        have HBA : Hid (∀ o1 : Obj, Below w.heap.size w (wr.alloc o1)) := fun o1 => below_then HB.out (below_new _ _)
        clear HO HB
        go_wp2_with (first | (at_builtin; refine wpList_appHRw _ rfl (.tmp 36) (.tmp 40) rfl w.heap.size _ m (stN xs k y k) HM.out rfl (HOA.out _) wr.heap.size 1 y rfl (HBX.out _ rfl) (by simp; omega) (by omega) ?_))
        intro v2 w3 ho3 hg3
        have HO3 : Hid (w3.ownsRow w.heap.size 173 2 v2 (m + 1) (hbRw L1)) := by rw [Hid, HST.out]; exact ho3
        have HM3 : Hid ((L1).length = m + 1) := by rw [Hid, HST.out]; simp [HM.out]
        have HB3 : Hid (Below w.heap.size w w3) := (HBA.out (.cells #[.int .i64 y.t.key, .slice y.A y.t.n y.c] 173)).grown hg3 (by simp; omega) fun q9 hq9 => ((HOA.out (.cells #[.int .i64 y.t.key, .slice y.A y.t.n y.c] 173)).lt q9 hq9).1
        clear ho3 hg3 HOA HBX HBA
        have hsz3 := HB3.out.size
        rcases HX.out.below HB3.out with h9 | ⟨b9, off9, e9, hl9, hcc9⟩
        · have := HXX.out; rw [h9] at this; simp at this
        cases e9
        obtain ⟨y0, y1⟩ := hcc9 k x HXX.out
        have c39 := cell_below HC3.out HB3.out
        have HO := HO3
        have HB := HB3
        have HM := HM3
        have HST : Hid (stN xs k y (k + 1) = L1 ++ [x]) := HSTT.out
        clear hcc9 HXX HSTT HO3 HB3 HM3 z0 z1 c3
        generalize hm1 : m + 1 = m1 at *
        have hm33 : m1 ≤ 34 := by omega
        clear hm9 hm1
        have HOA : Hid (∀ o1 : Obj, (w3.alloc o1).ownsRow w.heap.size 173 2 _ m1 (hbRw L1)) := fun o1 => own_belowI HO.out (below_new _ _)
        have HBX : Hid (∀ o : Obj, o = .cells #[.int .i64 x.t.key, .slice x.A x.t.n x.c] 173 → CRw (w3.alloc o) w3.heap.size 0 x.t x.A x.c) := by
          rintro o rfl
          simp [CRw, go_sem]
        have HBA : Hid (∀ o1 : Obj, Below w.heap.size w (w3.alloc o1)) := fun o1 => below_then HB.out (below_new _ _)
        clear HO HB
        go_wp2_with (first | (at_builtin; refine wpList_appHRw _ rfl (.tmp 60) (.tmp 68) rfl w.heap.size _ m1 L1 HM.out rfl (HOA.out _) w3.heap.size 1 x rfl (HBX.out _ rfl) (by simp; omega) (by omega) ?_))
        intro v2 w5 ho3 hg3
        have HO3 : Hid (w5.ownsRow w.heap.size 173 2 v2 (m1 + 1) (hbRw (stN xs k y (k + 1)))) := by rw [Hid, HST.out]; exact ho3
        have HM3 : Hid (((stN xs k y (k + 1))).length = m1 + 1) := by rw [Hid, HST.out]; simp [HM.out]
        have HB3 : Hid (Below w.heap.size w w5) := (HBA.out (.cells #[.int .i64 x.t.key, .slice x.A x.t.n x.c] 173)).grown hg3 (by simp; omega) fun q9 hq9 => ((HOA.out (.cells #[.int .i64 x.t.key, .slice x.A x.t.n x.c] 173)).lt q9 hq9).1
        clear ho3 hg3 HOA HBX HBA
        go_wp2_with fail
        go_roundw
        case rel => exact ⟨k + 1, hlt, by go_num, HDN, _, HM3, HB3, HO3⟩
        case measure => simp [Go.RowKit.intOf]; omega
      · have hne : x.t.key ≠ y.t.key := by
          rcases Nat.lt_or_ge k p with c | c
          · have := HLO.out k x hx c; omega
          · have := HHI.out k x hx c; omega
        have heq : (x.t.key == y.t.key) = false := by simp [hne]
        have HST : Hid (stN xs p y (k + 1) = stN xs p y k ++ [x]) := stN_other hx hkp
        have hdn : decide (p < k) = decide (p < k + 1) := by simp only [decide_eq_decide]; omega
        have HDN : Hid (.bool (decide (p < k)) = (.bool (decide (p < k + 1)) : Value)) := by rw [Hid, hdn]
        by_cases hd : p < k
        · have hD := HD.out
          rw [show decide (p < k) = true by simp [hd]] at hD HDN
          subst hD
          clear hd HD hx hne hdn
          have HOA : Hid (∀ o1 : Obj, (wr.alloc o1).ownsRow w.heap.size 173 2 _ m (hbRw (stN xs p y k))) := fun o1 => own_belowI HO.out (below_new _ _)
          have HBX : Hid (∀ o : Obj, o = .cells #[.int .i64 x.t.key, .slice x.A x.t.n x.c] 173 → CRw (wr.alloc o) wr.heap.size 0 x.t x.A x.c) := by
            rintro o rfl
            simp [CRw, go_sem]
          have HBA : Hid (∀ o1 : Obj, Below w.heap.size w (wr.alloc o1)) := fun o1 => below_then HB.out (below_new _ _)
          clear HO HB
          go_wp2_with (first | (at_builtin; refine wpList_appHRw _ rfl (.tmp 60) (.tmp 68) rfl w.heap.size _ m (stN xs p y k) HM.out rfl (HOA.out _) wr.heap.size 1 x rfl (HBX.out _ rfl) (by simp; omega) (by omega) ?_))
          intro v2 w3 ho3 hg3
          have HO3 : Hid (w3.ownsRow w.heap.size 173 2 v2 (m + 1) (hbRw (stN xs p y (k + 1)))) := by rw [Hid, HST.out]; exact ho3
          have HM3 : Hid (((stN xs p y (k + 1))).length = m + 1) := by rw [Hid, HST.out]; simp [HM.out]
          have HB3 : Hid (Below w.heap.size w w3) := (HBA.out (.cells #[.int .i64 x.t.key, .slice x.A x.t.n x.c] 173)).grown hg3 (by simp; omega) fun q9 hq9 => ((HOA.out (.cells #[.int .i64 x.t.key, .slice x.A x.t.n x.c] 173)).lt q9 hq9).1
          clear ho3 hg3 HOA HBX HBA
          go_wp2_with fail
          go_roundw
          case rel => exact ⟨k + 1, hlt, by go_num, HDN, _, HM3, HB3, HO3⟩
          case measure => simp [Go.RowKit.intOf]; omega
        · have hgt : ¬ (y.t.key < x.t.key) := by
            have := HLO.out k x hx (by omega)
            omega
          have hD := HD.out
          rw [show decide (p < k) = false by simp; omega] at hD HDN
          subst hD
          clear hd HD hx hne hdn
          have HOA : Hid (∀ o1 : Obj, (wr.alloc o1).ownsRow w.heap.size 173 2 _ m (hbRw (stN xs p y k))) := fun o1 => own_belowI HO.out (below_new _ _)
          have HBX : Hid (∀ o : Obj, o = .cells #[.int .i64 x.t.key, .slice x.A x.t.n x.c] 173 → CRw (wr.alloc o) wr.heap.size 0 x.t x.A x.c) := by
            rintro o rfl
            simp [CRw, go_sem]
          have HBA : Hid (∀ o1 : Obj, Below w.heap.size w (wr.alloc o1)) := fun o1 => below_then HB.out (below_new _ _)
          clear HO HB
          go_wp2_with (first | (at_builtin; refine wpList_appHRw _ rfl (.tmp 60) (.tmp 68) rfl w.heap.size _ m (stN xs p y k) HM.out rfl (HOA.out _) wr.heap.size 1 x rfl (HBX.out _ rfl) (by simp; omega) (by omega) ?_))
          intro v2 w3 ho3 hg3
          have HO3 : Hid (w3.ownsRow w.heap.size 173 2 v2 (m + 1) (hbRw (stN xs p y (k + 1)))) := by rw [Hid, HST.out]; exact ho3
          have HM3 : Hid (((stN xs p y (k + 1))).length = m + 1) := by rw [Hid, HST.out]; simp [HM.out]
          have HB3 : Hid (Below w.heap.size w w3) := (HBA.out (.cells #[.int .i64 x.t.key, .slice x.A x.t.n x.c] 173)).grown hg3 (by simp; omega) fun q9 hq9 => ((HOA.out (.cells #[.int .i64 x.t.key, .slice x.A x.t.n x.c] 173)).lt q9 hq9).1
          clear ho3 hg3 HOA HBX HBA
          go_wp2_with fail
          go_roundw
          case rel => exact ⟨k + 1, hlt, by go_num, HDN, _, HM3, HB3, HO3⟩
          case measure => simp [Go.RowKit.intOf]; omega
    · have hkn : k = q := by omega
      have hnl : ¬ ((k : Int) < (q : Int)) := by omega
      have hD := HD.out
      by_cases hpk : p < k
      · rw [show decide (p < k) = true by simp [hpk]] at hD
        subst hD
        obtain ⟨va, vc, rfl, -, -⟩ := HAtRw.of_row HM.out HO.out
        have hL : stN xs p y k = skH false p y xs := by rw [hkn, ← HQ.out]; exact stN_last (by rw [HQ.out]; omega)
        have hO := HO.out
        rw [hL] at hO
        have hMm := HM.out
        rw [hL] at hMm
        have HF : Hid (SeN false B xs p y w (.returned (.tuple #[])) (wr.setCell ⟨B, 3, none⟩ (.slice va m vc))) := ⟨rfl, _, wr, HB.out, rfl, by rw [hMm]; exact hO⟩
        have f3 : wr.frozen? ⟨B, 3, none⟩ = false := (World.frozen?_of_block (w := w) (a := ⟨B, 3, none⟩) (HB.out.block B hBl)).trans HF3.out
        clear hpk HD hkn hL hO hMm HO HM
        go_wp2_with fail
        go_end0
        exact HF.out
      · rw [show decide (p < k) = false by simp; omega] at hD
        subst hD
        have hpk2 : p = k := by omega
        have HST : Hid (skH false p y xs = stN xs p y k ++ [y]) := by
          have hql : xs.length = k := by rw [HQ.out]; exact hkn.symm
          have h9 := stN_all (xs := xs) (y := y)
          rw [hql] at h9
          rw [Hid, hpk2]
          exact h9.symm
        have f3 : wr.frozen? ⟨B, 3, none⟩ = false := (World.frozen?_of_block (w := w) (a := ⟨B, 3, none⟩) (HB.out.block B hBl)).trans HF3.out
        have HBW : Hid (Below w.heap.size w wr) := HB
        have HCW : Hid (wr.cell? ⟨B, 3, none⟩ = some (.slice ra q rc) ∧ wr.frozen? ⟨B, 3, none⟩ = false) := ⟨c3, f3⟩
        clear hpk hpk2 HD hkn
        have HOA : Hid (∀ o1 : Obj, (wr.alloc o1).ownsRow w.heap.size 173 2 _ m (hbRw (stN xs p y k))) := fun o1 => own_belowI HO.out (below_new _ _)
        have HBX : Hid (∀ o : Obj, o = .cells #[.int .i64 y.t.key, .slice y.A y.t.n y.c] 173 → CRw (wr.alloc o) wr.heap.size 0 y.t y.A y.c) := by
          rintro o rfl
          simp [CRw, go_sem]
        have HBA : Hid (∀ o1 : Obj, Below w.heap.size w (wr.alloc o1)) := fun o1 => below_then HB.out (below_new _ _)
        clear HO HB
        go_wp2_with (first | (at_builtin; refine wpList_appHRw _ rfl (.tmp 72) (.tmp 76) rfl w.heap.size _ m (stN xs p y k) HM.out rfl (HOA.out _) wr.heap.size 1 y rfl (HBX.out _ rfl) (by simp; omega) (by omega) ?_))
        intro v2 w3 ho3 hg3
        have HO3 : Hid (w3.ownsRow w.heap.size 173 2 v2 (m + 1) (hbRw (skH false p y xs))) := by rw [Hid, HST.out]; exact ho3
        have HM3 : Hid (((skH false p y xs)).length = m + 1) := by rw [Hid, HST.out]; simp [HM.out]
        have HB3 : Hid (Below w.heap.size w w3) := (HBA.out (.cells #[.int .i64 y.t.key, .slice y.A y.t.n y.c] 173)).grown hg3 (by simp; omega) fun q9 hq9 => ((HOA.out (.cells #[.int .i64 y.t.key, .slice y.A y.t.n y.c] 173)).lt q9 hq9).1
        clear ho3 hg3 HOA HBX HBA
        have f3' : w3.frozen? ⟨B, 3, none⟩ = false := (World.frozen?_of_block (w := w) (a := ⟨B, 3, none⟩) (HB3.out.block B hBl)).trans HF3.out
        have c3' := cell_below HC3.out HB3.out
        obtain ⟨va, vc, rfl, -, -⟩ := HAtRw.of_row HM3.out HO3.out
        have HF : Hid (SeN false B xs p y w (.returned (.tuple #[])) (w3.setCell ⟨B, 3, none⟩ (.slice va (m + 1) vc))) := ⟨rfl, _, w3, HB3.out, rfl, by rw [HM3.out]; exact HO3.out⟩
        clear HO3 HM3 HB3 f3 c3 HCW HBW
        go_wp2_with fail
        go_end0
        exact HF.out
end Go.Proofs.YtjdodbiphijjgaaGreat
