/- spec.l6Set: a row's chain set, or the row taken away. -/
import Derived.Test.YtjdodbiphijjgaaGreatQRsa
import Derived.Test.YtjdodbiphijjgaaGreatQOa
namespace Go.Proofs.YtjdodbiphijjgaaGreat
open Go.RowKit Go.Deep
set_option linter.unusedVariables false
set_option linter.unusedSimpArgs false
set_option maxRecDepth 20000

/-- The rows behind the first k of them were gone through, and all. -/
def stH (xs : List HRw) (p : Nat) (y : HRw) (k : Nat) : List HRw := if k ≤ p then xs.take k else xs.take p ++ (if y.t.n = 0 then [] else [y]) ++ (xs.take k).drop (p + 1)
def setH (xs : List HRw) (p : Nat) (y : HRw) : List HRw := xs.take p ++ (if y.t.n = 0 then [] else [y]) ++ xs.drop (p + 1)
theorem stH_last {xs : List HRw} {p : Nat} {y : HRw} (h : p < xs.length) : stH xs p y xs.length = setH xs p y := by
  unfold stH setH
  rw [if_neg (by omega), List.take_length]
theorem stH_at {xs : List HRw} {p : Nat} {y : HRw} (h : p < xs.length) : stH xs p y (p + 1) = stH xs p y p ++ (if y.t.n = 0 then [] else [y]) := by
  unfold stH
  rw [if_neg (by omega), if_pos (Nat.le_refl _)]
  have : (xs.take (p + 1)).drop (p + 1) = [] := List.drop_eq_nil_of_le (by simp; omega)
  rw [this, List.append_nil]
theorem stH_other {xs : List HRw} {p k : Nat} {y x : HRw} (hx : xs[k]? = some x) (hne : k ≠ p) : stH xs p y (k + 1) = stH xs p y k ++ [x] := by
  have hk : k < xs.length := (List.getElem?_eq_some_iff.1 hx).1
  unfold stH
  by_cases c : k < p
  · rw [if_pos (by omega), if_pos (by omega)]
    exact take_next hx
  · have e1 : ¬ (k + 1 ≤ p) := by omega
    have e2 : ¬ (k ≤ p) := by omega
    simp only [e1, e2, if_false]
    rw [take_next hx, List.drop_append_of_le_length (by simp; omega), ← List.append_assoc]
theorem stH_len {xs : List HRw} {p k : Nat} {y : HRw} : (stH xs p y k).length ≤ k + 1 := by
  unfold stH
  split
  · have := List.length_take_le k xs; omega
  · have h1 := List.length_take_le k xs
    have h2 := List.length_take_le p xs
    split <;> simp <;> omega
def dnB (y : HRw) (p k : Nat) : Bool := decide (y.t.n = 0) || decide (p < k)
def SeR (B : Nat) (xs : List HRw) (p : Nat) (y : HRw) (w : World) (e : Ending) (w' : World) : Prop := e = .returned (.tuple #[]) ∧ ∃ v u, Below w.heap.size w u ∧ w' = u.setCell ⟨B, 3, none⟩ v ∧ u.ownsRow w.heap.size 173 2 v (setH xs p y).length (hbRw (setH xs p y))
set_option maxHeartbeats 8000000 in
theorem l6Set_any (B : Nat) (xs : List HRw) (x0 y : HRw) (p q : Nat) (ra : Option Addr) (rc : Nat) (w : World) (hq : xs.length = q) (hle : q ≤ 32) (c3 : w.cell? ⟨B, 3, none⟩ = some (.slice ra q rc)) (f3 : w.frozen? ⟨B, 3, none⟩ = false) (hat : HAtRw w ra xs) (hri : RiRw xs) (hp : xs[p]? = some x0) (hk : x0.t.key = y.t.key) :
    Calls Tryz.prog 115 #[.pointer (some ⟨B, 0, none⟩), .int .i64 y.t.key, .slice y.A y.t.n y.c] w (SeR B xs p y w) := by
  have hBl : B < w.heap.size := Go.block_lt_of_cell c3
  have HC3 : Hid (w.cell? ⟨B, 3, none⟩ = some (.slice ra q rc)) := c3
  have HF3 : Hid (w.frozen? ⟨B, 3, none⟩ = false) := f3
  have HX : Hid (HAtRw w ra xs) := hat
  have HRI : Hid (RiRw xs) := hri
  have HQ : Hid (xs.length = q) := hq
  have HP : Hid (xs[p]? = some x0 ∧ x0.t.key = y.t.key) := ⟨hp, hk⟩
  have hpq : p < q := by rw [← hq]; exact (List.getElem?_eq_some_iff.1 hp).1
  have HI : Hid ((w.alloc (.cells #[] 173)).ownsRow w.heap.size 173 2 (.slice (some ⟨w.heap.size, 0, none⟩) 0 0) 0 []) := World.ownsRow_made w #[] 0 (Nat.le_refl _) (by unfold maxLen; omega) rfl
  have hd0 : ((y.t.n : Int) == 0) = decide (y.t.n = 0) := by by_cases h9 : y.t.n = 0 <;> simp [h9]
  clear c3 f3 hat hri hq hp hk
  go_enter Tryz.func115, Tryz.ntmps115
  go_wp2_with fail
  go_loopw [6, 7, 8] (fun v d i wr => ∃ k : Nat, k ≤ q ∧ i = .int .i64 k ∧ Hid (d = .bool (dnB y p k)) ∧ ∃ m, Hid ((stH xs p y k).length = m) ∧ Hid (Below w.heap.size w wr) ∧ Hid (wr.ownsRow w.heap.size 173 2 v m (hbRw (stH xs p y k)))) (fun _ _ i _ => q - (Go.RowKit.intOf i).toNat)
  case atStart => exact ⟨0, Nat.zero_le _, rfl, by rw [Hid]; simp [dnB, hd0], 0, by simp [Hid, stH], below_new _ _, by rw [Hid, show stH xs p y 0 = [] by simp [stH]]; exact HI.out⟩
  case round =>
    clear HI hd0
    obtain ⟨k, hk, rfl, HD, m, HM, HB, HO⟩ := hrel
    have hsz := HB.out.size
    have hm9 : m ≤ 33 := by have h9 := stH_len (xs := xs) (p := p) (k := k) (y := y); rw [HM.out] at h9; omega
    have c3 := cell_below HC3.out HB.out
    by_cases hlt : k < q
    · have hlt' : (k : Int) < (q : Int) := by omega
      have hk0 : (0 : Int) ≤ (k : Int) := by omega
      obtain ⟨x, hx⟩ : ∃ x, xs[k]? = some x := ⟨_, List.getElem?_eq_getElem (by rw [HQ.out]; exact hlt)⟩
      rcases HX.out.below HB.out with h | ⟨b, off, rfl, hl, hcc⟩
      · rw [h] at hx; simp at hx
      obtain ⟨z0, z1⟩ := hcc k x hx
      clear hcc
      by_cases hkp : k = p
      · subst hkp
        have e0 : x = x0 := by have := HP.out.1; rw [hx] at this; injection this
        have hky : x.t.key = y.t.key := by rw [e0]; exact HP.out.2
        have heq : (x.t.key == y.t.key) = true := by simp [hky]
        have hgt : ¬ (y.t.key < x.t.key) := by omega
        by_cases hn0 : y.t.n = 0
        · have hd : dnB y k k = true := by simp [dnB, hn0]
          have HDN : Hid (.bool true = (.bool (dnB y k (k + 1)) : Value)) := by simp [Hid, dnB, hn0]
          have HST : stH xs k y (k + 1) = stH xs k y k := by rw [stH_at (by rw [HQ.out]; exact hlt), if_pos hn0, List.append_nil]
          have HM3 : Hid ((stH xs k y (k + 1)).length = m) := by rw [Hid, HST]; exact HM.out
          have hO := HO.out
          rw [← HST] at hO
          have HO3 : Hid (World.ownsRow _ _ _ _ _ _ _) := hO
          have hD := HD.out
          rw [hd] at hD
          subst hD
          clear hO hd HST HD HO e0 hky hx hn0
          go_wp2_with fail
          go_roundw
          case rel => exact ⟨k + 1, hlt, by go_num, HDN, m, HM3, HB, HO3⟩
          case measure => simp [Go.RowKit.intOf]; omega
        · have hd : dnB y k k = false := by simp [dnB, hn0]
          have HDN : Hid (.bool true = (.bool (dnB y k (k + 1)) : Value)) := by simp [Hid, dnB]
          have HST : Hid (stH xs k y (k + 1) = stH xs k y k ++ [y]) := by rw [Hid, stH_at (by rw [HQ.out]; exact hlt), if_neg hn0]
          have hD := HD.out
          rw [hd] at hD
          subst hD
          clear hd HD e0 hky hx hn0
          have HOA : Hid (∀ o1 : Obj, (wr.alloc o1).ownsRow w.heap.size 173 2 _ m (hbRw (stH xs k y k))) := fun o1 => own_belowI HO.out (below_new _ _)
          have HBX : Hid (∀ o : Obj, o = .cells #[.int .i64 y.t.key, .slice y.A y.t.n y.c] 173 → CRw (wr.alloc o) wr.heap.size 0 y.t y.A y.c) := by
            rintro o rfl
            simp [CRw, go_sem]
          have HBA : Hid (∀ o1 : Obj, Below w.heap.size w (wr.alloc o1)) := fun o1 => below_then HB.out (below_new _ _)
          clear HO HB
          go_wp2_with (first | (at_builtin; refine wpList_appHRw _ rfl (.tmp 54) (.tmp 58) rfl w.heap.size _ m (stH xs k y k) HM.out rfl (HOA.out _) wr.heap.size 1 y rfl (HBX.out _ rfl) (by simp; omega) (by omega) ?_))
          intro v2 w3 ho3 hg3
          have HO3 : Hid (w3.ownsRow w.heap.size 173 2 v2 (m + 1) (hbRw (stH xs k y (k + 1)))) := by rw [Hid, HST.out]; exact ho3
          have HM3 : Hid ((stH xs k y (k + 1)).length = m + 1) := by rw [Hid, HST.out]; simp [HM.out]
          have HB3 : Hid (Below w.heap.size w w3) := (HBA.out (.cells #[.int .i64 y.t.key, .slice y.A y.t.n y.c] 173)).grown hg3 (by simp; omega) fun q9 hq9 => ((HOA.out (.cells #[.int .i64 y.t.key, .slice y.A y.t.n y.c] 173)).lt q9 hq9).1
          clear ho3 hg3 HOA HBX HBA
          go_wp2_with fail
          go_roundw
          case rel => exact ⟨k + 1, hlt, by go_num, HDN, m + 1, HM3, HB3, HO3⟩
          case measure => simp [Go.RowKit.intOf]; omega
      · have hne : x.t.key ≠ y.t.key := fun e => hkp (by
          have h1 := HP.out.1
          obtain ⟨i1, e1⟩ := List.getElem?_eq_some_iff.1 hx
          obtain ⟨i2, e2⟩ := List.getElem?_eq_some_iff.1 h1
          rcases Nat.lt_trichotomy k p with c | c | c
          · have := List.pairwise_iff_getElem.1 HRI.out k p i1 i2 c
            unfold keyRw at this
            rw [e1, e2, e, HP.out.2] at this
            omega
          · exact c
          · have := List.pairwise_iff_getElem.1 HRI.out p k i2 i1 c
            unfold keyRw at this
            rw [e1, e2, e, HP.out.2] at this
            omega)
        have heq : (x.t.key == y.t.key) = false := by simp [hne]
        have HST : Hid (stH xs p y (k + 1) = stH xs p y k ++ [x]) := stH_other hx hkp
        have HDN : Hid (.bool (dnB y p k) = (.bool (dnB y p (k + 1)) : Value)) := by
          have : decide (p < k) = decide (p < k + 1) := by simp only [decide_eq_decide]; omega
          simp [Hid, dnB, this]
        by_cases hd : dnB y p k = true
        · have hD := HD.out
          rw [hd] at hD HDN
          subst hD
          clear hd HD hx hne
          have HOA : Hid (∀ o1 : Obj, (wr.alloc o1).ownsRow w.heap.size 173 2 _ m (hbRw (stH xs p y k))) := fun o1 => own_belowI HO.out (below_new _ _)
          have HBX : Hid (∀ o : Obj, o = .cells #[.int .i64 x.t.key, .slice x.A x.t.n x.c] 173 → CRw (wr.alloc o) wr.heap.size 0 x.t x.A x.c) := by
            rintro o rfl
            simp [CRw, go_sem]
          have HBA : Hid (∀ o1 : Obj, Below w.heap.size w (wr.alloc o1)) := fun o1 => below_then HB.out (below_new _ _)
          clear HO HB
          go_wp2_with (first | (at_builtin; refine wpList_appHRw _ rfl (.tmp 60) (.tmp 68) rfl w.heap.size _ m (stH xs p y k) HM.out rfl (HOA.out _) wr.heap.size 1 x rfl (HBX.out _ rfl) (by simp; omega) (by omega) ?_))
          intro v2 w3 ho3 hg3
          have HO3 : Hid (w3.ownsRow w.heap.size 173 2 v2 (m + 1) (hbRw (stH xs p y (k + 1)))) := by rw [Hid, HST.out]; exact ho3
          have HM3 : Hid ((stH xs p y (k + 1)).length = m + 1) := by rw [Hid, HST.out]; simp [HM.out]
          have HB3 : Hid (Below w.heap.size w w3) := (HBA.out (.cells #[.int .i64 x.t.key, .slice x.A x.t.n x.c] 173)).grown hg3 (by simp; omega) fun q9 hq9 => ((HOA.out (.cells #[.int .i64 x.t.key, .slice x.A x.t.n x.c] 173)).lt q9 hq9).1
          clear ho3 hg3 HOA HBX HBA
          go_wp2_with fail
          go_roundw
          case rel => exact ⟨k + 1, hlt, by go_num, HDN, m + 1, HM3, HB3, HO3⟩
          case measure => simp [Go.RowKit.intOf]; omega
        · have hd2 : dnB y p k = false := by simpa using hd
          have hgt : ¬ (y.t.key < x.t.key) := by
            have h9 := hd2
            unfold dnB at h9
            simp only [Bool.or_eq_false_iff, decide_eq_false_iff_not] at h9
            have h1 := HP.out.1
            obtain ⟨i1, e1⟩ := List.getElem?_eq_some_iff.1 hx
            obtain ⟨i2, e2⟩ := List.getElem?_eq_some_iff.1 h1
            have := List.pairwise_iff_getElem.1 HRI.out k p i1 i2 (by omega)
            unfold keyRw at this
            rw [e1, e2, HP.out.2] at this
            omega
          have hD := HD.out
          rw [hd2] at hD HDN
          subst hD
          clear hd hd2 HD hx hne
          have HOA : Hid (∀ o1 : Obj, (wr.alloc o1).ownsRow w.heap.size 173 2 _ m (hbRw (stH xs p y k))) := fun o1 => own_belowI HO.out (below_new _ _)
          have HBX : Hid (∀ o : Obj, o = .cells #[.int .i64 x.t.key, .slice x.A x.t.n x.c] 173 → CRw (wr.alloc o) wr.heap.size 0 x.t x.A x.c) := by
            rintro o rfl
            simp [CRw, go_sem]
          have HBA : Hid (∀ o1 : Obj, Below w.heap.size w (wr.alloc o1)) := fun o1 => below_then HB.out (below_new _ _)
          clear HO HB
          go_wp2_with (first | (at_builtin; refine wpList_appHRw _ rfl (.tmp 60) (.tmp 68) rfl w.heap.size _ m (stH xs p y k) HM.out rfl (HOA.out _) wr.heap.size 1 x rfl (HBX.out _ rfl) (by simp; omega) (by omega) ?_))
          intro v2 w3 ho3 hg3
          have HO3 : Hid (w3.ownsRow w.heap.size 173 2 v2 (m + 1) (hbRw (stH xs p y (k + 1)))) := by rw [Hid, HST.out]; exact ho3
          have HM3 : Hid ((stH xs p y (k + 1)).length = m + 1) := by rw [Hid, HST.out]; simp [HM.out]
          have HB3 : Hid (Below w.heap.size w w3) := (HBA.out (.cells #[.int .i64 x.t.key, .slice x.A x.t.n x.c] 173)).grown hg3 (by simp; omega) fun q9 hq9 => ((HOA.out (.cells #[.int .i64 x.t.key, .slice x.A x.t.n x.c] 173)).lt q9 hq9).1
          clear ho3 hg3 HOA HBX HBA
          go_wp2_with fail
          go_roundw
          case rel => exact ⟨k + 1, hlt, by go_num, HDN, m + 1, HM3, HB3, HO3⟩
          case measure => simp [Go.RowKit.intOf]; omega
    · have hkn : k = q := by omega
      have hnl : ¬ ((k : Int) < (q : Int)) := by omega
      have hd : dnB y p k = true := by
        have : p < k := by omega
        simp [dnB, this]
      have hD := HD.out
      rw [hd] at hD
      subst hD
      obtain ⟨va, vc, rfl, -, -⟩ := HAtRw.of_row HM.out HO.out
      have hL : stH xs p y k = setH xs p y := by rw [hkn, ← HQ.out]; exact stH_last (by rw [HQ.out]; exact hpq)
      have hO := HO.out
      rw [hL] at hO
      have hMm := HM.out
      rw [hL] at hMm
      have HF : Hid (SeR B xs p y w (.returned (.tuple #[])) (wr.setCell ⟨B, 3, none⟩ (.slice va m vc))) := ⟨rfl, _, wr, HB.out, rfl, by rw [hMm]; exact hO⟩
      have f3 : wr.frozen? ⟨B, 3, none⟩ = false := (World.frozen?_of_block (w := w) (a := ⟨B, 3, none⟩) (HB.out.block B hBl)).trans HF3.out
      clear hd HD hkn hL hO hMm HO HM
      go_wp2_with fail
      go_end0
      exact HF.out
end Go.Proofs.YtjdodbiphijjgaaGreat
