/- Dra Drb Drc Drd Dre Drf in one. -/
import Derived.Test.YtppckjecidcflaaByt
import Derived.Deep.DeepCutAuto
import Derived.Test.YtppckjecidcflaaIj
import Derived.Test.YtppckjecidcflaaRh
namespace Go.Proofs.Ytppckjecidcflaa
open Go.RowKit Go.Deep
set_option linter.unusedVariables false
set_option maxRecDepth 20000

/-- The source in block S: the bytes lie ahead of it, t choices were made. -/
structure Src (w : World) (S : Nat) (a : Option Addr) (k cap : Nat) (z : Nat → Int) (t : Nat) : Prop where
  c0 : w.cell? ⟨S, 0, none⟩ = some (.slice a k cap)
  c1 : w.cell? ⟨S, 1, none⟩ = some (.int .i64 t)
  f : ∀ i, w.frozen? ⟨S, i, none⟩ = false
  b : BytesAt w a k z
  far : ∀ b off, a = some ⟨b, off, none⟩ → k = 0 ∨ b < S
  byt : Byt k z
  len : k ≤ 1048576
theorem Src.below {w w' : World} {S : Nat} {a : Option Addr} {k cap : Nat} {z : Nat → Int} {t : Nat} (h : Src w S a k cap z t) (hb : Below w.heap.size w w') : Src w' S a k cap z t :=
  ⟨cell_below h.c0 hb, cell_below h.c1 hb, fun i => (hb.frozen (p := ⟨S, i, none⟩) (show S < w.heap.size from Go.block_lt_of_cell h.c0)).trans (h.f i), h.b.below hb, h.far, h.byt, h.len⟩
theorem Src.next {w : World} {S : Nat} {a : Option Addr} {k cap : Nat} {z : Nat → Int} {t : Nat} (h : Src w S a k cap z t) (t' : Nat) : Src (w.setCell ⟨S, 1, none⟩ (.int .i64 t')) S a k cap z t' := by
  refine ⟨by rw [World.cell?_setCell_other _ _ _ _ (by simp)]; exact h.c0, ?_, fun i => by rw [World.frozen?_setCell]; exact h.f i, ?_, h.far, h.byt, h.len⟩
  · have := h.c1
    simp [go_sem, this]
  · rcases h.b with e | ⟨b, off, rfl, hl, hc⟩
    · exact .inl e
    · rcases h.far b off rfl with e | e
      · exact .inl e
      · exact .inr ⟨b, off, rfl, by simpa [World.setCell] using hl, fun i hi => by rw [World.cell?_setCell_other _ _ _ _ (by simp <;> omega)]; exact hc i hi⟩
theorem Src.drew {w : World} {S : Nat} {a : Option Addr} {k cap : Nat} {z : Nat → Int} {t : Nat} (h : Src w S a k cap z t) : Src w.drew S a k cap z t := h.below ((Below.refl _ _).drew)
/-- What a choice leaves. -/
def Nx (S : Nat) (a : Option Addr) (k cap : Nat) (z : Nat → Int) (t : Nat) (w w' : World) : Prop := Writes S (S + 1) w w' ∧ w'.heap.size = w.heap.size ∧ Src w' S a k cap z t
/-- What a choice out of n is. -/
def NxA (n v : Int) : Prop := 0 ≤ v ∧ (1 ≤ n → v < n) ∧ (n < 1 → v = 0)
theorem rem_pos {x n : Int} (hx : 0 ≤ x) (hn : 1 ≤ n) : 0 ≤ x.tmod n ∧ x.tmod n < n := by
  rw [Int.tmod_eq_emod_of_nonneg hx]
  exact ⟨Int.emod_nonneg _ (by omega), Int.emod_lt_of_pos _ (by omega)⟩
set_option maxHeartbeats 4000000 in
theorem l1Next_any (S : Nat) (a : Option Addr) (k cap : Nat) (z : Nat → Int) (t : Nat) (n : Int) (w : World) (ht : t ≤ 1000000) (hn : n ≤ 1000000) (h : Src w S a k cap z t) :
    Calls Try.prog 50 #[.pointer (some ⟨S, 0, none⟩), .int .i64 n] w fun e w' => ∃ v : Int, e = .returned (.int .i64 v) ∧ NxA n v ∧ Nx S a k cap z (t + 1) w w' := by
  have HS : Hid (Src w S a k cap z t) := h
  have c0 := h.c0
  have c1 := h.c1
  have cf := h.f
  have hw1 : IntKind.i64.wrap ((t : Int) + 1) = (t : Int) + 1 := by rw [IntKind.wrap_i64]; omega
  have e1 : ((t + 1 : Nat) : Int) = (t : Int) + 1 := by omega
  have HN : Hid (Src (w.setCell ⟨S, 1, none⟩ (.int .i64 ((t : Int) + 1))) S a k cap z (t + 1)) := by rw [← e1]; exact h.next (t + 1)
  have HW : Hid (Writes S (S + 1) w (w.setCell ⟨S, 1, none⟩ (.int .i64 ((t : Int) + 1)))) := Writes.setCell (Writes.refl _ _ _) (p := ⟨S, 1, none⟩) (Nat.le_refl _) (Nat.lt_succ_self _) _
  have hkl := h.len
  clear h
  go_enter Try.func50, Try.ntmps50
  go_upto_region 2 with fail
  obtain ⟨W, hW⟩ : ∃ x, x = w.setCell ⟨S, 1, none⟩ (.int .i64 ((t : Int) + 1)) := ⟨_, rfl⟩
  have HZ : Hid (W.heap.size = w.heap.size) := by rw [hW]; show (w.setCell _ _).heap.size = _; simp [World.setCell]
  rw [← hW] at HN HW
  rw [← hW]
  have HNX : Hid (Nx S a k cap z (t + 1) w W) := ⟨HW.out, HZ.out, HN.out⟩
  have HNXd : Hid (∀ m, Nx S a k cap z (t + 1) w (W.drewN m)) := fun m => by
    have hb : Below W.heap.size W (W.drewN m) := below_drewN (Below.refl _ _) m
    refine ⟨HW.out.trans (Writes.of_below hb), ?_, HN.out.below hb⟩
    have : (W.drewN m).heap.size = W.heap.size := by simp
    rw [this]; exact HZ.out
  have d0 := HN.out.c0
  have d1 := HN.out.c1
  rw [e1] at d1
  clear e1
  have hb := HN.out.b
  have hbyt := HN.out.byt
  clear hW c0 c1 cf HS hw1
  by_cases h1 : n < 1
  · go_wp2_with fail
    go_ret
    exact ⟨0, rfl, ⟨by omega, fun h => by omega, fun _ => rfl⟩, HNX.out⟩
  have hw2 : IntKind.i64.wrap ((t : Int) + 1 - 1) = (t : Int) := by rw [IntKind.wrap_i64]; omega
  have h1' : (1 : Int) ≤ n := by omega
  have hnz : (n == 0) = false := by simp; omega
  have hnz2 : n ≠ 0 := by omega
  by_cases hk : k = 0
  · subst hk
    have hw3 : IntKind.i64.wrap ((t : Int) * 7) = (t : Int) * 7 := by rw [IntKind.wrap_i64]; omega
    have hr := rem_pos (x := (t : Int) * 7) (by omega) h1'
    have hr2 : 0 ≤ (t : Int) * 7 % n ∧ (t : Int) * 7 % n < n := ⟨Int.emod_nonneg _ hnz2, Int.emod_lt_of_pos _ (by omega)⟩
    have hw4 : IntKind.i64.wrap (((t : Int) * 7).tmod n) = ((t : Int) * 7).tmod n := by rw [IntKind.wrap_i64]; omega
    go_wp2_with fail
    go_ret
    first
      | exact ⟨_, rfl, ⟨hr2.1, fun _ => hr2.2, fun h => by omega⟩, HNX.out⟩
      | exact ⟨_, rfl, ⟨hr.1, fun _ => hr.2, fun h => by omega⟩, HNX.out⟩
  rcases hb with hb | ⟨b, off, rfl, hl, hc⟩
  · exact absurd hb hk
  have hk1 : (0 : Int) < (k : Int) := by omega
  have hkz : ((k : Int) == 0) = false := by simp; omega
  have hk2 : (k : Int) ≠ 0 := by omega
  have hm0 : (t : Int).tmod (k : Int) = ((t % k : Nat) : Int) := by rw [Int.tmod_eq_emod_of_nonneg (by omega)]; omega
  have hq0 : (t : Int).tdiv (k : Int) = ((t / k : Nat) : Int) := by rw [Int.tdiv_eq_ediv_of_nonneg (by omega)]; omega
  have hlt0 : t % k < k := Nat.mod_lt _ (by omega)
  have hql : t / k ≤ 1000000 := Nat.le_trans (Nat.div_le_self _ _) ht
  have x0 := hc (t % k) hlt0
  have y0 := hbyt (t % k) hlt0
  have hlt1 : (t + 1) % k < k := Nat.mod_lt _ (by omega)
  have x1 := hc ((t + 1) % k) hlt1
  have y1 := hbyt ((t + 1) % k) hlt1
  have hm1 : ((t : Int) + 1).tmod (k : Int) = (((t + 1) % k : Nat) : Int) := by
    rw [show (t : Int) + 1 = ((t + 1 : Nat) : Int) by omega, Int.tmod_eq_emod_of_nonneg (by omega)]
    omega
  have hi0 : ((t % k : Nat) : Int) < (k : Int) := by omega
  have hi1 : (((t + 1) % k : Nat) : Int) < (k : Int) := by omega
  have hi0p : (0 : Int) ≤ ((t % k : Nat) : Int) := by omega
  have hi1p : (0 : Int) ≤ (((t + 1) % k : Nat) : Int) := by omega
  clear hc hbyt
  generalize hz0 : z (t % k) = v0 at *
  generalize hz1 : z ((t + 1) % k) = v1 at *
  generalize t % k = i0 at *
  generalize (t + 1) % k = i1 at *
  generalize t / k = q at *
  have hwt : IntKind.i64.wrap ((t : Int) + 1) = (t : Int) + 1 := by rw [IntKind.wrap_i64]; omega
  have hwq : IntKind.i64.wrap ((q : Int) * 37) = (q : Int) * 37 := by rw [IntKind.wrap_i64]; omega
  have hwv : IntKind.i64.wrap (v0 + (q : Int) * 37) = v0 + (q : Int) * 37 := by rw [IntKind.wrap_i64]; omega
  have hwc0 : IntKind.i64.wrap v0 = v0 := by rw [IntKind.wrap_i64]; omega
  have hwc1 : IntKind.i64.wrap v1 = v1 := by rw [IntKind.wrap_i64]; omega
  have hwm : IntKind.i64.wrap (v1 * 13) = v1 * 13 := by rw [IntKind.wrap_i64]; omega
  clear hz0 hz1 hlt0 hlt1
  go_upto_region 8 with fail
  go_region
  all_goals
    by_cases h200 : 200 < n
    · have hx1 : IntKind.i64.wrap ((v0 + (q : Int) * 37) * 251) = (v0 + (q : Int) * 37) * 251 := by rw [IntKind.wrap_i64]; omega
      have hx2 : IntKind.i64.wrap ((v0 + (q : Int) * 37) * 251 + v1 * 13) = (v0 + (q : Int) * 37) * 251 + v1 * 13 := by rw [IntKind.wrap_i64]; omega
      have hx3 : IntKind.i64.wrap ((v0 + (q : Int) * 37) * 251 + v1 * 13 + t) = (v0 + (q : Int) * 37) * 251 + v1 * 13 + t := by rw [IntKind.wrap_i64]; omega
      have HV : Hid (∀ y : Int, y = (v0 + (q : Int) * 37) * 251 + v1 * 13 + t → NxA n (y % n) ∧ NxA n (y.tmod n)) := by
        rintro y rfl
        have hr := rem_pos (x := (v0 + (q : Int) * 37) * 251 + v1 * 13 + t) (by omega) h1'
        exact ⟨⟨Int.emod_nonneg _ hnz2, fun _ => Int.emod_lt_of_pos _ (by omega), fun h => by omega⟩, hr.1, fun _ => hr.2, fun h => by omega⟩
      go_upto_region 10 with fail
      go_region
      all_goals
        obtain ⟨y, hy⟩ : ∃ y : Int, y = (v0 + (q : Int) * 37) * 251 + v1 * 13 + t := ⟨_, rfl⟩
        have HY := HV.out y hy
        have hy0 : 0 ≤ y := by omega
        rw [← hy]
        clear hy hx1 hx2 hx3
        go_wp2_with fail
        go_ret
        first
          | exact ⟨_, rfl, HY.1, HNXd.out 2⟩
          | exact ⟨_, rfl, HY.2, HNXd.out 2⟩
    · have HV : Hid (NxA n ((v0 + (q : Int) * 37) % n) ∧ NxA n ((v0 + (q : Int) * 37).tmod n)) := by
        have hr := rem_pos (x := v0 + (q : Int) * 37) (by omega) h1'
        exact ⟨⟨Int.emod_nonneg _ hnz2, fun _ => Int.emod_lt_of_pos _ (by omega), fun h => by omega⟩, hr.1, fun _ => hr.2, fun h => by omega⟩
      go_wp2_with fail
      go_ret
      first
        | exact ⟨_, rfl, HV.out.1, HNXd.out 1⟩
        | exact ⟨_, rfl, HV.out.2, HNXd.out 1⟩
end Go.Proofs.Ytppckjecidcflaa
namespace Go.Proofs.Ytppckjecidcflaa
open Go.RowKit Go.Deep
set_option linter.unusedVariables false
set_option maxRecDepth 20000

theorem l1Source_any (a : Option Addr) (k cap : Nat) (z : Nat → Int) (w : World) (hk : k ≤ 1048576) (hz : Byt k z) (h : BytesAt w a k z) :
    Calls Try.prog 49 #[.slice a k cap] w fun e w' => e = .returned (.pointer (some ⟨w.heap.size, 0, none⟩)) ∧ Below w.heap.size w w' ∧ w'.heap.size = w.heap.size + 1 ∧ Src w' w.heap.size a k cap z 0 := by
  have HX : Hid (∀ o : Obj, o = .cells #[.slice a k cap, .int .i64 0] 97 → Src (w.alloc o) w.heap.size a k cap z 0) := by
    rintro o rfl
    refine ⟨by simp [go_sem], by simp [go_sem], fun i => by simp [go_sem], h.below (below_new _ _), fun b off e => ?_, hz, hk⟩
    rcases h with h | ⟨b', off', e', hl, _⟩
    · exact .inl h
    · rw [e] at e'
      simp only [Option.some.injEq, Addr.mk.injEq, and_true] at e'
      exact .inr (by omega)
  clear h hz
  go_enter Try.func49, Try.ntmps49
  go_wp2_with fail
  go_ret
  exact ⟨rfl, below_new _ _, World.size_alloc _ _, HX.out _ rfl⟩
theorem l1Chance_any (S : Nat) (a : Option Addr) (k cap : Nat) (z : Nat → Int) (t : Nat) (n : Int) (w : World) (ht : t ≤ 1000000) (hn : n ≤ 1000000) (h : Src w S a k cap z t) :
    Calls Try.prog 52 #[.pointer (some ⟨S, 0, none⟩), .int .i64 n] w fun e w' => ∃ b : Bool, e = .returned (.bool b) ∧ Nx S a k cap z (t + 1) w w' := by
  have HS : Hid (Src w S a k cap z t) := h
  clear h
  go_enter Try.func52, Try.ntmps52
  go_wp2_with fail
  refine (l1Next_any S a k cap z t n w ht hn HS.out).mono ?_
  rintro e w1 ⟨v, rfl, -, hnx⟩
  have HN : Hid (Nx S a k cap z (t + 1) w w1) := hnx
  clear hnx
  go_wp2_with fail
  go_ret
  exact ⟨_, rfl, HN.out⟩
theorem l1Pick_any (S : Nat) (a : Option Addr) (k cap : Nat) (z : Nat → Int) (t : Nat) (b off m c : Nat) (F : Nat → Int) (w : World) (ht : t ≤ 1000000) (hm0 : 1 ≤ m) (hm : m ≤ 100) (hb : b ≠ S) (hl : b < w.heap.size) (hc : ∀ i, i < m → w.cell? ⟨b, off + i, none⟩ = some (.int .i64 (F i))) (h : Src w S a k cap z t) :
    Calls Try.prog 54 #[.pointer (some ⟨S, 0, none⟩), .slice (some ⟨b, off, none⟩) m c] w fun e w' => ∃ i : Nat, i < m ∧ e = .returned (.int .i64 (F i)) ∧ Nx S a k cap z (t + 1) w w' := by
  have HS : Hid (Src w S a k cap z t) := h
  have HC : Hid (∀ i, i < m → w.cell? ⟨b, off + i, none⟩ = some (.int .i64 (F i))) := hc
  clear h hc
  go_enter Try.func54, Try.ntmps54
  go_wp2_with fail
  refine (l1Next_any S a k cap z t (m : Int) w ht (by omega) HS.out).mono ?_
  rintro e w1 ⟨v, rfl, hv, hnx⟩
  have HN : Hid (Nx S a k cap z (t + 1) w w1) := hnx
  obtain ⟨hv0, hv1, -⟩ := hv
  obtain ⟨i, rfl⟩ : ∃ i : Nat, v = (i : Int) := ⟨v.toNat, by omega⟩
  have hi : i < m := by have := hv1 (by omega); omega
  have hi1 : (i : Int) < (m : Int) := by omega
  have hi0 : (0 : Int) ≤ (i : Int) := by omega
  have hx : w1.cell? ⟨b, off + i, none⟩ = some (.int .i64 (F i)) := (hnx.1.cell hl (by omega) _).trans (HC.out i hi)
  have HI : Hid (i < m) := hi
  clear hnx hv0 hv1 hi
  generalize hFi : F i = fi at *
  have HFI : Hid (F i = fi) := hFi
  clear hFi
  go_wp2_with fail
  go_ret
  exact ⟨i, HI.out, ret_int HFI.out.symm, HN.out⟩
end Go.Proofs.Ytppckjecidcflaa
namespace Go.Proofs.Ytppckjecidcflaa
open Go.RowKit Go.Deep
set_option linter.unusedVariables false
set_option maxRecDepth 20000

/-- What several choices leave: only the source is written. -/
def Dw (S : Nat) (a : Option Addr) (k cap : Nat) (z : Nat → Int) (t : Nat) (w w' : World) : Prop := Writes S (S + 1) w w' ∧ Src w' S a k cap z t
theorem Nx.dw {S : Nat} {a : Option Addr} {k cap : Nat} {z : Nat → Int} {t : Nat} {w w' : World} (h : Nx S a k cap z t w w') : Dw S a k cap z t w w' := ⟨h.1, h.2.2⟩
theorem Dw.src {S : Nat} {a : Option Addr} {k cap : Nat} {z : Nat → Int} {t : Nat} {w w' : World} (h : Dw S a k cap z t w w') : Src w' S a k cap z t := h.2
theorem Dw.trans {S : Nat} {a : Option Addr} {k cap : Nat} {z : Nat → Int} {t t' : Nat} {w w' w'' : World} (h : Dw S a k cap z t w w') (g : Dw S a k cap z t' w' w'') : Dw S a k cap z t' w w'' := ⟨h.1.trans g.1, g.2⟩
theorem Dw.below {S : Nat} {a : Option Addr} {k cap : Nat} {z : Nat → Int} {t : Nat} {w w' w'' : World} (h : Dw S a k cap z t w w') (g : Below w'.heap.size w' w'') : Dw S a k cap z t w w'' := ⟨h.1.trans (Writes.of_below g), h.2.below g⟩
theorem Src.lt {w : World} {S : Nat} {a : Option Addr} {k cap : Nat} {z : Nat → Int} {t : Nat} (h : Src w S a k cap z t) : S < w.heap.size := Go.block_lt_of_cell h.c0
theorem Src.self {w : World} {S : Nat} {a : Option Addr} {k cap : Nat} {z : Nat → Int} {t : Nat} (h : Src w S a k cap z t) : Dw S a k cap z t w w := ⟨Writes.refl _ _ _, h⟩

theorem l1DrawKey_any (S : Nat) (a : Option Addr) (k cap : Nat) (z : Nat → Int) (t : Nat) (w : World) (ht : t ≤ 999990) (h : Src w S a k cap z t) :
    Calls Try.prog 69 #[.pointer (some ⟨S, 0, none⟩)] w fun e w' => ∃ v : Int, e = .returned (.int .i64 v) ∧ (0 ≤ v ∧ v < 32) ∧ Dw S a k cap z (t + 4) w w' := by
  have HS : Hid (Src w S a k cap z t) := h
  clear h
  go_enter Try.func69, Try.ntmps69
  go_wp2_with fail
  refine (l1Next_any S a k cap z t 8 w (by omega) (by omega) HS.out).mono ?_
  rintro e w1 ⟨v1, rfl, hv1, hn1⟩
  have HN1 : Hid (Dw S a k cap z (t + 1) w w1) := hn1.dw
  have HV1 : Hid (NxA 8 v1) := hv1
  clear hn1 hv1
  go_wp2_with fail
  refine (l1Next_any S a k cap z (t + 1) 8 w1 (by omega) (by omega) HN1.out.src).mono ?_
  rintro e w2 ⟨v2, rfl, hv2, hn2⟩
  have HN2 : Hid (Dw S a k cap z (t + 2) w w2) := HN1.out.trans hn2.dw
  have HV2 : Hid (NxA 8 v2) := hv2
  clear hn2 hv2
  go_wp2_with fail
  refine (l1Next_any S a k cap z (t + 2) 32 w2 (by omega) (by omega) HN2.out.src).mono ?_
  rintro e w3 ⟨v3, rfl, hv3, hn3⟩
  have HN3 : Hid (Dw S a k cap z (t + 3) w w3) := HN2.out.trans hn3.dw
  have HV3 : Hid (NxA 32 v3) := hv3
  clear hn3 hv3
  go_wp2_with fail
  have hb : Below w3.heap.size w3 (w3.alloc (.cells #[.int .i64 v1, .int .i64 v2, .int .i64 v3] 2)) := below_new _ _
  have HN4 : Hid (Dw S a k cap z (t + 3) w (w3.alloc (.cells #[.int .i64 v1, .int .i64 v2, .int .i64 v3] 2))) := HN3.out.below hb
  have hS : S < w3.heap.size := HN3.out.src.lt
  refine (l1Pick_any S a k cap z (t + 3) w3.heap.size 0 3 3 (fun i => if i = 0 then v1 else if i = 1 then v2 else v3) _ (by omega) (by omega) (by omega) (by omega) (by simp [go_sem]) (fun i hi => ?_) HN4.out.src).mono ?_
  · rcases i with - | - | - | i
    · simp [go_sem]
    · simp [go_sem]
    · simp [go_sem]
    · omega
  rintro e w4 ⟨i, hi, rfl, hn4⟩
  have HN5 : Hid (Dw S a k cap z (t + 4) w w4) := HN4.out.trans hn4.dw
  have HVV : Hid (0 ≤ (if i = 0 then v1 else if i = 1 then v2 else v3) ∧ (if i = 0 then v1 else if i = 1 then v2 else v3) < 32) := by
    obtain ⟨a1, b1, -⟩ := HV1.out
    obtain ⟨a2, b2, -⟩ := HV2.out
    obtain ⟨a3, b3, -⟩ := HV3.out
    have b1 := b1 (by omega)
    have b2 := b2 (by omega)
    have b3 := b3 (by omega)
    refine ⟨?_, ?_⟩ <;> (split <;> (try split) <;> omega)
  clear hn4 hi hb hS
  revert HVV
  show Hid (0 ≤ (if i = 0 then v1 else if i = 1 then v2 else v3) ∧ (if i = 0 then v1 else if i = 1 then v2 else v3) < 32) → _
  generalize (if i = 0 then v1 else if i = 1 then v2 else v3) = r
  intro HVV
  go_wp2_with fail
  go_ret
  exact ⟨r, rfl, HVV.out, HN5.out⟩
end Go.Proofs.Ytppckjecidcflaa
namespace Go.Proofs.Ytppckjecidcflaa
open Go.RowKit Go.Deep
set_option linter.unusedVariables false
set_option maxRecDepth 20000

/-- A record in block B. -/
structure RB (w : World) (B : Nat) (r : Rc) : Prop where
  c0 : w.cell? ⟨B, 0, none⟩ = some (.int .i64 r.k)
  c1 : w.cell? ⟨B, 1, none⟩ = some (.int .i64 r.t)
  c2 : w.cell? ⟨B, 2, none⟩ = some (.int .i64 r.key)
  c3 : w.cell? ⟨B, 3, none⟩ = some (.bool r.hd)
  c4 : w.cell? ⟨B, 4, none⟩ = some (.int .i64 r.old)
  c5 : w.cell? ⟨B, 5, none⟩ = some (.bool r.hs)
  c6 : w.cell? ⟨B, 6, none⟩ = some (.int .i64 r.nw)
  c7 : w.cell? ⟨B, 7, none⟩ = some (.int .i64 r.bk)
  f : ∀ i, w.frozen? ⟨B, i, none⟩ = false
theorem RB.block {w w' : World} {B : Nat} {r : Rc} (h : RB w B r) (e : w'.heap[B]? = w.heap[B]?) : RB w' B r := by
  have g : ∀ i, w'.cell? ⟨B, i, none⟩ = w.cell? ⟨B, i, none⟩ := fun i => World.cell?_of_block (w := w) (a := ⟨B, i, none⟩) e
  exact ⟨(g _).trans h.c0, (g _).trans h.c1, (g _).trans h.c2, (g _).trans h.c3, (g _).trans h.c4, (g _).trans h.c5, (g _).trans h.c6, (g _).trans h.c7, fun i => (World.frozen?_of_block (w := w) (a := ⟨B, i, none⟩) e).trans (h.f i)⟩
theorem RB.lt {w : World} {B : Nat} {r : Rc} (h : RB w B r) : B < w.heap.size := Go.block_lt_of_cell h.c0
def zR8 : Rc := ⟨0, 0, 0, false, 0, false, 0, 0⟩
/-- A record is drawn: the answer's box is the first new block, the record lies in B3. -/
structure RS (S : Nat) (a : Option Addr) (k cap : Nat) (z : Nat → Int) (t : Nat) (w0 w : World) (B3 : Nat) (r : Rc) : Prop where
  d : Dw S a k cap z t w0 w
  b2 : RB w w0.heap.size zR8
  b3 : RB w B3 r
  lt : w0.heap.size < B3
  s : S < w0.heap.size
theorem RS.call {S : Nat} {a : Option Addr} {k cap : Nat} {z : Nat → Int} {t t' : Nat} {w0 w w' : World} {B3 : Nat} {r : Rc} (h : RS S a k cap z t w0 w B3 r) (g : Dw S a k cap z t' w w') : RS S a k cap z t' w0 w' B3 r :=
  ⟨h.d.trans g, h.b2.block (g.1.block _ h.b2.lt (by have := h.s; omega)), h.b3.block (g.1.block _ h.b3.lt (by have := h.s; have := h.lt; omega)), h.lt, h.s⟩
theorem RS.below {S : Nat} {a : Option Addr} {k cap : Nat} {z : Nat → Int} {t : Nat} {w0 w w' : World} {B3 : Nat} {r : Rc} (h : RS S a k cap z t w0 w B3 r) (g : Below w.heap.size w w') : RS S a k cap z t w0 w' B3 r :=
  ⟨h.d.below g, h.b2.block (g.block _ h.b2.lt), h.b3.block (g.block _ h.b3.lt), h.lt, h.s⟩
theorem Dw.over {S : Nat} {a : Option Addr} {k cap : Nat} {z : Nat → Int} {t : Nat} {w0 w w' : World} (h : Dw S a k cap z t w0 w) (g : Below w0.heap.size w w') (hs : S < w0.heap.size) : Dw S a k cap z t w0 w' := by
  have hS := g.block S hs
  have e : ∀ i, w'.cell? ⟨S, i, none⟩ = w.cell? ⟨S, i, none⟩ := fun i => World.cell?_of_block (w := w) (a := ⟨S, i, none⟩) hS
  have h2 := h.2
  refine ⟨⟨g.os.trans h.1.os, g.tape.trans h.1.tape, g.output.trans h.1.output, Nat.le_trans h.1.size g.size, fun i hi hd => (g.block i hi).trans (h.1.block i hi hd)⟩, (e 0).trans h2.c0, (e 1).trans h2.c1, fun i => (World.frozen?_of_block (w := w) (a := ⟨S, i, none⟩) hS).trans (h2.f i), ?_, h2.far, h2.byt, h2.len⟩
  rcases h2.b with e | ⟨b, off, rfl, hl, hc⟩
  · exact .inl e
  · rcases h2.far b off rfl with e | e
    · exact .inl e
    · exact .inr ⟨b, off, rfl, Nat.lt_of_lt_of_le hl g.size, fun i hi => (World.cell?_of_block (w := w) (a := ⟨b, off + i, none⟩) (g.block b (by omega))).trans (hc i hi)⟩
theorem RS.put {S : Nat} {a : Option Addr} {k cap : Nat} {z : Nat → Int} {t : Nat} {w0 w : World} {B3 : Nat} {r r' : Rc} (h : RS S a k cap z t w0 w B3 r) (j : Nat) (v : Value) (hr : RB (w.setCell ⟨B3, j, none⟩ v) B3 r') : RS S a k cap z t w0 (w.setCell ⟨B3, j, none⟩ v) B3 r' :=
  ⟨h.d.over ((Below.refl _ _).setCell (p := ⟨B3, j, none⟩) (Nat.le_of_lt h.lt) v) h.s, h.b2.block (Below.heap_setCell _ _ _ _ (by have := h.lt; show w0.heap.size ≠ B3; omega)), hr, h.lt, h.s⟩
theorem RB.put0 {w : World} {B : Nat} {r : Rc} (h : RB w B r) (x : Int) : RB (w.setCell ⟨B, 0, none⟩ (.int .i64 x)) B { r with k := x } :=
  ⟨by have := h.c0; simp [go_sem, this], by rw [World.cell?_setCell_other _ _ _ _ (by simp)]; exact h.c1, by rw [World.cell?_setCell_other _ _ _ _ (by simp)]; exact h.c2, by rw [World.cell?_setCell_other _ _ _ _ (by simp)]; exact h.c3, by rw [World.cell?_setCell_other _ _ _ _ (by simp)]; exact h.c4, by rw [World.cell?_setCell_other _ _ _ _ (by simp)]; exact h.c5, by rw [World.cell?_setCell_other _ _ _ _ (by simp)]; exact h.c6, by rw [World.cell?_setCell_other _ _ _ _ (by simp)]; exact h.c7, fun i => by rw [World.frozen?_setCell]; exact h.f i⟩
theorem RB.put1 {w : World} {B : Nat} {r : Rc} (h : RB w B r) (x : Int) : RB (w.setCell ⟨B, 1, none⟩ (.int .i64 x)) B { r with t := x } :=
  ⟨by rw [World.cell?_setCell_other _ _ _ _ (by simp)]; exact h.c0, by have := h.c1; simp [go_sem, this], by rw [World.cell?_setCell_other _ _ _ _ (by simp)]; exact h.c2, by rw [World.cell?_setCell_other _ _ _ _ (by simp)]; exact h.c3, by rw [World.cell?_setCell_other _ _ _ _ (by simp)]; exact h.c4, by rw [World.cell?_setCell_other _ _ _ _ (by simp)]; exact h.c5, by rw [World.cell?_setCell_other _ _ _ _ (by simp)]; exact h.c6, by rw [World.cell?_setCell_other _ _ _ _ (by simp)]; exact h.c7, fun i => by rw [World.frozen?_setCell]; exact h.f i⟩
theorem RB.put2 {w : World} {B : Nat} {r : Rc} (h : RB w B r) (x : Int) : RB (w.setCell ⟨B, 2, none⟩ (.int .i64 x)) B { r with key := x } :=
  ⟨by rw [World.cell?_setCell_other _ _ _ _ (by simp)]; exact h.c0, by rw [World.cell?_setCell_other _ _ _ _ (by simp)]; exact h.c1, by have := h.c2; simp [go_sem, this], by rw [World.cell?_setCell_other _ _ _ _ (by simp)]; exact h.c3, by rw [World.cell?_setCell_other _ _ _ _ (by simp)]; exact h.c4, by rw [World.cell?_setCell_other _ _ _ _ (by simp)]; exact h.c5, by rw [World.cell?_setCell_other _ _ _ _ (by simp)]; exact h.c6, by rw [World.cell?_setCell_other _ _ _ _ (by simp)]; exact h.c7, fun i => by rw [World.frozen?_setCell]; exact h.f i⟩
theorem RB.put3 {w : World} {B : Nat} {r : Rc} (h : RB w B r) (x : Bool) : RB (w.setCell ⟨B, 3, none⟩ (.bool x)) B { r with hd := x } :=
  ⟨by rw [World.cell?_setCell_other _ _ _ _ (by simp)]; exact h.c0, by rw [World.cell?_setCell_other _ _ _ _ (by simp)]; exact h.c1, by rw [World.cell?_setCell_other _ _ _ _ (by simp)]; exact h.c2, by have := h.c3; simp [go_sem, this], by rw [World.cell?_setCell_other _ _ _ _ (by simp)]; exact h.c4, by rw [World.cell?_setCell_other _ _ _ _ (by simp)]; exact h.c5, by rw [World.cell?_setCell_other _ _ _ _ (by simp)]; exact h.c6, by rw [World.cell?_setCell_other _ _ _ _ (by simp)]; exact h.c7, fun i => by rw [World.frozen?_setCell]; exact h.f i⟩
theorem RB.put4 {w : World} {B : Nat} {r : Rc} (h : RB w B r) (x : Int) : RB (w.setCell ⟨B, 4, none⟩ (.int .i64 x)) B { r with old := x } :=
  ⟨by rw [World.cell?_setCell_other _ _ _ _ (by simp)]; exact h.c0, by rw [World.cell?_setCell_other _ _ _ _ (by simp)]; exact h.c1, by rw [World.cell?_setCell_other _ _ _ _ (by simp)]; exact h.c2, by rw [World.cell?_setCell_other _ _ _ _ (by simp)]; exact h.c3, by have := h.c4; simp [go_sem, this], by rw [World.cell?_setCell_other _ _ _ _ (by simp)]; exact h.c5, by rw [World.cell?_setCell_other _ _ _ _ (by simp)]; exact h.c6, by rw [World.cell?_setCell_other _ _ _ _ (by simp)]; exact h.c7, fun i => by rw [World.frozen?_setCell]; exact h.f i⟩
theorem RB.put5 {w : World} {B : Nat} {r : Rc} (h : RB w B r) (x : Bool) : RB (w.setCell ⟨B, 5, none⟩ (.bool x)) B { r with hs := x } :=
  ⟨by rw [World.cell?_setCell_other _ _ _ _ (by simp)]; exact h.c0, by rw [World.cell?_setCell_other _ _ _ _ (by simp)]; exact h.c1, by rw [World.cell?_setCell_other _ _ _ _ (by simp)]; exact h.c2, by rw [World.cell?_setCell_other _ _ _ _ (by simp)]; exact h.c3, by rw [World.cell?_setCell_other _ _ _ _ (by simp)]; exact h.c4, by have := h.c5; simp [go_sem, this], by rw [World.cell?_setCell_other _ _ _ _ (by simp)]; exact h.c6, by rw [World.cell?_setCell_other _ _ _ _ (by simp)]; exact h.c7, fun i => by rw [World.frozen?_setCell]; exact h.f i⟩
theorem RB.put6 {w : World} {B : Nat} {r : Rc} (h : RB w B r) (x : Int) : RB (w.setCell ⟨B, 6, none⟩ (.int .i64 x)) B { r with nw := x } :=
  ⟨by rw [World.cell?_setCell_other _ _ _ _ (by simp)]; exact h.c0, by rw [World.cell?_setCell_other _ _ _ _ (by simp)]; exact h.c1, by rw [World.cell?_setCell_other _ _ _ _ (by simp)]; exact h.c2, by rw [World.cell?_setCell_other _ _ _ _ (by simp)]; exact h.c3, by rw [World.cell?_setCell_other _ _ _ _ (by simp)]; exact h.c4, by rw [World.cell?_setCell_other _ _ _ _ (by simp)]; exact h.c5, by have := h.c6; simp [go_sem, this], by rw [World.cell?_setCell_other _ _ _ _ (by simp)]; exact h.c7, fun i => by rw [World.frozen?_setCell]; exact h.f i⟩
theorem RB.put7 {w : World} {B : Nat} {r : Rc} (h : RB w B r) (x : Int) : RB (w.setCell ⟨B, 7, none⟩ (.int .i64 x)) B { r with bk := x } :=
  ⟨by rw [World.cell?_setCell_other _ _ _ _ (by simp)]; exact h.c0, by rw [World.cell?_setCell_other _ _ _ _ (by simp)]; exact h.c1, by rw [World.cell?_setCell_other _ _ _ _ (by simp)]; exact h.c2, by rw [World.cell?_setCell_other _ _ _ _ (by simp)]; exact h.c3, by rw [World.cell?_setCell_other _ _ _ _ (by simp)]; exact h.c4, by rw [World.cell?_setCell_other _ _ _ _ (by simp)]; exact h.c5, by rw [World.cell?_setCell_other _ _ _ _ (by simp)]; exact h.c6, by have := h.c7; simp [go_sem, this], fun i => by rw [World.frozen?_setCell]; exact h.f i⟩
end Go.Proofs.Ytppckjecidcflaa
namespace Go.Proofs.Ytppckjecidcflaa
open Go.RowKit Go.Deep
set_option linter.unusedVariables false
set_option linter.unusedSimpArgs false
set_option maxRecDepth 20000

/-- The record as a value. -/
def rV (r : Rc) : Value := .agg #[.int .i64 r.k, .int .i64 r.t, .int .i64 r.key, .bool r.hd, .int .i64 r.old, .bool r.hs, .int .i64 r.nw, .int .i64 r.bk]
set_option maxHeartbeats 4000000 in
theorem l3Rec_any (S : Nat) (a : Option Addr) (k cap : Nat) (z : Nat → Int) (t : Nat) (w : World) (ht : t ≤ 999900) (h : Src w S a k cap z t) :
    Calls Try.prog 51 #[.pointer (some ⟨S, 0, none⟩)] w fun e w' => ∃ (r : Rc) (t' : Nat), e = .returned (rV r) ∧ t' ≤ t + 20 ∧ Dw S a k cap z t' w w' := by
  have HS : Hid (Src w S a k cap z t) := h
  have HL : Hid (S < w.heap.size) := h.lt
  clear h
  go_enter Try.func51, Try.ntmps51
  go_wp2_with fail
  obtain ⟨W, hW⟩ : ∃ x, x = w.alloc (.cells #[.int .i64 0, .int .i64 0, .int .i64 0, .bool false, .int .i64 0, .bool false, .int .i64 0, .int .i64 0] 33) := ⟨_, rfl⟩
  have HB : Hid (RB W w.heap.size zR8) := by
    rw [hW]
    exact ⟨by simp [go_sem, zR8], by simp [go_sem, zR8], by simp [go_sem, zR8], by simp [go_sem, zR8], by simp [go_sem, zR8], by simp [go_sem, zR8], by simp [go_sem, zR8], by simp [go_sem, zR8], fun i => by simp [go_sem]⟩
  have HD : Hid (Dw S a k cap z t w W) := by rw [hW]; exact HS.out.self.below (below_new _ _)
  rw [← hW]
  clear hW
  refine (l1Next_any S a k cap z t 5 W (by omega) (by omega) HD.out.src).mono ?_
  rintro e w1 ⟨v1, rfl, hv1, hn1⟩
  have HD1 : Hid (Dw S a k cap z (t + 1) w w1) := HD.out.trans hn1.dw
  have HB1 : Hid (RB w1 w.heap.size zR8) := HB.out.block (hn1.1.block _ HB.out.lt (by have := HL.out; omega))
  obtain ⟨l1, u1, -⟩ := hv1
  have u1 := u1 (by omega)
  clear hn1
  go_wp2_with fail
  refine (l1Next_any S a k cap z (t + 1) 4 w1 (by omega) (by omega) HD1.out.src).mono ?_
  rintro e w2 ⟨v2, rfl, hv2, hn2⟩
  have HD2 : Hid (Dw S a k cap z (t + 2) w w2) := HD1.out.trans hn2.dw
  have HB2 : Hid (RB w2 w.heap.size zR8) := HB1.out.block (hn2.1.block _ HB1.out.lt (by have := HL.out; omega))
  obtain ⟨l2, u2, -⟩ := hv2
  have u2 := u2 (by omega)
  clear hn2
  go_wp2_with fail
  have HR0 : Hid (RS S a k cap z (t + 2) w (w2.alloc (.cells #[.int .i64 (1 + v1), .int .i64 (1 + v2), .int .i64 0, .bool false, .int .i64 0, .bool false, .int .i64 0, .int .i64 0] 33)) w2.heap.size ⟨1 + v1, 1 + v2, 0, false, 0, false, 0, 0⟩) := ⟨HD2.out.below (below_new _ _), HB2.out.block ((below_new _ _).block _ HB2.out.lt), ⟨by simp [go_sem], by simp [go_sem], by simp [go_sem], by simp [go_sem], by simp [go_sem], by simp [go_sem], by simp [go_sem], by simp [go_sem], fun i => by simp [go_sem]⟩, HB2.out.lt, HL.out⟩
  have HT : Hid (t ≤ 999900) := ht
  generalize hB3 : w2.heap.size = B3 at *
  clear hB3 HD HB HD1 HB1 HD2 HB2
  refine (l1Chance_any S a k cap z (t + 2) 10 _ (by have := HT.out; omega) (by omega) HR0.out.d.src).mono ?_
  rintro e x1 ⟨b, rfl, hn⟩
  have HR1 : Hid (RS S a k cap z (t + 2 + 1) w x1 B3 (⟨1 + v1, 1 + v2, 0, false, 0, false, 0, 0⟩ : Rc)) := HR0.out.call hn.dw
  clear hn
  cases b
  case true =>
    have d0 : (x1).cell? ⟨w.heap.size, 0, none⟩ = some (.int .i64 (0)) := HR1.out.b2.c0
    have d1 : (x1).cell? ⟨w.heap.size, 1, none⟩ = some (.int .i64 (0)) := HR1.out.b2.c1
    have d2 : (x1).cell? ⟨w.heap.size, 2, none⟩ = some (.int .i64 (0)) := HR1.out.b2.c2
    have d3 : (x1).cell? ⟨w.heap.size, 3, none⟩ = some (.bool (false)) := HR1.out.b2.c3
    have d4 : (x1).cell? ⟨w.heap.size, 4, none⟩ = some (.int .i64 (0)) := HR1.out.b2.c4
    have d5 : (x1).cell? ⟨w.heap.size, 5, none⟩ = some (.bool (false)) := HR1.out.b2.c5
    have d6 : (x1).cell? ⟨w.heap.size, 6, none⟩ = some (.int .i64 (0)) := HR1.out.b2.c6
    have d7 : (x1).cell? ⟨w.heap.size, 7, none⟩ = some (.int .i64 (0)) := HR1.out.b2.c7
    have df : ∀ i, (x1).frozen? ⟨w.heap.size, i, none⟩ = false := HR1.out.b2.f
    go_wp2_with fail
    refine bodyPost_ret (v := rV ⟨6, 0, 0, false, 0, false, 0, 0⟩) (by simp [results, Try.results51, go_sem, rV, d0, d1, d2, d3, d4, d5, d6, d7]) rfl ⟨_, _, rfl, by have := HT.out; omega, HR1.out.d.over ?_ HL.out⟩
    repeat (first | with_reducible exact Below.refl _ _ | with_reducible apply Below.drew | with_reducible refine Below.setCell ?_ (by exact Nat.le_refl _) _)
  case false =>
    have q0 : (x1).cell? ⟨B3, 0, none⟩ = some (.int .i64 (1 + v1)) := HR1.out.b3.c0
    have q1 : (x1).cell? ⟨B3, 1, none⟩ = some (.int .i64 (1 + v2)) := HR1.out.b3.c1
    have q2 : (x1).cell? ⟨B3, 2, none⟩ = some (.int .i64 (0)) := HR1.out.b3.c2
    have q3 : (x1).cell? ⟨B3, 3, none⟩ = some (.bool (false)) := HR1.out.b3.c3
    have q4 : (x1).cell? ⟨B3, 4, none⟩ = some (.int .i64 (0)) := HR1.out.b3.c4
    have q5 : (x1).cell? ⟨B3, 5, none⟩ = some (.bool (false)) := HR1.out.b3.c5
    have q6 : (x1).cell? ⟨B3, 6, none⟩ = some (.int .i64 (0)) := HR1.out.b3.c6
    have q7 : (x1).cell? ⟨B3, 7, none⟩ = some (.int .i64 (0)) := HR1.out.b3.c7
    have qf : ∀ i, (x1).frozen? ⟨B3, i, none⟩ = false := HR1.out.b3.f
    go_upto_region 4 with fail
    go_cut [25] (fun cc wx => ∃ (b : Bool) (t5 : Nat), cc = .bool b ∧ Hid (t5 ≤ t + 4) ∧ Hid (RS S a k cap z t5 w wx B3 (⟨1 + v1, 1 + v2, 0, false, 0, false, 0, 0⟩ : Rc)))
    case first =>
      by_cases e2 : v1 = 1
      · subst e2
        go_wp2_with fail
        go_meet
        exact ⟨_, _, rfl, (by show _ ≤ _; omega), HR1⟩
      · by_cases e5 : v1 = 4
        · subst e5
          go_wp2_with fail
          go_meet
          exact ⟨_, _, rfl, (by show _ ≤ _; omega), HR1⟩
        · have e2 : 1 + v1 ≠ 2 := by omega
          have e5 : 1 + v1 ≠ 5 := by omega
          go_wp2_with fail
          clear q0 q1 q2 q3 q4 q5 q6 q7 qf
          refine (l1Chance_any S a k cap z (t + 2 + 1) 2 _ (by have := HT.out; omega) (by omega) HR1.out.d.src).mono ?_
          rintro e x2 ⟨b, rfl, hn⟩
          have HR2 : Hid (RS S a k cap z (t + 2 + 1 + 1) w x2 B3 (⟨1 + v1, 1 + v2, 0, false, 0, false, 0, 0⟩ : Rc)) := HR1.out.call hn.dw
          clear hn
          go_wp2_with fail
          go_meet
          exact ⟨_, _, rfl, (by show _ ≤ _; omega), HR2⟩
    case rest =>
      clear q0 q1 q2 q3 q4 q5 q6 q7 qf
      obtain ⟨b, t5, rfl, HT5, HRc⟩ := hcut
      have HT : Hid (t5 ≤ 999904) := by have := HT.out; have := HT5.out; show _ ≤ _; omega
      cases b
      case false =>
        have q0 : (wc).cell? ⟨B3, 0, none⟩ = some (.int .i64 (1 + v1)) := HRc.out.b3.c0
        have q1 : (wc).cell? ⟨B3, 1, none⟩ = some (.int .i64 (1 + v2)) := HRc.out.b3.c1
        have q2 : (wc).cell? ⟨B3, 2, none⟩ = some (.int .i64 (0)) := HRc.out.b3.c2
        have q3 : (wc).cell? ⟨B3, 3, none⟩ = some (.bool (false)) := HRc.out.b3.c3
        have q4 : (wc).cell? ⟨B3, 4, none⟩ = some (.int .i64 (0)) := HRc.out.b3.c4
        have q5 : (wc).cell? ⟨B3, 5, none⟩ = some (.bool (false)) := HRc.out.b3.c5
        have q6 : (wc).cell? ⟨B3, 6, none⟩ = some (.int .i64 (0)) := HRc.out.b3.c6
        have q7 : (wc).cell? ⟨B3, 7, none⟩ = some (.int .i64 (0)) := HRc.out.b3.c7
        have qf : ∀ i, (wc).frozen? ⟨B3, i, none⟩ = false := HRc.out.b3.f
        have d0 : (wc).cell? ⟨w.heap.size, 0, none⟩ = some (.int .i64 (0)) := HRc.out.b2.c0
        have d1 : (wc).cell? ⟨w.heap.size, 1, none⟩ = some (.int .i64 (0)) := HRc.out.b2.c1
        have d2 : (wc).cell? ⟨w.heap.size, 2, none⟩ = some (.int .i64 (0)) := HRc.out.b2.c2
        have d3 : (wc).cell? ⟨w.heap.size, 3, none⟩ = some (.bool (false)) := HRc.out.b2.c3
        have d4 : (wc).cell? ⟨w.heap.size, 4, none⟩ = some (.int .i64 (0)) := HRc.out.b2.c4
        have d5 : (wc).cell? ⟨w.heap.size, 5, none⟩ = some (.bool (false)) := HRc.out.b2.c5
        have d6 : (wc).cell? ⟨w.heap.size, 6, none⟩ = some (.int .i64 (0)) := HRc.out.b2.c6
        have d7 : (wc).cell? ⟨w.heap.size, 7, none⟩ = some (.int .i64 (0)) := HRc.out.b2.c7
        have df : ∀ i, (wc).frozen? ⟨w.heap.size, i, none⟩ = false := HRc.out.b2.f
        go_wp2_with fail
        refine bodyPost_ret (v := rV (⟨1 + v1, 1 + v2, 0, false, 0, false, 0, 0⟩ : Rc)) (by simp [results, Try.results51, go_sem, rV, d0, d1, d2, d3, d4, d5, d6, d7]) rfl ⟨_, _, rfl, by have := HT5.out; omega, HRc.out.d.over ?_ HL.out⟩
        repeat (first | with_reducible exact Below.refl _ _ | with_reducible apply Below.drew | with_reducible refine Below.setCell ?_ (by exact Nat.le_refl _) _)
      case true =>
        have hB3 : w.heap.size ≤ B3 := Nat.le_of_lt HRc.out.lt
        have hne1 : w.heap.size ≠ B3 := Nat.ne_of_lt HRc.out.lt
        have hne2 : B3 ≠ w.heap.size := Ne.symm hne1
        go_wp2_with fail
        have HP : Hid (RS S a k cap z t5 w (wc.alloc (.cells #[.int .i64 2, .int .i64 2, .int .i64 5] 2)) B3 (⟨1 + v1, 1 + v2, 0, false, 0, false, 0, 0⟩ : Rc)) := HRc.out.below (below_new _ _)
        refine (l1Pick_any S a k cap z t5 wc.heap.size 0 3 3 (fun i => if i = 2 then 5 else 2) _ (by have := HT.out; omega) (by omega) (by omega) (by have := HRc.out.d.src.lt; omega) (by simp [go_sem]) (fun i hi => ?_) HP.out.d.src).mono ?_
        · rcases i with - | - | - | i
          · simp [go_sem]
          · simp [go_sem]
          · simp [go_sem]
          · omega
        rintro e y1 ⟨i, hi, rfl, hn⟩
        obtain ⟨kd, hkd, hkk⟩ : ∃ kd : Int, (if i = 2 then (5 : Int) else 2) = kd ∧ (kd = 2 ∨ kd = 5) := ⟨_, rfl, by split <;> simp⟩
        have HK : Hid (kd = 2 ∨ kd = 5) := hkk
        have HY : Hid (RS S a k cap z (t5 + 1) w y1 B3 (⟨1 + v1, 1 + v2, 0, false, 0, false, 0, 0⟩ : Rc)) := HP.out.call hn.dw
        simp only [hkd]
        clear hn hkd hkk hi HP
        have q0 : (y1).cell? ⟨B3, 0, none⟩ = some (.int .i64 (1 + v1)) := HY.out.b3.c0
        have q1 : (y1).cell? ⟨B3, 1, none⟩ = some (.int .i64 (1 + v2)) := HY.out.b3.c1
        have q2 : (y1).cell? ⟨B3, 2, none⟩ = some (.int .i64 (0)) := HY.out.b3.c2
        have q3 : (y1).cell? ⟨B3, 3, none⟩ = some (.bool (false)) := HY.out.b3.c3
        have q4 : (y1).cell? ⟨B3, 4, none⟩ = some (.int .i64 (0)) := HY.out.b3.c4
        have q5 : (y1).cell? ⟨B3, 5, none⟩ = some (.bool (false)) := HY.out.b3.c5
        have q6 : (y1).cell? ⟨B3, 6, none⟩ = some (.int .i64 (0)) := HY.out.b3.c6
        have q7 : (y1).cell? ⟨B3, 7, none⟩ = some (.int .i64 (0)) := HY.out.b3.c7
        have qf : ∀ i, (y1).frozen? ⟨B3, i, none⟩ = false := HY.out.b3.f
        have HR3 : Hid (RS S a k cap z (t5 + 1) w (y1.setCell ⟨B3, 0, none⟩ (.int .i64 kd)) B3 (⟨kd, 1 + v2, 0, false, 0, false, 0, 0⟩ : Rc)) := HY.out.put 0 _ (HY.out.b3.put0 _)
        go_wp2_with fail
        clear q0 q1 q2 q3 q4 q5 q6 q7 qf
        refine (l1DrawKey_any S a k cap z (t5 + 1) _ (by have := HT.out; omega) HR3.out.d.src).mono ?_
        rintro e x4 ⟨ky, rfl, -, hn⟩
        have HR4 : Hid (RS S a k cap z (t5 + 1 + 4) w x4 B3 (⟨kd, 1 + v2, 0, false, 0, false, 0, 0⟩ : Rc)) := HR3.out.call hn
        clear hn
        have q0 : (x4).cell? ⟨B3, 0, none⟩ = some (.int .i64 (kd)) := HR4.out.b3.c0
        have q1 : (x4).cell? ⟨B3, 1, none⟩ = some (.int .i64 (1 + v2)) := HR4.out.b3.c1
        have q2 : (x4).cell? ⟨B3, 2, none⟩ = some (.int .i64 (0)) := HR4.out.b3.c2
        have q3 : (x4).cell? ⟨B3, 3, none⟩ = some (.bool (false)) := HR4.out.b3.c3
        have q4 : (x4).cell? ⟨B3, 4, none⟩ = some (.int .i64 (0)) := HR4.out.b3.c4
        have q5 : (x4).cell? ⟨B3, 5, none⟩ = some (.bool (false)) := HR4.out.b3.c5
        have q6 : (x4).cell? ⟨B3, 6, none⟩ = some (.int .i64 (0)) := HR4.out.b3.c6
        have q7 : (x4).cell? ⟨B3, 7, none⟩ = some (.int .i64 (0)) := HR4.out.b3.c7
        have qf : ∀ i, (x4).frozen? ⟨B3, i, none⟩ = false := HR4.out.b3.f
        have HR5 : Hid (RS S a k cap z (t5 + 1 + 4) w (x4.setCell ⟨B3, 2, none⟩ (.int .i64 ky)) B3 (⟨kd, 1 + v2, ky, false, 0, false, 0, 0⟩ : Rc)) := HR4.out.put 2 _ (HR4.out.b3.put2 _)
        go_wp2_with fail
        clear q0 q1 q2 q3 q4 q5 q6 q7 qf
        refine (l1Chance_any S a k cap z (t5 + 1 + 4) 2 _ (by have := HT.out; omega) (by omega) HR5.out.d.src).mono ?_
        rintro e x6 ⟨hd, rfl, hn⟩
        have HR6 : Hid (RS S a k cap z (t5 + 1 + 4 + 1) w x6 B3 (⟨kd, 1 + v2, ky, false, 0, false, 0, 0⟩ : Rc)) := HR5.out.call hn.dw
        clear hn
        have q0 : (x6).cell? ⟨B3, 0, none⟩ = some (.int .i64 (kd)) := HR6.out.b3.c0
        have q1 : (x6).cell? ⟨B3, 1, none⟩ = some (.int .i64 (1 + v2)) := HR6.out.b3.c1
        have q2 : (x6).cell? ⟨B3, 2, none⟩ = some (.int .i64 (ky)) := HR6.out.b3.c2
        have q3 : (x6).cell? ⟨B3, 3, none⟩ = some (.bool (false)) := HR6.out.b3.c3
        have q4 : (x6).cell? ⟨B3, 4, none⟩ = some (.int .i64 (0)) := HR6.out.b3.c4
        have q5 : (x6).cell? ⟨B3, 5, none⟩ = some (.bool (false)) := HR6.out.b3.c5
        have q6 : (x6).cell? ⟨B3, 6, none⟩ = some (.int .i64 (0)) := HR6.out.b3.c6
        have q7 : (x6).cell? ⟨B3, 7, none⟩ = some (.int .i64 (0)) := HR6.out.b3.c7
        have qf : ∀ i, (x6).frozen? ⟨B3, i, none⟩ = false := HR6.out.b3.f
        have HR7 : Hid (RS S a k cap z (t5 + 1 + 4 + 1) w (x6.setCell ⟨B3, 3, none⟩ (.bool hd)) B3 (⟨kd, 1 + v2, ky, hd, 0, false, 0, 0⟩ : Rc)) := HR6.out.put 3 _ (HR6.out.b3.put3 _)
        go_wp2_with fail
        clear q0 q1 q2 q3 q4 q5 q6 q7 qf
        refine (l1Chance_any S a k cap z (t5 + 1 + 4 + 1) 4 _ (by have := HT.out; omega) (by omega) HR7.out.d.src).mono ?_
        rintro e x8 ⟨hb, rfl, hn⟩
        have HR8 : Hid (RS S a k cap z (t5 + 1 + 4 + 1 + 1) w x8 B3 (⟨kd, 1 + v2, ky, hd, 0, false, 0, 0⟩ : Rc)) := HR7.out.call hn.dw
        clear hn
        have HKc := HK.out
        clear HK
        rcases HKc with rfl | rfl <;> cases hd <;> cases hb
        · have q0 : (x8).cell? ⟨B3, 0, none⟩ = some (.int .i64 (2)) := HR8.out.b3.c0
          have q1 : (x8).cell? ⟨B3, 1, none⟩ = some (.int .i64 (1 + v2)) := HR8.out.b3.c1
          have q2 : (x8).cell? ⟨B3, 2, none⟩ = some (.int .i64 (ky)) := HR8.out.b3.c2
          have q3 : (x8).cell? ⟨B3, 3, none⟩ = some (.bool (false)) := HR8.out.b3.c3
          have q4 : (x8).cell? ⟨B3, 4, none⟩ = some (.int .i64 (0)) := HR8.out.b3.c4
          have q5 : (x8).cell? ⟨B3, 5, none⟩ = some (.bool (false)) := HR8.out.b3.c5
          have q6 : (x8).cell? ⟨B3, 6, none⟩ = some (.int .i64 (0)) := HR8.out.b3.c6
          have q7 : (x8).cell? ⟨B3, 7, none⟩ = some (.int .i64 (0)) := HR8.out.b3.c7
          have qf : ∀ i, (x8).frozen? ⟨B3, i, none⟩ = false := HR8.out.b3.f
          have HR9 : Hid (RS S a k cap z (t5 + 1 + 4 + 1 + 1) w (x8.setCell ⟨B3, 5, none⟩ (.bool true)) B3 (⟨2, 1 + v2, ky, false, 0, true, 0, 0⟩ : Rc)) := HR8.out.put 5 _ (HR8.out.b3.put5 _)
          go_wp2_with fail
          clear q0 q1 q2 q3 q4 q5 q6 q7 qf
          refine (l1Next_any S a k cap z (t5 + 1 + 4 + 1 + 1) 90 _ (by have := HT.out; omega) (by omega) HR9.out.d.src).mono ?_
          rintro e x10 ⟨nw, rfl, -, hn⟩
          have HR10 : Hid (RS S a k cap z (t5 + 1 + 4 + 1 + 1 + 1) w x10 B3 (⟨2, 1 + v2, ky, false, 0, true, 0, 0⟩ : Rc)) := HR9.out.call hn.dw
          clear hn
          have q0 : (x10).cell? ⟨B3, 0, none⟩ = some (.int .i64 (2)) := HR10.out.b3.c0
          have q1 : (x10).cell? ⟨B3, 1, none⟩ = some (.int .i64 (1 + v2)) := HR10.out.b3.c1
          have q2 : (x10).cell? ⟨B3, 2, none⟩ = some (.int .i64 (ky)) := HR10.out.b3.c2
          have q3 : (x10).cell? ⟨B3, 3, none⟩ = some (.bool (false)) := HR10.out.b3.c3
          have q4 : (x10).cell? ⟨B3, 4, none⟩ = some (.int .i64 (0)) := HR10.out.b3.c4
          have q5 : (x10).cell? ⟨B3, 5, none⟩ = some (.bool (true)) := HR10.out.b3.c5
          have q6 : (x10).cell? ⟨B3, 6, none⟩ = some (.int .i64 (0)) := HR10.out.b3.c6
          have q7 : (x10).cell? ⟨B3, 7, none⟩ = some (.int .i64 (0)) := HR10.out.b3.c7
          have qf : ∀ i, (x10).frozen? ⟨B3, i, none⟩ = false := HR10.out.b3.f
          have HR11 : Hid (RS S a k cap z (t5 + 1 + 4 + 1 + 1 + 1) w (x10.setCell ⟨B3, 6, none⟩ (.int .i64 nw)) B3 (⟨2, 1 + v2, ky, false, 0, true, nw, 0⟩ : Rc)) := HR10.out.put 6 _ (HR10.out.b3.put6 _)
          have d0 : (x10).cell? ⟨w.heap.size, 0, none⟩ = some (.int .i64 (0)) := HR10.out.b2.c0
          have d1 : (x10).cell? ⟨w.heap.size, 1, none⟩ = some (.int .i64 (0)) := HR10.out.b2.c1
          have d2 : (x10).cell? ⟨w.heap.size, 2, none⟩ = some (.int .i64 (0)) := HR10.out.b2.c2
          have d3 : (x10).cell? ⟨w.heap.size, 3, none⟩ = some (.bool (false)) := HR10.out.b2.c3
          have d4 : (x10).cell? ⟨w.heap.size, 4, none⟩ = some (.int .i64 (0)) := HR10.out.b2.c4
          have d5 : (x10).cell? ⟨w.heap.size, 5, none⟩ = some (.bool (false)) := HR10.out.b2.c5
          have d6 : (x10).cell? ⟨w.heap.size, 6, none⟩ = some (.int .i64 (0)) := HR10.out.b2.c6
          have d7 : (x10).cell? ⟨w.heap.size, 7, none⟩ = some (.int .i64 (0)) := HR10.out.b2.c7
          have df : ∀ i, (x10).frozen? ⟨w.heap.size, i, none⟩ = false := HR10.out.b2.f
          go_wp2_with fail
          refine bodyPost_ret (v := rV (⟨2, 1 + v2, ky, false, 0, true, nw, 0⟩ : Rc)) (by simp [results, Try.results51, go_sem, rV, hne1, hne2, d0, d1, d2, d3, d4, d5, d6, d7]) rfl ⟨_, _, rfl, by have := HT5.out; omega, HR10.out.d.over ?_ HL.out⟩
          repeat (first | with_reducible exact Below.refl _ _ | with_reducible apply Below.drew | with_reducible refine Below.setCell ?_ (by first | exact Nat.le_refl _ | exact hB3) _)
        · have q0 : (x8).cell? ⟨B3, 0, none⟩ = some (.int .i64 (2)) := HR8.out.b3.c0
          have q1 : (x8).cell? ⟨B3, 1, none⟩ = some (.int .i64 (1 + v2)) := HR8.out.b3.c1
          have q2 : (x8).cell? ⟨B3, 2, none⟩ = some (.int .i64 (ky)) := HR8.out.b3.c2
          have q3 : (x8).cell? ⟨B3, 3, none⟩ = some (.bool (false)) := HR8.out.b3.c3
          have q4 : (x8).cell? ⟨B3, 4, none⟩ = some (.int .i64 (0)) := HR8.out.b3.c4
          have q5 : (x8).cell? ⟨B3, 5, none⟩ = some (.bool (false)) := HR8.out.b3.c5
          have q6 : (x8).cell? ⟨B3, 6, none⟩ = some (.int .i64 (0)) := HR8.out.b3.c6
          have q7 : (x8).cell? ⟨B3, 7, none⟩ = some (.int .i64 (0)) := HR8.out.b3.c7
          have qf : ∀ i, (x8).frozen? ⟨B3, i, none⟩ = false := HR8.out.b3.f
          have HR9 : Hid (RS S a k cap z (t5 + 1 + 4 + 1 + 1) w (x8.setCell ⟨B3, 5, none⟩ (.bool false)) B3 (⟨2, 1 + v2, ky, false, 0, false, 0, 0⟩ : Rc)) := HR8.out.put 5 _ (HR8.out.b3.put5 _)
          have d0 : (x8).cell? ⟨w.heap.size, 0, none⟩ = some (.int .i64 (0)) := HR8.out.b2.c0
          have d1 : (x8).cell? ⟨w.heap.size, 1, none⟩ = some (.int .i64 (0)) := HR8.out.b2.c1
          have d2 : (x8).cell? ⟨w.heap.size, 2, none⟩ = some (.int .i64 (0)) := HR8.out.b2.c2
          have d3 : (x8).cell? ⟨w.heap.size, 3, none⟩ = some (.bool (false)) := HR8.out.b2.c3
          have d4 : (x8).cell? ⟨w.heap.size, 4, none⟩ = some (.int .i64 (0)) := HR8.out.b2.c4
          have d5 : (x8).cell? ⟨w.heap.size, 5, none⟩ = some (.bool (false)) := HR8.out.b2.c5
          have d6 : (x8).cell? ⟨w.heap.size, 6, none⟩ = some (.int .i64 (0)) := HR8.out.b2.c6
          have d7 : (x8).cell? ⟨w.heap.size, 7, none⟩ = some (.int .i64 (0)) := HR8.out.b2.c7
          have df : ∀ i, (x8).frozen? ⟨w.heap.size, i, none⟩ = false := HR8.out.b2.f
          go_wp2_with fail
          refine bodyPost_ret (v := rV (⟨2, 1 + v2, ky, false, 0, false, 0, 0⟩ : Rc)) (by simp [results, Try.results51, go_sem, rV, hne1, hne2, d0, d1, d2, d3, d4, d5, d6, d7]) rfl ⟨_, _, rfl, by have := HT5.out; omega, HR8.out.d.over ?_ HL.out⟩
          repeat (first | with_reducible exact Below.refl _ _ | with_reducible apply Below.drew | with_reducible refine Below.setCell ?_ (by first | exact Nat.le_refl _ | exact hB3) _)
        · have q0 : (x8).cell? ⟨B3, 0, none⟩ = some (.int .i64 (2)) := HR8.out.b3.c0
          have q1 : (x8).cell? ⟨B3, 1, none⟩ = some (.int .i64 (1 + v2)) := HR8.out.b3.c1
          have q2 : (x8).cell? ⟨B3, 2, none⟩ = some (.int .i64 (ky)) := HR8.out.b3.c2
          have q3 : (x8).cell? ⟨B3, 3, none⟩ = some (.bool (true)) := HR8.out.b3.c3
          have q4 : (x8).cell? ⟨B3, 4, none⟩ = some (.int .i64 (0)) := HR8.out.b3.c4
          have q5 : (x8).cell? ⟨B3, 5, none⟩ = some (.bool (false)) := HR8.out.b3.c5
          have q6 : (x8).cell? ⟨B3, 6, none⟩ = some (.int .i64 (0)) := HR8.out.b3.c6
          have q7 : (x8).cell? ⟨B3, 7, none⟩ = some (.int .i64 (0)) := HR8.out.b3.c7
          have qf : ∀ i, (x8).frozen? ⟨B3, i, none⟩ = false := HR8.out.b3.f
          have HR9 : Hid (RS S a k cap z (t5 + 1 + 4 + 1 + 1) w (x8.setCell ⟨B3, 5, none⟩ (.bool true)) B3 (⟨2, 1 + v2, ky, true, 0, true, 0, 0⟩ : Rc)) := HR8.out.put 5 _ (HR8.out.b3.put5 _)
          go_wp2_with fail
          clear q0 q1 q2 q3 q4 q5 q6 q7 qf
          refine (l1Next_any S a k cap z (t5 + 1 + 4 + 1 + 1) 90 _ (by have := HT.out; omega) (by omega) HR9.out.d.src).mono ?_
          rintro e x10 ⟨od, rfl, -, hn⟩
          have HR10 : Hid (RS S a k cap z (t5 + 1 + 4 + 1 + 1 + 1) w x10 B3 (⟨2, 1 + v2, ky, true, 0, true, 0, 0⟩ : Rc)) := HR9.out.call hn.dw
          clear hn
          have q0 : (x10).cell? ⟨B3, 0, none⟩ = some (.int .i64 (2)) := HR10.out.b3.c0
          have q1 : (x10).cell? ⟨B3, 1, none⟩ = some (.int .i64 (1 + v2)) := HR10.out.b3.c1
          have q2 : (x10).cell? ⟨B3, 2, none⟩ = some (.int .i64 (ky)) := HR10.out.b3.c2
          have q3 : (x10).cell? ⟨B3, 3, none⟩ = some (.bool (true)) := HR10.out.b3.c3
          have q4 : (x10).cell? ⟨B3, 4, none⟩ = some (.int .i64 (0)) := HR10.out.b3.c4
          have q5 : (x10).cell? ⟨B3, 5, none⟩ = some (.bool (true)) := HR10.out.b3.c5
          have q6 : (x10).cell? ⟨B3, 6, none⟩ = some (.int .i64 (0)) := HR10.out.b3.c6
          have q7 : (x10).cell? ⟨B3, 7, none⟩ = some (.int .i64 (0)) := HR10.out.b3.c7
          have qf : ∀ i, (x10).frozen? ⟨B3, i, none⟩ = false := HR10.out.b3.f
          have HR11 : Hid (RS S a k cap z (t5 + 1 + 4 + 1 + 1 + 1) w (x10.setCell ⟨B3, 4, none⟩ (.int .i64 od)) B3 (⟨2, 1 + v2, ky, true, od, true, 0, 0⟩ : Rc)) := HR10.out.put 4 _ (HR10.out.b3.put4 _)
          go_wp2_with fail
          clear q0 q1 q2 q3 q4 q5 q6 q7 qf
          refine (l1Next_any S a k cap z (t5 + 1 + 4 + 1 + 1 + 1) 90 _ (by have := HT.out; omega) (by omega) HR11.out.d.src).mono ?_
          rintro e x12 ⟨nw, rfl, -, hn⟩
          have HR12 : Hid (RS S a k cap z (t5 + 1 + 4 + 1 + 1 + 1 + 1) w x12 B3 (⟨2, 1 + v2, ky, true, od, true, 0, 0⟩ : Rc)) := HR11.out.call hn.dw
          clear hn
          have q0 : (x12).cell? ⟨B3, 0, none⟩ = some (.int .i64 (2)) := HR12.out.b3.c0
          have q1 : (x12).cell? ⟨B3, 1, none⟩ = some (.int .i64 (1 + v2)) := HR12.out.b3.c1
          have q2 : (x12).cell? ⟨B3, 2, none⟩ = some (.int .i64 (ky)) := HR12.out.b3.c2
          have q3 : (x12).cell? ⟨B3, 3, none⟩ = some (.bool (true)) := HR12.out.b3.c3
          have q4 : (x12).cell? ⟨B3, 4, none⟩ = some (.int .i64 (od)) := HR12.out.b3.c4
          have q5 : (x12).cell? ⟨B3, 5, none⟩ = some (.bool (true)) := HR12.out.b3.c5
          have q6 : (x12).cell? ⟨B3, 6, none⟩ = some (.int .i64 (0)) := HR12.out.b3.c6
          have q7 : (x12).cell? ⟨B3, 7, none⟩ = some (.int .i64 (0)) := HR12.out.b3.c7
          have qf : ∀ i, (x12).frozen? ⟨B3, i, none⟩ = false := HR12.out.b3.f
          have HR13 : Hid (RS S a k cap z (t5 + 1 + 4 + 1 + 1 + 1 + 1) w (x12.setCell ⟨B3, 6, none⟩ (.int .i64 nw)) B3 (⟨2, 1 + v2, ky, true, od, true, nw, 0⟩ : Rc)) := HR12.out.put 6 _ (HR12.out.b3.put6 _)
          have d0 : (x12).cell? ⟨w.heap.size, 0, none⟩ = some (.int .i64 (0)) := HR12.out.b2.c0
          have d1 : (x12).cell? ⟨w.heap.size, 1, none⟩ = some (.int .i64 (0)) := HR12.out.b2.c1
          have d2 : (x12).cell? ⟨w.heap.size, 2, none⟩ = some (.int .i64 (0)) := HR12.out.b2.c2
          have d3 : (x12).cell? ⟨w.heap.size, 3, none⟩ = some (.bool (false)) := HR12.out.b2.c3
          have d4 : (x12).cell? ⟨w.heap.size, 4, none⟩ = some (.int .i64 (0)) := HR12.out.b2.c4
          have d5 : (x12).cell? ⟨w.heap.size, 5, none⟩ = some (.bool (false)) := HR12.out.b2.c5
          have d6 : (x12).cell? ⟨w.heap.size, 6, none⟩ = some (.int .i64 (0)) := HR12.out.b2.c6
          have d7 : (x12).cell? ⟨w.heap.size, 7, none⟩ = some (.int .i64 (0)) := HR12.out.b2.c7
          have df : ∀ i, (x12).frozen? ⟨w.heap.size, i, none⟩ = false := HR12.out.b2.f
          go_wp2_with fail
          refine bodyPost_ret (v := rV (⟨2, 1 + v2, ky, true, od, true, nw, 0⟩ : Rc)) (by simp [results, Try.results51, go_sem, rV, hne1, hne2, d0, d1, d2, d3, d4, d5, d6, d7]) rfl ⟨_, _, rfl, by have := HT5.out; omega, HR12.out.d.over ?_ HL.out⟩
          repeat (first | with_reducible exact Below.refl _ _ | with_reducible apply Below.drew | with_reducible refine Below.setCell ?_ (by first | exact Nat.le_refl _ | exact hB3) _)
        · have q0 : (x8).cell? ⟨B3, 0, none⟩ = some (.int .i64 (2)) := HR8.out.b3.c0
          have q1 : (x8).cell? ⟨B3, 1, none⟩ = some (.int .i64 (1 + v2)) := HR8.out.b3.c1
          have q2 : (x8).cell? ⟨B3, 2, none⟩ = some (.int .i64 (ky)) := HR8.out.b3.c2
          have q3 : (x8).cell? ⟨B3, 3, none⟩ = some (.bool (true)) := HR8.out.b3.c3
          have q4 : (x8).cell? ⟨B3, 4, none⟩ = some (.int .i64 (0)) := HR8.out.b3.c4
          have q5 : (x8).cell? ⟨B3, 5, none⟩ = some (.bool (false)) := HR8.out.b3.c5
          have q6 : (x8).cell? ⟨B3, 6, none⟩ = some (.int .i64 (0)) := HR8.out.b3.c6
          have q7 : (x8).cell? ⟨B3, 7, none⟩ = some (.int .i64 (0)) := HR8.out.b3.c7
          have qf : ∀ i, (x8).frozen? ⟨B3, i, none⟩ = false := HR8.out.b3.f
          have HR9 : Hid (RS S a k cap z (t5 + 1 + 4 + 1 + 1) w (x8.setCell ⟨B3, 5, none⟩ (.bool false)) B3 (⟨2, 1 + v2, ky, true, 0, false, 0, 0⟩ : Rc)) := HR8.out.put 5 _ (HR8.out.b3.put5 _)
          go_wp2_with fail
          clear q0 q1 q2 q3 q4 q5 q6 q7 qf
          refine (l1Next_any S a k cap z (t5 + 1 + 4 + 1 + 1) 90 _ (by have := HT.out; omega) (by omega) HR9.out.d.src).mono ?_
          rintro e x10 ⟨od, rfl, -, hn⟩
          have HR10 : Hid (RS S a k cap z (t5 + 1 + 4 + 1 + 1 + 1) w x10 B3 (⟨2, 1 + v2, ky, true, 0, false, 0, 0⟩ : Rc)) := HR9.out.call hn.dw
          clear hn
          have q0 : (x10).cell? ⟨B3, 0, none⟩ = some (.int .i64 (2)) := HR10.out.b3.c0
          have q1 : (x10).cell? ⟨B3, 1, none⟩ = some (.int .i64 (1 + v2)) := HR10.out.b3.c1
          have q2 : (x10).cell? ⟨B3, 2, none⟩ = some (.int .i64 (ky)) := HR10.out.b3.c2
          have q3 : (x10).cell? ⟨B3, 3, none⟩ = some (.bool (true)) := HR10.out.b3.c3
          have q4 : (x10).cell? ⟨B3, 4, none⟩ = some (.int .i64 (0)) := HR10.out.b3.c4
          have q5 : (x10).cell? ⟨B3, 5, none⟩ = some (.bool (false)) := HR10.out.b3.c5
          have q6 : (x10).cell? ⟨B3, 6, none⟩ = some (.int .i64 (0)) := HR10.out.b3.c6
          have q7 : (x10).cell? ⟨B3, 7, none⟩ = some (.int .i64 (0)) := HR10.out.b3.c7
          have qf : ∀ i, (x10).frozen? ⟨B3, i, none⟩ = false := HR10.out.b3.f
          have HR11 : Hid (RS S a k cap z (t5 + 1 + 4 + 1 + 1 + 1) w (x10.setCell ⟨B3, 4, none⟩ (.int .i64 od)) B3 (⟨2, 1 + v2, ky, true, od, false, 0, 0⟩ : Rc)) := HR10.out.put 4 _ (HR10.out.b3.put4 _)
          have d0 : (x10).cell? ⟨w.heap.size, 0, none⟩ = some (.int .i64 (0)) := HR10.out.b2.c0
          have d1 : (x10).cell? ⟨w.heap.size, 1, none⟩ = some (.int .i64 (0)) := HR10.out.b2.c1
          have d2 : (x10).cell? ⟨w.heap.size, 2, none⟩ = some (.int .i64 (0)) := HR10.out.b2.c2
          have d3 : (x10).cell? ⟨w.heap.size, 3, none⟩ = some (.bool (false)) := HR10.out.b2.c3
          have d4 : (x10).cell? ⟨w.heap.size, 4, none⟩ = some (.int .i64 (0)) := HR10.out.b2.c4
          have d5 : (x10).cell? ⟨w.heap.size, 5, none⟩ = some (.bool (false)) := HR10.out.b2.c5
          have d6 : (x10).cell? ⟨w.heap.size, 6, none⟩ = some (.int .i64 (0)) := HR10.out.b2.c6
          have d7 : (x10).cell? ⟨w.heap.size, 7, none⟩ = some (.int .i64 (0)) := HR10.out.b2.c7
          have df : ∀ i, (x10).frozen? ⟨w.heap.size, i, none⟩ = false := HR10.out.b2.f
          go_wp2_with fail
          refine bodyPost_ret (v := rV (⟨2, 1 + v2, ky, true, od, false, 0, 0⟩ : Rc)) (by simp [results, Try.results51, go_sem, rV, hne1, hne2, d0, d1, d2, d3, d4, d5, d6, d7]) rfl ⟨_, _, rfl, by have := HT5.out; omega, HR10.out.d.over ?_ HL.out⟩
          repeat (first | with_reducible exact Below.refl _ _ | with_reducible apply Below.drew | with_reducible refine Below.setCell ?_ (by first | exact Nat.le_refl _ | exact hB3) _)
        · have q0 : (x8).cell? ⟨B3, 0, none⟩ = some (.int .i64 (5)) := HR8.out.b3.c0
          have q1 : (x8).cell? ⟨B3, 1, none⟩ = some (.int .i64 (1 + v2)) := HR8.out.b3.c1
          have q2 : (x8).cell? ⟨B3, 2, none⟩ = some (.int .i64 (ky)) := HR8.out.b3.c2
          have q3 : (x8).cell? ⟨B3, 3, none⟩ = some (.bool (false)) := HR8.out.b3.c3
          have q4 : (x8).cell? ⟨B3, 4, none⟩ = some (.int .i64 (0)) := HR8.out.b3.c4
          have q5 : (x8).cell? ⟨B3, 5, none⟩ = some (.bool (false)) := HR8.out.b3.c5
          have q6 : (x8).cell? ⟨B3, 6, none⟩ = some (.int .i64 (0)) := HR8.out.b3.c6
          have q7 : (x8).cell? ⟨B3, 7, none⟩ = some (.int .i64 (0)) := HR8.out.b3.c7
          have qf : ∀ i, (x8).frozen? ⟨B3, i, none⟩ = false := HR8.out.b3.f
          have HR9 : Hid (RS S a k cap z (t5 + 1 + 4 + 1 + 1) w (x8.setCell ⟨B3, 5, none⟩ (.bool true)) B3 (⟨5, 1 + v2, ky, false, 0, true, 0, 0⟩ : Rc)) := HR8.out.put 5 _ (HR8.out.b3.put5 _)
          go_wp2_with fail
          clear q0 q1 q2 q3 q4 q5 q6 q7 qf
          refine (l1Next_any S a k cap z (t5 + 1 + 4 + 1 + 1) 90 _ (by have := HT.out; omega) (by omega) HR9.out.d.src).mono ?_
          rintro e x10 ⟨nw, rfl, -, hn⟩
          have HR10 : Hid (RS S a k cap z (t5 + 1 + 4 + 1 + 1 + 1) w x10 B3 (⟨5, 1 + v2, ky, false, 0, true, 0, 0⟩ : Rc)) := HR9.out.call hn.dw
          clear hn
          have q0 : (x10).cell? ⟨B3, 0, none⟩ = some (.int .i64 (5)) := HR10.out.b3.c0
          have q1 : (x10).cell? ⟨B3, 1, none⟩ = some (.int .i64 (1 + v2)) := HR10.out.b3.c1
          have q2 : (x10).cell? ⟨B3, 2, none⟩ = some (.int .i64 (ky)) := HR10.out.b3.c2
          have q3 : (x10).cell? ⟨B3, 3, none⟩ = some (.bool (false)) := HR10.out.b3.c3
          have q4 : (x10).cell? ⟨B3, 4, none⟩ = some (.int .i64 (0)) := HR10.out.b3.c4
          have q5 : (x10).cell? ⟨B3, 5, none⟩ = some (.bool (true)) := HR10.out.b3.c5
          have q6 : (x10).cell? ⟨B3, 6, none⟩ = some (.int .i64 (0)) := HR10.out.b3.c6
          have q7 : (x10).cell? ⟨B3, 7, none⟩ = some (.int .i64 (0)) := HR10.out.b3.c7
          have qf : ∀ i, (x10).frozen? ⟨B3, i, none⟩ = false := HR10.out.b3.f
          have HR11 : Hid (RS S a k cap z (t5 + 1 + 4 + 1 + 1 + 1) w (x10.setCell ⟨B3, 6, none⟩ (.int .i64 nw)) B3 (⟨5, 1 + v2, ky, false, 0, true, nw, 0⟩ : Rc)) := HR10.out.put 6 _ (HR10.out.b3.put6 _)
          go_wp2_with fail
          clear q0 q1 q2 q3 q4 q5 q6 q7 qf
          refine (l1Next_any S a k cap z (t5 + 1 + 4 + 1 + 1 + 1) 6 _ (by have := HT.out; omega) (by omega) HR11.out.d.src).mono ?_
          rintro e x12 ⟨vb, rfl, hvb, hn⟩
          have HR12 : Hid (RS S a k cap z (t5 + 1 + 4 + 1 + 1 + 1 + 1) w x12 B3 (⟨5, 1 + v2, ky, false, 0, true, nw, 0⟩ : Rc)) := HR11.out.call hn.dw
          clear hn
          obtain ⟨lb, ub, -⟩ := hvb
          have ub := ub (by omega)
          have q0 : (x12).cell? ⟨B3, 0, none⟩ = some (.int .i64 (5)) := HR12.out.b3.c0
          have q1 : (x12).cell? ⟨B3, 1, none⟩ = some (.int .i64 (1 + v2)) := HR12.out.b3.c1
          have q2 : (x12).cell? ⟨B3, 2, none⟩ = some (.int .i64 (ky)) := HR12.out.b3.c2
          have q3 : (x12).cell? ⟨B3, 3, none⟩ = some (.bool (false)) := HR12.out.b3.c3
          have q4 : (x12).cell? ⟨B3, 4, none⟩ = some (.int .i64 (0)) := HR12.out.b3.c4
          have q5 : (x12).cell? ⟨B3, 5, none⟩ = some (.bool (true)) := HR12.out.b3.c5
          have q6 : (x12).cell? ⟨B3, 6, none⟩ = some (.int .i64 (nw)) := HR12.out.b3.c6
          have q7 : (x12).cell? ⟨B3, 7, none⟩ = some (.int .i64 (0)) := HR12.out.b3.c7
          have qf : ∀ i, (x12).frozen? ⟨B3, i, none⟩ = false := HR12.out.b3.f
          have HR13 : Hid (RS S a k cap z (t5 + 1 + 4 + 1 + 1 + 1 + 1) w (x12.setCell ⟨B3, 7, none⟩ (.int .i64 (1 + vb))) B3 (⟨5, 1 + v2, ky, false, 0, true, nw, 1 + vb⟩ : Rc)) := HR12.out.put 7 _ (HR12.out.b3.put7 _)
          have d0 : (x12).cell? ⟨w.heap.size, 0, none⟩ = some (.int .i64 (0)) := HR12.out.b2.c0
          have d1 : (x12).cell? ⟨w.heap.size, 1, none⟩ = some (.int .i64 (0)) := HR12.out.b2.c1
          have d2 : (x12).cell? ⟨w.heap.size, 2, none⟩ = some (.int .i64 (0)) := HR12.out.b2.c2
          have d3 : (x12).cell? ⟨w.heap.size, 3, none⟩ = some (.bool (false)) := HR12.out.b2.c3
          have d4 : (x12).cell? ⟨w.heap.size, 4, none⟩ = some (.int .i64 (0)) := HR12.out.b2.c4
          have d5 : (x12).cell? ⟨w.heap.size, 5, none⟩ = some (.bool (false)) := HR12.out.b2.c5
          have d6 : (x12).cell? ⟨w.heap.size, 6, none⟩ = some (.int .i64 (0)) := HR12.out.b2.c6
          have d7 : (x12).cell? ⟨w.heap.size, 7, none⟩ = some (.int .i64 (0)) := HR12.out.b2.c7
          have df : ∀ i, (x12).frozen? ⟨w.heap.size, i, none⟩ = false := HR12.out.b2.f
          go_wp2_with fail
          refine bodyPost_ret (v := rV (⟨5, 1 + v2, ky, false, 0, true, nw, 1 + vb⟩ : Rc)) (by simp [results, Try.results51, go_sem, rV, hne1, hne2, d0, d1, d2, d3, d4, d5, d6, d7]) rfl ⟨_, _, rfl, by have := HT5.out; omega, HR12.out.d.over ?_ HL.out⟩
          repeat (first | with_reducible exact Below.refl _ _ | with_reducible apply Below.drew | with_reducible refine Below.setCell ?_ (by first | exact Nat.le_refl _ | exact hB3) _)
        · have q0 : (x8).cell? ⟨B3, 0, none⟩ = some (.int .i64 (5)) := HR8.out.b3.c0
          have q1 : (x8).cell? ⟨B3, 1, none⟩ = some (.int .i64 (1 + v2)) := HR8.out.b3.c1
          have q2 : (x8).cell? ⟨B3, 2, none⟩ = some (.int .i64 (ky)) := HR8.out.b3.c2
          have q3 : (x8).cell? ⟨B3, 3, none⟩ = some (.bool (false)) := HR8.out.b3.c3
          have q4 : (x8).cell? ⟨B3, 4, none⟩ = some (.int .i64 (0)) := HR8.out.b3.c4
          have q5 : (x8).cell? ⟨B3, 5, none⟩ = some (.bool (false)) := HR8.out.b3.c5
          have q6 : (x8).cell? ⟨B3, 6, none⟩ = some (.int .i64 (0)) := HR8.out.b3.c6
          have q7 : (x8).cell? ⟨B3, 7, none⟩ = some (.int .i64 (0)) := HR8.out.b3.c7
          have qf : ∀ i, (x8).frozen? ⟨B3, i, none⟩ = false := HR8.out.b3.f
          have HR9 : Hid (RS S a k cap z (t5 + 1 + 4 + 1 + 1) w (x8.setCell ⟨B3, 5, none⟩ (.bool false)) B3 (⟨5, 1 + v2, ky, false, 0, false, 0, 0⟩ : Rc)) := HR8.out.put 5 _ (HR8.out.b3.put5 _)
          go_wp2_with fail
          clear q0 q1 q2 q3 q4 q5 q6 q7 qf
          refine (l1Next_any S a k cap z (t5 + 1 + 4 + 1 + 1) 6 _ (by have := HT.out; omega) (by omega) HR9.out.d.src).mono ?_
          rintro e x10 ⟨vb, rfl, hvb, hn⟩
          have HR10 : Hid (RS S a k cap z (t5 + 1 + 4 + 1 + 1 + 1) w x10 B3 (⟨5, 1 + v2, ky, false, 0, false, 0, 0⟩ : Rc)) := HR9.out.call hn.dw
          clear hn
          obtain ⟨lb, ub, -⟩ := hvb
          have ub := ub (by omega)
          have q0 : (x10).cell? ⟨B3, 0, none⟩ = some (.int .i64 (5)) := HR10.out.b3.c0
          have q1 : (x10).cell? ⟨B3, 1, none⟩ = some (.int .i64 (1 + v2)) := HR10.out.b3.c1
          have q2 : (x10).cell? ⟨B3, 2, none⟩ = some (.int .i64 (ky)) := HR10.out.b3.c2
          have q3 : (x10).cell? ⟨B3, 3, none⟩ = some (.bool (false)) := HR10.out.b3.c3
          have q4 : (x10).cell? ⟨B3, 4, none⟩ = some (.int .i64 (0)) := HR10.out.b3.c4
          have q5 : (x10).cell? ⟨B3, 5, none⟩ = some (.bool (false)) := HR10.out.b3.c5
          have q6 : (x10).cell? ⟨B3, 6, none⟩ = some (.int .i64 (0)) := HR10.out.b3.c6
          have q7 : (x10).cell? ⟨B3, 7, none⟩ = some (.int .i64 (0)) := HR10.out.b3.c7
          have qf : ∀ i, (x10).frozen? ⟨B3, i, none⟩ = false := HR10.out.b3.f
          have HR11 : Hid (RS S a k cap z (t5 + 1 + 4 + 1 + 1 + 1) w (x10.setCell ⟨B3, 7, none⟩ (.int .i64 (1 + vb))) B3 (⟨5, 1 + v2, ky, false, 0, false, 0, 1 + vb⟩ : Rc)) := HR10.out.put 7 _ (HR10.out.b3.put7 _)
          have d0 : (x10).cell? ⟨w.heap.size, 0, none⟩ = some (.int .i64 (0)) := HR10.out.b2.c0
          have d1 : (x10).cell? ⟨w.heap.size, 1, none⟩ = some (.int .i64 (0)) := HR10.out.b2.c1
          have d2 : (x10).cell? ⟨w.heap.size, 2, none⟩ = some (.int .i64 (0)) := HR10.out.b2.c2
          have d3 : (x10).cell? ⟨w.heap.size, 3, none⟩ = some (.bool (false)) := HR10.out.b2.c3
          have d4 : (x10).cell? ⟨w.heap.size, 4, none⟩ = some (.int .i64 (0)) := HR10.out.b2.c4
          have d5 : (x10).cell? ⟨w.heap.size, 5, none⟩ = some (.bool (false)) := HR10.out.b2.c5
          have d6 : (x10).cell? ⟨w.heap.size, 6, none⟩ = some (.int .i64 (0)) := HR10.out.b2.c6
          have d7 : (x10).cell? ⟨w.heap.size, 7, none⟩ = some (.int .i64 (0)) := HR10.out.b2.c7
          have df : ∀ i, (x10).frozen? ⟨w.heap.size, i, none⟩ = false := HR10.out.b2.f
          go_wp2_with fail
          refine bodyPost_ret (v := rV (⟨5, 1 + v2, ky, false, 0, false, 0, 1 + vb⟩ : Rc)) (by simp [results, Try.results51, go_sem, rV, hne1, hne2, d0, d1, d2, d3, d4, d5, d6, d7]) rfl ⟨_, _, rfl, by have := HT5.out; omega, HR10.out.d.over ?_ HL.out⟩
          repeat (first | with_reducible exact Below.refl _ _ | with_reducible apply Below.drew | with_reducible refine Below.setCell ?_ (by first | exact Nat.le_refl _ | exact hB3) _)
        · have q0 : (x8).cell? ⟨B3, 0, none⟩ = some (.int .i64 (5)) := HR8.out.b3.c0
          have q1 : (x8).cell? ⟨B3, 1, none⟩ = some (.int .i64 (1 + v2)) := HR8.out.b3.c1
          have q2 : (x8).cell? ⟨B3, 2, none⟩ = some (.int .i64 (ky)) := HR8.out.b3.c2
          have q3 : (x8).cell? ⟨B3, 3, none⟩ = some (.bool (true)) := HR8.out.b3.c3
          have q4 : (x8).cell? ⟨B3, 4, none⟩ = some (.int .i64 (0)) := HR8.out.b3.c4
          have q5 : (x8).cell? ⟨B3, 5, none⟩ = some (.bool (false)) := HR8.out.b3.c5
          have q6 : (x8).cell? ⟨B3, 6, none⟩ = some (.int .i64 (0)) := HR8.out.b3.c6
          have q7 : (x8).cell? ⟨B3, 7, none⟩ = some (.int .i64 (0)) := HR8.out.b3.c7
          have qf : ∀ i, (x8).frozen? ⟨B3, i, none⟩ = false := HR8.out.b3.f
          have HR9 : Hid (RS S a k cap z (t5 + 1 + 4 + 1 + 1) w (x8.setCell ⟨B3, 5, none⟩ (.bool true)) B3 (⟨5, 1 + v2, ky, true, 0, true, 0, 0⟩ : Rc)) := HR8.out.put 5 _ (HR8.out.b3.put5 _)
          go_wp2_with fail
          clear q0 q1 q2 q3 q4 q5 q6 q7 qf
          refine (l1Next_any S a k cap z (t5 + 1 + 4 + 1 + 1) 90 _ (by have := HT.out; omega) (by omega) HR9.out.d.src).mono ?_
          rintro e x10 ⟨od, rfl, -, hn⟩
          have HR10 : Hid (RS S a k cap z (t5 + 1 + 4 + 1 + 1 + 1) w x10 B3 (⟨5, 1 + v2, ky, true, 0, true, 0, 0⟩ : Rc)) := HR9.out.call hn.dw
          clear hn
          have q0 : (x10).cell? ⟨B3, 0, none⟩ = some (.int .i64 (5)) := HR10.out.b3.c0
          have q1 : (x10).cell? ⟨B3, 1, none⟩ = some (.int .i64 (1 + v2)) := HR10.out.b3.c1
          have q2 : (x10).cell? ⟨B3, 2, none⟩ = some (.int .i64 (ky)) := HR10.out.b3.c2
          have q3 : (x10).cell? ⟨B3, 3, none⟩ = some (.bool (true)) := HR10.out.b3.c3
          have q4 : (x10).cell? ⟨B3, 4, none⟩ = some (.int .i64 (0)) := HR10.out.b3.c4
          have q5 : (x10).cell? ⟨B3, 5, none⟩ = some (.bool (true)) := HR10.out.b3.c5
          have q6 : (x10).cell? ⟨B3, 6, none⟩ = some (.int .i64 (0)) := HR10.out.b3.c6
          have q7 : (x10).cell? ⟨B3, 7, none⟩ = some (.int .i64 (0)) := HR10.out.b3.c7
          have qf : ∀ i, (x10).frozen? ⟨B3, i, none⟩ = false := HR10.out.b3.f
          have HR11 : Hid (RS S a k cap z (t5 + 1 + 4 + 1 + 1 + 1) w (x10.setCell ⟨B3, 4, none⟩ (.int .i64 od)) B3 (⟨5, 1 + v2, ky, true, od, true, 0, 0⟩ : Rc)) := HR10.out.put 4 _ (HR10.out.b3.put4 _)
          go_wp2_with fail
          clear q0 q1 q2 q3 q4 q5 q6 q7 qf
          refine (l1Next_any S a k cap z (t5 + 1 + 4 + 1 + 1 + 1) 90 _ (by have := HT.out; omega) (by omega) HR11.out.d.src).mono ?_
          rintro e x12 ⟨nw, rfl, -, hn⟩
          have HR12 : Hid (RS S a k cap z (t5 + 1 + 4 + 1 + 1 + 1 + 1) w x12 B3 (⟨5, 1 + v2, ky, true, od, true, 0, 0⟩ : Rc)) := HR11.out.call hn.dw
          clear hn
          have q0 : (x12).cell? ⟨B3, 0, none⟩ = some (.int .i64 (5)) := HR12.out.b3.c0
          have q1 : (x12).cell? ⟨B3, 1, none⟩ = some (.int .i64 (1 + v2)) := HR12.out.b3.c1
          have q2 : (x12).cell? ⟨B3, 2, none⟩ = some (.int .i64 (ky)) := HR12.out.b3.c2
          have q3 : (x12).cell? ⟨B3, 3, none⟩ = some (.bool (true)) := HR12.out.b3.c3
          have q4 : (x12).cell? ⟨B3, 4, none⟩ = some (.int .i64 (od)) := HR12.out.b3.c4
          have q5 : (x12).cell? ⟨B3, 5, none⟩ = some (.bool (true)) := HR12.out.b3.c5
          have q6 : (x12).cell? ⟨B3, 6, none⟩ = some (.int .i64 (0)) := HR12.out.b3.c6
          have q7 : (x12).cell? ⟨B3, 7, none⟩ = some (.int .i64 (0)) := HR12.out.b3.c7
          have qf : ∀ i, (x12).frozen? ⟨B3, i, none⟩ = false := HR12.out.b3.f
          have HR13 : Hid (RS S a k cap z (t5 + 1 + 4 + 1 + 1 + 1 + 1) w (x12.setCell ⟨B3, 6, none⟩ (.int .i64 nw)) B3 (⟨5, 1 + v2, ky, true, od, true, nw, 0⟩ : Rc)) := HR12.out.put 6 _ (HR12.out.b3.put6 _)
          go_wp2_with fail
          clear q0 q1 q2 q3 q4 q5 q6 q7 qf
          refine (l1Next_any S a k cap z (t5 + 1 + 4 + 1 + 1 + 1 + 1) 6 _ (by have := HT.out; omega) (by omega) HR13.out.d.src).mono ?_
          rintro e x14 ⟨vb, rfl, hvb, hn⟩
          have HR14 : Hid (RS S a k cap z (t5 + 1 + 4 + 1 + 1 + 1 + 1 + 1) w x14 B3 (⟨5, 1 + v2, ky, true, od, true, nw, 0⟩ : Rc)) := HR13.out.call hn.dw
          clear hn
          obtain ⟨lb, ub, -⟩ := hvb
          have ub := ub (by omega)
          have q0 : (x14).cell? ⟨B3, 0, none⟩ = some (.int .i64 (5)) := HR14.out.b3.c0
          have q1 : (x14).cell? ⟨B3, 1, none⟩ = some (.int .i64 (1 + v2)) := HR14.out.b3.c1
          have q2 : (x14).cell? ⟨B3, 2, none⟩ = some (.int .i64 (ky)) := HR14.out.b3.c2
          have q3 : (x14).cell? ⟨B3, 3, none⟩ = some (.bool (true)) := HR14.out.b3.c3
          have q4 : (x14).cell? ⟨B3, 4, none⟩ = some (.int .i64 (od)) := HR14.out.b3.c4
          have q5 : (x14).cell? ⟨B3, 5, none⟩ = some (.bool (true)) := HR14.out.b3.c5
          have q6 : (x14).cell? ⟨B3, 6, none⟩ = some (.int .i64 (nw)) := HR14.out.b3.c6
          have q7 : (x14).cell? ⟨B3, 7, none⟩ = some (.int .i64 (0)) := HR14.out.b3.c7
          have qf : ∀ i, (x14).frozen? ⟨B3, i, none⟩ = false := HR14.out.b3.f
          have HR15 : Hid (RS S a k cap z (t5 + 1 + 4 + 1 + 1 + 1 + 1 + 1) w (x14.setCell ⟨B3, 7, none⟩ (.int .i64 (1 + vb))) B3 (⟨5, 1 + v2, ky, true, od, true, nw, 1 + vb⟩ : Rc)) := HR14.out.put 7 _ (HR14.out.b3.put7 _)
          have d0 : (x14).cell? ⟨w.heap.size, 0, none⟩ = some (.int .i64 (0)) := HR14.out.b2.c0
          have d1 : (x14).cell? ⟨w.heap.size, 1, none⟩ = some (.int .i64 (0)) := HR14.out.b2.c1
          have d2 : (x14).cell? ⟨w.heap.size, 2, none⟩ = some (.int .i64 (0)) := HR14.out.b2.c2
          have d3 : (x14).cell? ⟨w.heap.size, 3, none⟩ = some (.bool (false)) := HR14.out.b2.c3
          have d4 : (x14).cell? ⟨w.heap.size, 4, none⟩ = some (.int .i64 (0)) := HR14.out.b2.c4
          have d5 : (x14).cell? ⟨w.heap.size, 5, none⟩ = some (.bool (false)) := HR14.out.b2.c5
          have d6 : (x14).cell? ⟨w.heap.size, 6, none⟩ = some (.int .i64 (0)) := HR14.out.b2.c6
          have d7 : (x14).cell? ⟨w.heap.size, 7, none⟩ = some (.int .i64 (0)) := HR14.out.b2.c7
          have df : ∀ i, (x14).frozen? ⟨w.heap.size, i, none⟩ = false := HR14.out.b2.f
          go_wp2_with fail
          refine bodyPost_ret (v := rV (⟨5, 1 + v2, ky, true, od, true, nw, 1 + vb⟩ : Rc)) (by simp [results, Try.results51, go_sem, rV, hne1, hne2, d0, d1, d2, d3, d4, d5, d6, d7]) rfl ⟨_, _, rfl, by have := HT5.out; omega, HR14.out.d.over ?_ HL.out⟩
          repeat (first | with_reducible exact Below.refl _ _ | with_reducible apply Below.drew | with_reducible refine Below.setCell ?_ (by first | exact Nat.le_refl _ | exact hB3) _)
        · have q0 : (x8).cell? ⟨B3, 0, none⟩ = some (.int .i64 (5)) := HR8.out.b3.c0
          have q1 : (x8).cell? ⟨B3, 1, none⟩ = some (.int .i64 (1 + v2)) := HR8.out.b3.c1
          have q2 : (x8).cell? ⟨B3, 2, none⟩ = some (.int .i64 (ky)) := HR8.out.b3.c2
          have q3 : (x8).cell? ⟨B3, 3, none⟩ = some (.bool (true)) := HR8.out.b3.c3
          have q4 : (x8).cell? ⟨B3, 4, none⟩ = some (.int .i64 (0)) := HR8.out.b3.c4
          have q5 : (x8).cell? ⟨B3, 5, none⟩ = some (.bool (false)) := HR8.out.b3.c5
          have q6 : (x8).cell? ⟨B3, 6, none⟩ = some (.int .i64 (0)) := HR8.out.b3.c6
          have q7 : (x8).cell? ⟨B3, 7, none⟩ = some (.int .i64 (0)) := HR8.out.b3.c7
          have qf : ∀ i, (x8).frozen? ⟨B3, i, none⟩ = false := HR8.out.b3.f
          have HR9 : Hid (RS S a k cap z (t5 + 1 + 4 + 1 + 1) w (x8.setCell ⟨B3, 5, none⟩ (.bool false)) B3 (⟨5, 1 + v2, ky, true, 0, false, 0, 0⟩ : Rc)) := HR8.out.put 5 _ (HR8.out.b3.put5 _)
          go_wp2_with fail
          clear q0 q1 q2 q3 q4 q5 q6 q7 qf
          refine (l1Next_any S a k cap z (t5 + 1 + 4 + 1 + 1) 90 _ (by have := HT.out; omega) (by omega) HR9.out.d.src).mono ?_
          rintro e x10 ⟨od, rfl, -, hn⟩
          have HR10 : Hid (RS S a k cap z (t5 + 1 + 4 + 1 + 1 + 1) w x10 B3 (⟨5, 1 + v2, ky, true, 0, false, 0, 0⟩ : Rc)) := HR9.out.call hn.dw
          clear hn
          have q0 : (x10).cell? ⟨B3, 0, none⟩ = some (.int .i64 (5)) := HR10.out.b3.c0
          have q1 : (x10).cell? ⟨B3, 1, none⟩ = some (.int .i64 (1 + v2)) := HR10.out.b3.c1
          have q2 : (x10).cell? ⟨B3, 2, none⟩ = some (.int .i64 (ky)) := HR10.out.b3.c2
          have q3 : (x10).cell? ⟨B3, 3, none⟩ = some (.bool (true)) := HR10.out.b3.c3
          have q4 : (x10).cell? ⟨B3, 4, none⟩ = some (.int .i64 (0)) := HR10.out.b3.c4
          have q5 : (x10).cell? ⟨B3, 5, none⟩ = some (.bool (false)) := HR10.out.b3.c5
          have q6 : (x10).cell? ⟨B3, 6, none⟩ = some (.int .i64 (0)) := HR10.out.b3.c6
          have q7 : (x10).cell? ⟨B3, 7, none⟩ = some (.int .i64 (0)) := HR10.out.b3.c7
          have qf : ∀ i, (x10).frozen? ⟨B3, i, none⟩ = false := HR10.out.b3.f
          have HR11 : Hid (RS S a k cap z (t5 + 1 + 4 + 1 + 1 + 1) w (x10.setCell ⟨B3, 4, none⟩ (.int .i64 od)) B3 (⟨5, 1 + v2, ky, true, od, false, 0, 0⟩ : Rc)) := HR10.out.put 4 _ (HR10.out.b3.put4 _)
          go_wp2_with fail
          clear q0 q1 q2 q3 q4 q5 q6 q7 qf
          refine (l1Next_any S a k cap z (t5 + 1 + 4 + 1 + 1 + 1) 6 _ (by have := HT.out; omega) (by omega) HR11.out.d.src).mono ?_
          rintro e x12 ⟨vb, rfl, hvb, hn⟩
          have HR12 : Hid (RS S a k cap z (t5 + 1 + 4 + 1 + 1 + 1 + 1) w x12 B3 (⟨5, 1 + v2, ky, true, od, false, 0, 0⟩ : Rc)) := HR11.out.call hn.dw
          clear hn
          obtain ⟨lb, ub, -⟩ := hvb
          have ub := ub (by omega)
          have q0 : (x12).cell? ⟨B3, 0, none⟩ = some (.int .i64 (5)) := HR12.out.b3.c0
          have q1 : (x12).cell? ⟨B3, 1, none⟩ = some (.int .i64 (1 + v2)) := HR12.out.b3.c1
          have q2 : (x12).cell? ⟨B3, 2, none⟩ = some (.int .i64 (ky)) := HR12.out.b3.c2
          have q3 : (x12).cell? ⟨B3, 3, none⟩ = some (.bool (true)) := HR12.out.b3.c3
          have q4 : (x12).cell? ⟨B3, 4, none⟩ = some (.int .i64 (od)) := HR12.out.b3.c4
          have q5 : (x12).cell? ⟨B3, 5, none⟩ = some (.bool (false)) := HR12.out.b3.c5
          have q6 : (x12).cell? ⟨B3, 6, none⟩ = some (.int .i64 (0)) := HR12.out.b3.c6
          have q7 : (x12).cell? ⟨B3, 7, none⟩ = some (.int .i64 (0)) := HR12.out.b3.c7
          have qf : ∀ i, (x12).frozen? ⟨B3, i, none⟩ = false := HR12.out.b3.f
          have HR13 : Hid (RS S a k cap z (t5 + 1 + 4 + 1 + 1 + 1 + 1) w (x12.setCell ⟨B3, 7, none⟩ (.int .i64 (1 + vb))) B3 (⟨5, 1 + v2, ky, true, od, false, 0, 1 + vb⟩ : Rc)) := HR12.out.put 7 _ (HR12.out.b3.put7 _)
          have d0 : (x12).cell? ⟨w.heap.size, 0, none⟩ = some (.int .i64 (0)) := HR12.out.b2.c0
          have d1 : (x12).cell? ⟨w.heap.size, 1, none⟩ = some (.int .i64 (0)) := HR12.out.b2.c1
          have d2 : (x12).cell? ⟨w.heap.size, 2, none⟩ = some (.int .i64 (0)) := HR12.out.b2.c2
          have d3 : (x12).cell? ⟨w.heap.size, 3, none⟩ = some (.bool (false)) := HR12.out.b2.c3
          have d4 : (x12).cell? ⟨w.heap.size, 4, none⟩ = some (.int .i64 (0)) := HR12.out.b2.c4
          have d5 : (x12).cell? ⟨w.heap.size, 5, none⟩ = some (.bool (false)) := HR12.out.b2.c5
          have d6 : (x12).cell? ⟨w.heap.size, 6, none⟩ = some (.int .i64 (0)) := HR12.out.b2.c6
          have d7 : (x12).cell? ⟨w.heap.size, 7, none⟩ = some (.int .i64 (0)) := HR12.out.b2.c7
          have df : ∀ i, (x12).frozen? ⟨w.heap.size, i, none⟩ = false := HR12.out.b2.f
          go_wp2_with fail
          refine bodyPost_ret (v := rV (⟨5, 1 + v2, ky, true, od, false, 0, 1 + vb⟩ : Rc)) (by simp [results, Try.results51, go_sem, rV, hne1, hne2, d0, d1, d2, d3, d4, d5, d6, d7]) rfl ⟨_, _, rfl, by have := HT5.out; omega, HR12.out.d.over ?_ HL.out⟩
          repeat (first | with_reducible exact Below.refl _ _ | with_reducible apply Below.drew | with_reducible refine Below.setCell ?_ (by first | exact Nat.le_refl _ | exact hB3) _)
end Go.Proofs.Ytppckjecidcflaa
namespace Go.Proofs.Ytppckjecidcflaa
open Go.RowKit Go.Deep
set_option linter.unusedVariables false
set_option linter.unusedSimpArgs false
set_option maxRecDepth 20000

set_option maxHeartbeats 4000000 in
theorem l3Bent_any (S : Nat) (a : Option Addr) (k cap : Nat) (z : Nat → Int) (t : Nat) (w : World) (ht : t ≤ 999800) (h : Src w S a k cap z t) :
    Calls Try.prog 53 #[.pointer (some ⟨S, 0, none⟩)] w fun e w' => ∃ (r : Rc) (t' : Nat), e = .returned (rV r) ∧ t' ≤ t + 30 ∧ Dw S a k cap z t' w w' := by
  have HS : Hid (Src w S a k cap z t) := h
  have HL : Hid (S < w.heap.size) := h.lt
  clear h
  go_enter Try.func53, Try.ntmps53
  go_wp2_with fail
  obtain ⟨W, hW⟩ : ∃ x, x = w.alloc (.cells #[.int .i64 0, .int .i64 0, .int .i64 0, .bool false, .int .i64 0, .bool false, .int .i64 0, .int .i64 0] 33) := ⟨_, rfl⟩
  have HB : Hid (RB W w.heap.size zR8) := by
    rw [hW]
    exact ⟨by simp [go_sem, zR8], by simp [go_sem, zR8], by simp [go_sem, zR8], by simp [go_sem, zR8], by simp [go_sem, zR8], by simp [go_sem, zR8], by simp [go_sem, zR8], by simp [go_sem, zR8], fun i => by simp [go_sem]⟩
  have HD : Hid (Dw S a k cap z t w W) := by rw [hW]; exact HS.out.self.below (below_new _ _)
  rw [← hW]
  clear hW
  refine (l3Rec_any S a k cap z t W (by omega) HD.out.src).mono ?_
  rintro e w2 ⟨r, t2, rfl, ht2, hd2⟩
  have HD2 : Hid (Dw S a k cap z t2 w w2) := HD.out.trans hd2
  have HB2 : Hid (RB w2 w.heap.size zR8) := HB.out.block (hd2.1.block _ HB.out.lt (by have := HL.out; omega))
  have HT : Hid (t2 ≤ 999900) := by show _ ≤ _; omega
  have HT2 : Hid (t2 ≤ t + 20) := ht2
  clear hd2
  obtain ⟨rk, rt, ry, rh, ro, rs, rn, rb⟩ := r
  unfold rV
  go_wp2_with fail
  have HR0 : Hid (RS S a k cap z t2 w (w2.alloc (.cells #[.int .i64 rk, .int .i64 rt, .int .i64 ry, .bool rh, .int .i64 ro, .bool rs, .int .i64 rn, .int .i64 rb] 33)) w2.heap.size ⟨rk, rt, ry, rh, ro, rs, rn, rb⟩) :=
    ⟨HD2.out.below (below_new _ _), HB2.out.block ((below_new _ _).block _ HB2.out.lt), ⟨by simp [go_sem], by simp [go_sem], by simp [go_sem], by simp [go_sem], by simp [go_sem], by simp [go_sem], by simp [go_sem], by simp [go_sem], fun i => by simp [go_sem]⟩, HB2.out.lt, HL.out⟩
  generalize hW3 : w2.alloc (.cells #[.int .i64 rk, .int .i64 rt, .int .i64 ry, .bool rh, .int .i64 ro, .bool rs, .int .i64 rn, .int .i64 rb] 33) = W3 at *
  generalize hB3 : w2.heap.size = B3 at *
  clear hB3 hW3 HD HB HD2 HB2 ht2
  refine (l1Next_any S a k cap z t2 16 W3 (by have := HT.out; omega) (by omega) HR0.out.d.src).mono ?_
  rintro e x1 ⟨v, rfl, -, hn⟩
  have HR1 : Hid (RS S a k cap z (t2 + 1) w x1 B3 ⟨rk, rt, ry, rh, ro, rs, rn, rb⟩) := HR0.out.call hn.dw
  have hB3 : w.heap.size ≤ B3 := Nat.le_of_lt HR1.out.lt
  have hne1 : w.heap.size ≠ B3 := Nat.ne_of_lt HR1.out.lt
  have hne2 : B3 ≠ w.heap.size := Ne.symm hne1
  clear hn HR0
  by_cases e0 : v = 0
  · subst e0
    go_wp2_with fail
    refine (l1Next_any S a k cap z (t2 + 1) 6 _ (by have := HT.out; omega) (by omega) HR1.out.d.src).mono ?_
    rintro e x2 ⟨u, rfl, hu, hn⟩
    have HR2 : Hid (RS S a k cap z (t2 + 1 + 1) w x2 B3 (⟨rk, rt, ry, rh, ro, rs, rn, rb⟩ : Rc)) := HR1.out.call hn.dw
    obtain ⟨lu, uu, -⟩ := hu
    have uu := uu (by omega)
    clear hn
    go_wp2_with fail
    have HP : Hid (RS S a k cap z (t2 + 1 + 1) w (x2.alloc (.cells #[.int .i64 0, .int .i64 7, .int .i64 (1 + u)] 2)) B3 (⟨rk, rt, ry, rh, ro, rs, rn, rb⟩ : Rc)) := HR2.out.below (below_new _ _)
    refine (l1Pick_any S a k cap z (t2 + 1 + 1) x2.heap.size 0 3 3 (fun i => if i = 0 then (0 : Int) else if i = 1 then 7 else (1 + u)) _ (by have := HT.out; omega) (by omega) (by omega) (by have := HR2.out.d.src.lt; omega) (by simp [go_sem]) (fun i hi => ?_) HP.out.d.src).mono ?_
    · rcases i with - | - | - | i
      · simp [go_sem]
      · simp [go_sem]
      · simp [go_sem]
      · omega
    rintro e y1 ⟨i, hi, rfl, hn⟩
    generalize (if i = 0 then (0 : Int) else if i = 1 then 7 else (1 + u) : Int) = pv at *
    have HY : Hid (RS S a k cap z (t2 + 1 + 1 + 1) w y1 B3 (⟨rk, rt, ry, rh, ro, rs, rn, rb⟩ : Rc)) := HP.out.call hn.dw
    clear hn hi HP
    have q0 : (y1).cell? ⟨B3, 0, none⟩ = some (.int .i64 (rk)) := HY.out.b3.c0
    have q1 : (y1).cell? ⟨B3, 1, none⟩ = some (.int .i64 (rt)) := HY.out.b3.c1
    have q2 : (y1).cell? ⟨B3, 2, none⟩ = some (.int .i64 (ry)) := HY.out.b3.c2
    have q3 : (y1).cell? ⟨B3, 3, none⟩ = some (.bool (rh)) := HY.out.b3.c3
    have q4 : (y1).cell? ⟨B3, 4, none⟩ = some (.int .i64 (ro)) := HY.out.b3.c4
    have q5 : (y1).cell? ⟨B3, 5, none⟩ = some (.bool (rs)) := HY.out.b3.c5
    have q6 : (y1).cell? ⟨B3, 6, none⟩ = some (.int .i64 (rn)) := HY.out.b3.c6
    have q7 : (y1).cell? ⟨B3, 7, none⟩ = some (.int .i64 (rb)) := HY.out.b3.c7
    have qf : ∀ i, (y1).frozen? ⟨B3, i, none⟩ = false := HY.out.b3.f
    have d0 : (y1).cell? ⟨w.heap.size, 0, none⟩ = some (.int .i64 (0)) := HY.out.b2.c0
    have d1 : (y1).cell? ⟨w.heap.size, 1, none⟩ = some (.int .i64 (0)) := HY.out.b2.c1
    have d2 : (y1).cell? ⟨w.heap.size, 2, none⟩ = some (.int .i64 (0)) := HY.out.b2.c2
    have d3 : (y1).cell? ⟨w.heap.size, 3, none⟩ = some (.bool (false)) := HY.out.b2.c3
    have d4 : (y1).cell? ⟨w.heap.size, 4, none⟩ = some (.int .i64 (0)) := HY.out.b2.c4
    have d5 : (y1).cell? ⟨w.heap.size, 5, none⟩ = some (.bool (false)) := HY.out.b2.c5
    have d6 : (y1).cell? ⟨w.heap.size, 6, none⟩ = some (.int .i64 (0)) := HY.out.b2.c6
    have d7 : (y1).cell? ⟨w.heap.size, 7, none⟩ = some (.int .i64 (0)) := HY.out.b2.c7
    have df : ∀ i, (y1).frozen? ⟨w.heap.size, i, none⟩ = false := HY.out.b2.f
    go_wp2_with fail
    refine bodyPost_ret (v := rV (⟨pv, rt, ry, rh, ro, rs, rn, rb⟩ : Rc)) (by simp [results, Try.results53, go_sem, rV, hne1, hne2, d0, d1, d2, d3, d4, d5, d6, d7]) rfl ⟨_, _, rfl, by have := HT2.out; omega, HY.out.d.over ?_ HL.out⟩
    repeat (first | with_reducible exact Below.refl _ _ | with_reducible apply Below.drew | with_reducible refine Below.setCell ?_ (by first | exact Nat.le_refl _ | exact hB3) _)
  · skip
    by_cases e1 : v = 1
    · subst e1
      go_wp2_with fail
      have HP : Hid (RS S a k cap z (t2 + 1) w (x1.alloc (.cells #[.int .i64 0, .int .i64 999, .int .i64 1000, .int .i64 (-1)] 2)) B3 (⟨rk, rt, ry, rh, ro, rs, rn, rb⟩ : Rc)) := HR1.out.below (below_new _ _)
      refine (l1Pick_any S a k cap z (t2 + 1) x1.heap.size 0 4 4 (fun i => if i = 0 then (0 : Int) else if i = 1 then 999 else if i = 2 then 1000 else (-1)) _ (by have := HT.out; omega) (by omega) (by omega) (by have := HR1.out.d.src.lt; omega) (by simp [go_sem]) (fun i hi => ?_) HP.out.d.src).mono ?_
      · rcases i with - | - | - | - | i
        · simp [go_sem]
        · simp [go_sem]
        · simp [go_sem]
        · simp [go_sem]
        · omega
      rintro e y1 ⟨i, hi, rfl, hn⟩
      generalize (if i = 0 then (0 : Int) else if i = 1 then 999 else if i = 2 then 1000 else (-1) : Int) = pv at *
      have HY : Hid (RS S a k cap z (t2 + 1 + 1) w y1 B3 (⟨rk, rt, ry, rh, ro, rs, rn, rb⟩ : Rc)) := HP.out.call hn.dw
      clear hn hi HP
      have q0 : (y1).cell? ⟨B3, 0, none⟩ = some (.int .i64 (rk)) := HY.out.b3.c0
      have q1 : (y1).cell? ⟨B3, 1, none⟩ = some (.int .i64 (rt)) := HY.out.b3.c1
      have q2 : (y1).cell? ⟨B3, 2, none⟩ = some (.int .i64 (ry)) := HY.out.b3.c2
      have q3 : (y1).cell? ⟨B3, 3, none⟩ = some (.bool (rh)) := HY.out.b3.c3
      have q4 : (y1).cell? ⟨B3, 4, none⟩ = some (.int .i64 (ro)) := HY.out.b3.c4
      have q5 : (y1).cell? ⟨B3, 5, none⟩ = some (.bool (rs)) := HY.out.b3.c5
      have q6 : (y1).cell? ⟨B3, 6, none⟩ = some (.int .i64 (rn)) := HY.out.b3.c6
      have q7 : (y1).cell? ⟨B3, 7, none⟩ = some (.int .i64 (rb)) := HY.out.b3.c7
      have qf : ∀ i, (y1).frozen? ⟨B3, i, none⟩ = false := HY.out.b3.f
      have d0 : (y1).cell? ⟨w.heap.size, 0, none⟩ = some (.int .i64 (0)) := HY.out.b2.c0
      have d1 : (y1).cell? ⟨w.heap.size, 1, none⟩ = some (.int .i64 (0)) := HY.out.b2.c1
      have d2 : (y1).cell? ⟨w.heap.size, 2, none⟩ = some (.int .i64 (0)) := HY.out.b2.c2
      have d3 : (y1).cell? ⟨w.heap.size, 3, none⟩ = some (.bool (false)) := HY.out.b2.c3
      have d4 : (y1).cell? ⟨w.heap.size, 4, none⟩ = some (.int .i64 (0)) := HY.out.b2.c4
      have d5 : (y1).cell? ⟨w.heap.size, 5, none⟩ = some (.bool (false)) := HY.out.b2.c5
      have d6 : (y1).cell? ⟨w.heap.size, 6, none⟩ = some (.int .i64 (0)) := HY.out.b2.c6
      have d7 : (y1).cell? ⟨w.heap.size, 7, none⟩ = some (.int .i64 (0)) := HY.out.b2.c7
      have df : ∀ i, (y1).frozen? ⟨w.heap.size, i, none⟩ = false := HY.out.b2.f
      go_wp2_with fail
      refine bodyPost_ret (v := rV (⟨rk, pv, ry, rh, ro, rs, rn, rb⟩ : Rc)) (by simp [results, Try.results53, go_sem, rV, hne1, hne2, d0, d1, d2, d3, d4, d5, d6, d7]) rfl ⟨_, _, rfl, by have := HT2.out; omega, HY.out.d.over ?_ HL.out⟩
      repeat (first | with_reducible exact Below.refl _ _ | with_reducible apply Below.drew | with_reducible refine Below.setCell ?_ (by first | exact Nat.le_refl _ | exact hB3) _)
    · skip
      by_cases e2 : v = 2
      · subst e2
        go_wp2_with fail
        have HP : Hid (RS S a k cap z (t2 + 1) w (x1.alloc (.cells #[.int .i64 (-1), .int .i64 32, .int .i64 3] 2)) B3 (⟨rk, rt, ry, rh, ro, rs, rn, rb⟩ : Rc)) := HR1.out.below (below_new _ _)
        refine (l1Pick_any S a k cap z (t2 + 1) x1.heap.size 0 3 3 (fun i => if i = 0 then (-1 : Int) else if i = 1 then 32 else 3) _ (by have := HT.out; omega) (by omega) (by omega) (by have := HR1.out.d.src.lt; omega) (by simp [go_sem]) (fun i hi => ?_) HP.out.d.src).mono ?_
        · rcases i with - | - | - | i
          · simp [go_sem]
          · simp [go_sem]
          · simp [go_sem]
          · omega
        rintro e y1 ⟨i, hi, rfl, hn⟩
        generalize (if i = 0 then (-1 : Int) else if i = 1 then 32 else 3 : Int) = pv at *
        have HY : Hid (RS S a k cap z (t2 + 1 + 1) w y1 B3 (⟨rk, rt, ry, rh, ro, rs, rn, rb⟩ : Rc)) := HP.out.call hn.dw
        clear hn hi HP
        have q0 : (y1).cell? ⟨B3, 0, none⟩ = some (.int .i64 (rk)) := HY.out.b3.c0
        have q1 : (y1).cell? ⟨B3, 1, none⟩ = some (.int .i64 (rt)) := HY.out.b3.c1
        have q2 : (y1).cell? ⟨B3, 2, none⟩ = some (.int .i64 (ry)) := HY.out.b3.c2
        have q3 : (y1).cell? ⟨B3, 3, none⟩ = some (.bool (rh)) := HY.out.b3.c3
        have q4 : (y1).cell? ⟨B3, 4, none⟩ = some (.int .i64 (ro)) := HY.out.b3.c4
        have q5 : (y1).cell? ⟨B3, 5, none⟩ = some (.bool (rs)) := HY.out.b3.c5
        have q6 : (y1).cell? ⟨B3, 6, none⟩ = some (.int .i64 (rn)) := HY.out.b3.c6
        have q7 : (y1).cell? ⟨B3, 7, none⟩ = some (.int .i64 (rb)) := HY.out.b3.c7
        have qf : ∀ i, (y1).frozen? ⟨B3, i, none⟩ = false := HY.out.b3.f
        have d0 : (y1).cell? ⟨w.heap.size, 0, none⟩ = some (.int .i64 (0)) := HY.out.b2.c0
        have d1 : (y1).cell? ⟨w.heap.size, 1, none⟩ = some (.int .i64 (0)) := HY.out.b2.c1
        have d2 : (y1).cell? ⟨w.heap.size, 2, none⟩ = some (.int .i64 (0)) := HY.out.b2.c2
        have d3 : (y1).cell? ⟨w.heap.size, 3, none⟩ = some (.bool (false)) := HY.out.b2.c3
        have d4 : (y1).cell? ⟨w.heap.size, 4, none⟩ = some (.int .i64 (0)) := HY.out.b2.c4
        have d5 : (y1).cell? ⟨w.heap.size, 5, none⟩ = some (.bool (false)) := HY.out.b2.c5
        have d6 : (y1).cell? ⟨w.heap.size, 6, none⟩ = some (.int .i64 (0)) := HY.out.b2.c6
        have d7 : (y1).cell? ⟨w.heap.size, 7, none⟩ = some (.int .i64 (0)) := HY.out.b2.c7
        have df : ∀ i, (y1).frozen? ⟨w.heap.size, i, none⟩ = false := HY.out.b2.f
        go_wp2_with fail
        refine bodyPost_ret (v := rV (⟨rk, rt, pv, rh, ro, rs, rn, rb⟩ : Rc)) (by simp [results, Try.results53, go_sem, rV, hne1, hne2, d0, d1, d2, d3, d4, d5, d6, d7]) rfl ⟨_, _, rfl, by have := HT2.out; omega, HY.out.d.over ?_ HL.out⟩
        repeat (first | with_reducible exact Below.refl _ _ | with_reducible apply Below.drew | with_reducible refine Below.setCell ?_ (by first | exact Nat.le_refl _ | exact hB3) _)
      · skip
        by_cases e3 : v = 3
        · subst e3
          go_wp2_with fail
          have HP : Hid (RS S a k cap z (t2 + 1) w (x1.alloc (.cells #[.int .i64 (-1), .int .i64 10000, .int .i64 5] 2)) B3 (⟨rk, rt, ry, rh, ro, rs, rn, rb⟩ : Rc)) := HR1.out.below (below_new _ _)
          refine (l1Pick_any S a k cap z (t2 + 1) x1.heap.size 0 3 3 (fun i => if i = 0 then (-1 : Int) else if i = 1 then 10000 else 5) _ (by have := HT.out; omega) (by omega) (by omega) (by have := HR1.out.d.src.lt; omega) (by simp [go_sem]) (fun i hi => ?_) HP.out.d.src).mono ?_
          · rcases i with - | - | - | i
            · simp [go_sem]
            · simp [go_sem]
            · simp [go_sem]
            · omega
          rintro e y1 ⟨i, hi, rfl, hn⟩
          generalize (if i = 0 then (-1 : Int) else if i = 1 then 10000 else 5 : Int) = pv at *
          have HY : Hid (RS S a k cap z (t2 + 1 + 1) w y1 B3 (⟨rk, rt, ry, rh, ro, rs, rn, rb⟩ : Rc)) := HP.out.call hn.dw
          clear hn hi HP
          have q0 : (y1).cell? ⟨B3, 0, none⟩ = some (.int .i64 (rk)) := HY.out.b3.c0
          have q1 : (y1).cell? ⟨B3, 1, none⟩ = some (.int .i64 (rt)) := HY.out.b3.c1
          have q2 : (y1).cell? ⟨B3, 2, none⟩ = some (.int .i64 (ry)) := HY.out.b3.c2
          have q3 : (y1).cell? ⟨B3, 3, none⟩ = some (.bool (rh)) := HY.out.b3.c3
          have q4 : (y1).cell? ⟨B3, 4, none⟩ = some (.int .i64 (ro)) := HY.out.b3.c4
          have q5 : (y1).cell? ⟨B3, 5, none⟩ = some (.bool (rs)) := HY.out.b3.c5
          have q6 : (y1).cell? ⟨B3, 6, none⟩ = some (.int .i64 (rn)) := HY.out.b3.c6
          have q7 : (y1).cell? ⟨B3, 7, none⟩ = some (.int .i64 (rb)) := HY.out.b3.c7
          have qf : ∀ i, (y1).frozen? ⟨B3, i, none⟩ = false := HY.out.b3.f
          have d0 : (y1).cell? ⟨w.heap.size, 0, none⟩ = some (.int .i64 (0)) := HY.out.b2.c0
          have d1 : (y1).cell? ⟨w.heap.size, 1, none⟩ = some (.int .i64 (0)) := HY.out.b2.c1
          have d2 : (y1).cell? ⟨w.heap.size, 2, none⟩ = some (.int .i64 (0)) := HY.out.b2.c2
          have d3 : (y1).cell? ⟨w.heap.size, 3, none⟩ = some (.bool (false)) := HY.out.b2.c3
          have d4 : (y1).cell? ⟨w.heap.size, 4, none⟩ = some (.int .i64 (0)) := HY.out.b2.c4
          have d5 : (y1).cell? ⟨w.heap.size, 5, none⟩ = some (.bool (false)) := HY.out.b2.c5
          have d6 : (y1).cell? ⟨w.heap.size, 6, none⟩ = some (.int .i64 (0)) := HY.out.b2.c6
          have d7 : (y1).cell? ⟨w.heap.size, 7, none⟩ = some (.int .i64 (0)) := HY.out.b2.c7
          have df : ∀ i, (y1).frozen? ⟨w.heap.size, i, none⟩ = false := HY.out.b2.f
          go_wp2_with fail
          refine bodyPost_ret (v := rV (⟨rk, rt, ry, rh, pv, rs, rn, rb⟩ : Rc)) (by simp [results, Try.results53, go_sem, rV, hne1, hne2, d0, d1, d2, d3, d4, d5, d6, d7]) rfl ⟨_, _, rfl, by have := HT2.out; omega, HY.out.d.over ?_ HL.out⟩
          repeat (first | with_reducible exact Below.refl _ _ | with_reducible apply Below.drew | with_reducible refine Below.setCell ?_ (by first | exact Nat.le_refl _ | exact hB3) _)
        · skip
          by_cases e4 : v = 4
          · subst e4
            go_wp2_with fail
            have HP : Hid (RS S a k cap z (t2 + 1) w (x1.alloc (.cells #[.int .i64 (-1), .int .i64 0, .int .i64 1000, .int .i64 1001] 2)) B3 (⟨rk, rt, ry, rh, ro, rs, rn, rb⟩ : Rc)) := HR1.out.below (below_new _ _)
            refine (l1Pick_any S a k cap z (t2 + 1) x1.heap.size 0 4 4 (fun i => if i = 0 then (-1 : Int) else if i = 1 then 0 else if i = 2 then 1000 else 1001) _ (by have := HT.out; omega) (by omega) (by omega) (by have := HR1.out.d.src.lt; omega) (by simp [go_sem]) (fun i hi => ?_) HP.out.d.src).mono ?_
            · rcases i with - | - | - | - | i
              · simp [go_sem]
              · simp [go_sem]
              · simp [go_sem]
              · simp [go_sem]
              · omega
            rintro e y1 ⟨i, hi, rfl, hn⟩
            generalize (if i = 0 then (-1 : Int) else if i = 1 then 0 else if i = 2 then 1000 else 1001 : Int) = pv at *
            have HY : Hid (RS S a k cap z (t2 + 1 + 1) w y1 B3 (⟨rk, rt, ry, rh, ro, rs, rn, rb⟩ : Rc)) := HP.out.call hn.dw
            clear hn hi HP
            have q0 : (y1).cell? ⟨B3, 0, none⟩ = some (.int .i64 (rk)) := HY.out.b3.c0
            have q1 : (y1).cell? ⟨B3, 1, none⟩ = some (.int .i64 (rt)) := HY.out.b3.c1
            have q2 : (y1).cell? ⟨B3, 2, none⟩ = some (.int .i64 (ry)) := HY.out.b3.c2
            have q3 : (y1).cell? ⟨B3, 3, none⟩ = some (.bool (rh)) := HY.out.b3.c3
            have q4 : (y1).cell? ⟨B3, 4, none⟩ = some (.int .i64 (ro)) := HY.out.b3.c4
            have q5 : (y1).cell? ⟨B3, 5, none⟩ = some (.bool (rs)) := HY.out.b3.c5
            have q6 : (y1).cell? ⟨B3, 6, none⟩ = some (.int .i64 (rn)) := HY.out.b3.c6
            have q7 : (y1).cell? ⟨B3, 7, none⟩ = some (.int .i64 (rb)) := HY.out.b3.c7
            have qf : ∀ i, (y1).frozen? ⟨B3, i, none⟩ = false := HY.out.b3.f
            have d0 : (y1).cell? ⟨w.heap.size, 0, none⟩ = some (.int .i64 (0)) := HY.out.b2.c0
            have d1 : (y1).cell? ⟨w.heap.size, 1, none⟩ = some (.int .i64 (0)) := HY.out.b2.c1
            have d2 : (y1).cell? ⟨w.heap.size, 2, none⟩ = some (.int .i64 (0)) := HY.out.b2.c2
            have d3 : (y1).cell? ⟨w.heap.size, 3, none⟩ = some (.bool (false)) := HY.out.b2.c3
            have d4 : (y1).cell? ⟨w.heap.size, 4, none⟩ = some (.int .i64 (0)) := HY.out.b2.c4
            have d5 : (y1).cell? ⟨w.heap.size, 5, none⟩ = some (.bool (false)) := HY.out.b2.c5
            have d6 : (y1).cell? ⟨w.heap.size, 6, none⟩ = some (.int .i64 (0)) := HY.out.b2.c6
            have d7 : (y1).cell? ⟨w.heap.size, 7, none⟩ = some (.int .i64 (0)) := HY.out.b2.c7
            have df : ∀ i, (y1).frozen? ⟨w.heap.size, i, none⟩ = false := HY.out.b2.f
            go_wp2_with fail
            refine bodyPost_ret (v := rV (⟨rk, rt, ry, rh, ro, rs, rn, pv⟩ : Rc)) (by simp [results, Try.results53, go_sem, rV, hne1, hne2, d0, d1, d2, d3, d4, d5, d6, d7]) rfl ⟨_, _, rfl, by have := HT2.out; omega, HY.out.d.over ?_ HL.out⟩
            repeat (first | with_reducible exact Below.refl _ _ | with_reducible apply Below.drew | with_reducible refine Below.setCell ?_ (by first | exact Nat.le_refl _ | exact hB3) _)
          · skip
            by_cases e5 : v = 5
            · subst e5
              have q0 : (x1).cell? ⟨B3, 0, none⟩ = some (.int .i64 (rk)) := HR1.out.b3.c0
              have q1 : (x1).cell? ⟨B3, 1, none⟩ = some (.int .i64 (rt)) := HR1.out.b3.c1
              have q2 : (x1).cell? ⟨B3, 2, none⟩ = some (.int .i64 (ry)) := HR1.out.b3.c2
              have q3 : (x1).cell? ⟨B3, 3, none⟩ = some (.bool (rh)) := HR1.out.b3.c3
              have q4 : (x1).cell? ⟨B3, 4, none⟩ = some (.int .i64 (ro)) := HR1.out.b3.c4
              have q5 : (x1).cell? ⟨B3, 5, none⟩ = some (.bool (rs)) := HR1.out.b3.c5
              have q6 : (x1).cell? ⟨B3, 6, none⟩ = some (.int .i64 (rn)) := HR1.out.b3.c6
              have q7 : (x1).cell? ⟨B3, 7, none⟩ = some (.int .i64 (rb)) := HR1.out.b3.c7
              have qf : ∀ i, (x1).frozen? ⟨B3, i, none⟩ = false := HR1.out.b3.f
              have d0 : (x1).cell? ⟨w.heap.size, 0, none⟩ = some (.int .i64 (0)) := HR1.out.b2.c0
              have d1 : (x1).cell? ⟨w.heap.size, 1, none⟩ = some (.int .i64 (0)) := HR1.out.b2.c1
              have d2 : (x1).cell? ⟨w.heap.size, 2, none⟩ = some (.int .i64 (0)) := HR1.out.b2.c2
              have d3 : (x1).cell? ⟨w.heap.size, 3, none⟩ = some (.bool (false)) := HR1.out.b2.c3
              have d4 : (x1).cell? ⟨w.heap.size, 4, none⟩ = some (.int .i64 (0)) := HR1.out.b2.c4
              have d5 : (x1).cell? ⟨w.heap.size, 5, none⟩ = some (.bool (false)) := HR1.out.b2.c5
              have d6 : (x1).cell? ⟨w.heap.size, 6, none⟩ = some (.int .i64 (0)) := HR1.out.b2.c6
              have d7 : (x1).cell? ⟨w.heap.size, 7, none⟩ = some (.int .i64 (0)) := HR1.out.b2.c7
              have df : ∀ i, (x1).frozen? ⟨w.heap.size, i, none⟩ = false := HR1.out.b2.f
              go_wp2_with fail
              refine bodyPost_ret (v := rV (⟨rk, rt, ry, rh, ro, !rs, rn, rb⟩ : Rc)) (by simp [results, Try.results53, go_sem, rV, hne1, hne2, d0, d1, d2, d3, d4, d5, d6, d7]) rfl ⟨_, _, rfl, by have := HT2.out; omega, HR1.out.d.over ?_ HL.out⟩
              repeat (first | with_reducible exact Below.refl _ _ | with_reducible apply Below.drew | with_reducible refine Below.setCell ?_ (by first | exact Nat.le_refl _ | exact hB3) _)
            · skip
              have q0 : (x1).cell? ⟨B3, 0, none⟩ = some (.int .i64 (rk)) := HR1.out.b3.c0
              have q1 : (x1).cell? ⟨B3, 1, none⟩ = some (.int .i64 (rt)) := HR1.out.b3.c1
              have q2 : (x1).cell? ⟨B3, 2, none⟩ = some (.int .i64 (ry)) := HR1.out.b3.c2
              have q3 : (x1).cell? ⟨B3, 3, none⟩ = some (.bool (rh)) := HR1.out.b3.c3
              have q4 : (x1).cell? ⟨B3, 4, none⟩ = some (.int .i64 (ro)) := HR1.out.b3.c4
              have q5 : (x1).cell? ⟨B3, 5, none⟩ = some (.bool (rs)) := HR1.out.b3.c5
              have q6 : (x1).cell? ⟨B3, 6, none⟩ = some (.int .i64 (rn)) := HR1.out.b3.c6
              have q7 : (x1).cell? ⟨B3, 7, none⟩ = some (.int .i64 (rb)) := HR1.out.b3.c7
              have qf : ∀ i, (x1).frozen? ⟨B3, i, none⟩ = false := HR1.out.b3.f
              have d0 : (x1).cell? ⟨w.heap.size, 0, none⟩ = some (.int .i64 (0)) := HR1.out.b2.c0
              have d1 : (x1).cell? ⟨w.heap.size, 1, none⟩ = some (.int .i64 (0)) := HR1.out.b2.c1
              have d2 : (x1).cell? ⟨w.heap.size, 2, none⟩ = some (.int .i64 (0)) := HR1.out.b2.c2
              have d3 : (x1).cell? ⟨w.heap.size, 3, none⟩ = some (.bool (false)) := HR1.out.b2.c3
              have d4 : (x1).cell? ⟨w.heap.size, 4, none⟩ = some (.int .i64 (0)) := HR1.out.b2.c4
              have d5 : (x1).cell? ⟨w.heap.size, 5, none⟩ = some (.bool (false)) := HR1.out.b2.c5
              have d6 : (x1).cell? ⟨w.heap.size, 6, none⟩ = some (.int .i64 (0)) := HR1.out.b2.c6
              have d7 : (x1).cell? ⟨w.heap.size, 7, none⟩ = some (.int .i64 (0)) := HR1.out.b2.c7
              have df : ∀ i, (x1).frozen? ⟨w.heap.size, i, none⟩ = false := HR1.out.b2.f
              go_wp2_with fail
              refine bodyPost_ret (v := rV (⟨rk, rt, ry, rh, ro, rs, rn, rb⟩ : Rc)) (by simp [results, Try.results53, go_sem, rV, hne1, hne2, d0, d1, d2, d3, d4, d5, d6, d7]) rfl ⟨_, _, rfl, by have := HT2.out; omega, HR1.out.d.over ?_ HL.out⟩
              repeat (first | with_reducible exact Below.refl _ _ | with_reducible apply Below.drew | with_reducible refine Below.setCell ?_ (by first | exact Nat.le_refl _ | exact hB3) _)
end Go.Proofs.Ytppckjecidcflaa
