/- Draws of acts and of lines. -/
import Derived.Test.YtiflheclfgloaaaDoorDsc
import Derived.Test.YtiflheclfgloaaaDoorYtd
import Derived.Test.YtiflheclfgloaaaDoorWae
namespace Go.Proofs.YtiflheclfgloaaaDoor
open Go.RowKit Go.Deep
set_option linter.unusedVariables false
set_option maxRecDepth 20000

theorem l1Max_eq (p q : Int) (w : World) : Calls Tryd.prog 41 #[.int .i64 p, .int .i64 q] w fun e w' => e = .returned (.int .i64 (if q < p then p else q)) ∧ w' = w := by
  by_cases h : q < p
  · rw [if_pos h]
    go_enter Tryd.func41, Tryd.ntmps41
    go_wp2_with fail
    go_ret
    exact ⟨rfl, rfl⟩
  · rw [if_neg h]
    go_enter Tryd.func41, Tryd.ntmps41
    go_wp2_with fail
    go_ret
    exact ⟨rfl, rfl⟩
theorem src_blockY {w w2 : World} {S : Nat} {a : Option Addr} {k cap : Nat} {z : Nat → Int} {t : Nat} (h : Src w S a k cap z t) (hz : w.heap.size ≤ w2.heap.size) (e : ∀ b, b ≤ S → w2.heap[b]? = w.heap[b]?) : Src w2 S a k cap z t := by
  have g : ∀ i, w2.cell? ⟨S, i, none⟩ = w.cell? ⟨S, i, none⟩ := fun i => World.cell?_of_block (w := w) (a := ⟨S, i, none⟩) (e S (Nat.le_refl _))
  refine ⟨(g 0).trans h.c0, (g 1).trans h.c1, fun i => (World.frozen?_of_block (w := w) (a := ⟨S, i, none⟩) (e S (Nat.le_refl _))).trans (h.f i), ?_, h.far, h.byt, h.len⟩
  rcases h.b with e1 | ⟨b, off, rfl, hl, hc⟩
  · exact .inl e1
  · rcases h.far b off rfl with e1 | e1
    · exact .inl e1
    · exact .inr ⟨b, off, rfl, Nat.lt_of_lt_of_le hl hz, fun i hi => (World.cell?_of_block (w := w) (a := ⟨b, off + i, none⟩) (e b (by omega))).trans (hc i hi)⟩
/-- A cell of a new block is set. -/
theorem Dw.set {w wr : World} {S : Nat} {a : Option Addr} {k cap : Nat} {z : Nat → Int} {t : Nat} (h : Dw S a k cap z t w wr) (hS : S < w.heap.size) {B : Nat} (hB : w.heap.size ≤ B) (i : Nat) (x : Value) : Dw S a k cap z t w (wr.setCell ⟨B, i, none⟩ x) := by
  have e : ∀ k, k ≠ B → (wr.setCell ⟨B, i, none⟩ x).heap[k]? = wr.heap[k]? := fun k hk => Below.heap_setCell _ _ _ _ (by show ¬ k = B; exact hk)
  have hz : (wr.setCell ⟨B, i, none⟩ x).heap.size = wr.heap.size := by simp [World.setCell]
  have h1 := h.1
  exact ⟨⟨h1.os, h1.tape, h1.output, by rw [hz]; exact h1.size, fun q hq hd => (e q (by omega)).trans (h1.block q hq hd)⟩, src_blockY h.2 (by rw [hz]; exact Nat.le_refl _) fun b hb => e b (by omega)⟩
def Bq (w : World) (B : Nat) (c0 c1 c2 c3 : Value) : Prop := w.cell? ⟨B, 0, none⟩ = some c0 ∧ w.cell? ⟨B, 1, none⟩ = some c1 ∧ w.cell? ⟨B, 2, none⟩ = some c2 ∧ w.cell? ⟨B, 3, none⟩ = some c3 ∧ ∀ i, w.frozen? ⟨B, i, none⟩ = false
theorem Bq.lt {w : World} {B : Nat} {c0 c1 c2 c3 : Value} (h : Bq w B c0 c1 c2 c3) : B < w.heap.size := Go.block_lt_of_cell h.1
theorem Bq.block {w w' : World} {B : Nat} {c0 c1 c2 c3 : Value} (h : Bq w B c0 c1 c2 c3) (e : w'.heap[B]? = w.heap[B]?) : Bq w' B c0 c1 c2 c3 :=
  ⟨(World.cell?_of_block (w := w) (a := ⟨B, 0, none⟩) e).trans h.1, (World.cell?_of_block (w := w) (a := ⟨B, 1, none⟩) e).trans h.2.1, (World.cell?_of_block (w := w) (a := ⟨B, 2, none⟩) e).trans h.2.2.1, (World.cell?_of_block (w := w) (a := ⟨B, 3, none⟩) e).trans h.2.2.2.1, fun i => (World.frozen?_of_block (w := w) (a := ⟨B, i, none⟩) e).trans (h.2.2.2.2 i)⟩
theorem Bq.dw {wr w2 : World} {S : Nat} {a : Option Addr} {k cap : Nat} {z : Nat → Int} {t B : Nat} {c0 c1 c2 c3 : Value} (h : Bq wr B c0 c1 c2 c3) (hb : B ≠ S) (d : Dw S a k cap z t wr w2) : Bq w2 B c0 c1 c2 c3 := h.block (d.1.block B h.lt (by omega))
theorem Bq.below {w w' : World} {B : Nat} {c0 c1 c2 c3 : Value} (h : Bq w B c0 c1 c2 c3) (hb : Below w.heap.size w w') : Bq w' B c0 c1 c2 c3 := h.block (hb.block B h.lt)
theorem Bq.new (w : World) (c0 c1 c2 c3 : Value) (T : TypeId) : Bq (w.alloc (.cells #[c0, c1, c2, c3] T)) w.heap.size c0 c1 c2 c3 := by simp [Bq, go_sem]
def pk (L : List Int) (i : Nat) : Int := L.getD i 0
theorem lit_pk (w : World) (t : TypeId) (L : List Int) {c : Array Value} (hc : c = (L.map (Value.int .i64)).toArray) : ∀ i, i < L.length → (w.alloc (.cells c t)).cell? ⟨w.heap.size, 0 + i, none⟩ = some (.int .i64 (pk L i)) := fun i hi => by
  subst hc
  rw [Nat.zero_add]
  simp [pk, hi]
def ActD (S : Nat) (a : Option Addr) (k cap : Nat) (z : Nat → Int) (t : Nat) (w : World) (e : Ending) (w' : World) : Prop :=
  ∃ (kd tx ky vl : Int) (t' : Nat), e = .returned (.agg #[.int .i64 kd, .int .i64 tx, .int .i64 ky, .int .i64 vl]) ∧ t' ≤ t + 6 ∧ Dw S a k cap z t' w w'
set_option maxHeartbeats 8000000 in
theorem l9Act_any (S : Nat) (a : Option Addr) (k cap : Nat) (z : Nat → Int) (t : Nat) (op : Int) (w : World) (ht : t ≤ 900000) (ho1 : 0 ≤ op) (ho2 : op ≤ 1000) (h : Src w S a k cap z t) :
    Calls Tryd.prog 31 #[.pointer (some ⟨S, 0, none⟩), .int .i64 op] w (ActD S a k cap z t w) := by
  have HS : Hid (Src w S a k cap z t) := h
  have HSl : Hid (S < w.heap.size) := h.lt
  clear h
  go_enter Tryd.func31, Tryd.ntmps31
  go_wp2_with fail
  have hSl := HSl.out
  have HD0 : Hid (Dw S a k cap z t w ((w.alloc (.cells #[.int .i64 0, .int .i64 0, .int .i64 0, .int .i64 0] 23)).alloc (.cells #[.int .i64 1, .int .i64 2, .int .i64 3, .int .i64 4, .int .i64 4, .int .i64 4, .int .i64 5, .int .i64 6, .int .i64 7] 2))) := HS.out.self.below ((below_new _ _).alloc (by simp) _)
  have B0 := (Bq.new w (.int .i64 0) (.int .i64 0) (.int .i64 0) (.int .i64 0) 23).below (below_new _ (.cells #[.int .i64 1, .int .i64 2, .int .i64 3, .int .i64 4, .int .i64 4, .int .i64 4, .int .i64 5, .int .i64 6, .int .i64 7] 2))
  have hlit := lit_pk (w.alloc (.cells #[.int .i64 0, .int .i64 0, .int .i64 0, .int .i64 0] 23)) 2 [1, 2, 3, 4, 4, 4, 5, 6, 7] (c := #[.int .i64 1, .int .i64 2, .int .i64 3, .int .i64 4, .int .i64 4, .int .i64 4, .int .i64 5, .int .i64 6, .int .i64 7]) rfl
  rw [World.size_alloc] at hlit
  have hsz0 : w.heap.size + 2 ≤ ((w.alloc (.cells #[.int .i64 0, .int .i64 0, .int .i64 0, .int .i64 0] 23)).alloc (.cells #[.int .i64 1, .int .i64 2, .int .i64 3, .int .i64 4, .int .i64 4, .int .i64 4, .int .i64 5, .int .i64 6, .int .i64 7] 2)).heap.size := by simp
  generalize ((w.alloc (.cells #[.int .i64 0, .int .i64 0, .int .i64 0, .int .i64 0] 23)).alloc (.cells #[.int .i64 1, .int .i64 2, .int .i64 3, .int .i64 4, .int .i64 4, .int .i64 4, .int .i64 5, .int .i64 6, .int .i64 7] 2)) = w0 at *
  refine (l1Pick_any S a k cap z t (w.heap.size + 1) 0 9 9 (pk [1, 2, 3, 4, 4, 4, 5, 6, 7]) w0 (by omega) (by omega) (by omega) (by omega) (by omega) hlit HD0.out.src).mono ?_
  rintro e w1 ⟨i1, hi1, rfl, hn⟩
  have HD1 : Hid (Dw S a k cap z (t + 1) w w1) := HD0.out.trans hn.dw
  replace B0 := B0.dw (by omega) hn.dw
  clear hn hlit hi1 hsz0
  generalize pk [1, 2, 3, 4, 4, 4, 5, 6, 7] i1 = kd at *
  go_wp2_with fail
  refine (l1Max_eq 1 op _).mono ?_
  rintro e w1' ⟨rfl, hq⟩
  have hq2 := hq.symm
  clear hq
  subst hq2
  obtain ⟨mx, hmx, hm1, hm2⟩ : ∃ mx : Int, (if op < 1 then 1 else op) = mx ∧ 1 ≤ mx ∧ mx ≤ 1000 := ⟨_, rfl, by split <;> omega, by split <;> omega⟩
  rw [hmx]
  clear hmx
  go_wp2_with fail
  refine (l1Next_any S a k cap z (t + 1) mx _ (by omega) (by omega) HD1.out.src).mono ?_
  rintro e w2 ⟨v2, rfl, hv2, hn⟩
  have HD2 : Hid (Dw S a k cap z (t + 2) w w2) := HD1.out.trans hn.dw
  replace B0 := B0.dw (by omega) hn.dw
  have hv2a := hv2.1
  have hv2b := hv2.2.1 hm1
  clear hn
  go_wp2_with fail
  refine (l1Next_any S a k cap z (t + 2) 5 _ (by omega) (by omega) HD2.out.src).mono ?_
  rintro e w3 ⟨v3, rfl, hv3, hn⟩
  have HD3 : Hid (Dw S a k cap z (t + 3) w w3) := HD2.out.trans hn.dw
  replace B0 := B0.dw (by omega) hn.dw
  clear hn hv3
  go_wp2_with fail
  refine (l1Next_any S a k cap z (t + 3) 90 _ (by omega) (by omega) HD3.out.src).mono ?_
  rintro e w4 ⟨v4, rfl, hv4, hn⟩
  have HD4 : Hid (Dw S a k cap z (t + 4) w w4) := HD3.out.trans hn.dw
  replace B0 := B0.dw (by omega) hn.dw
  have hsz4 := B0.lt
  clear hn hv4
  have hw2 : IntKind.i64.wrap (2 + v2) = 2 + v2 := by rw [IntKind.wrap_i64]; omega
  go_wp2_with fail
  generalize 2 + v2 = tx at *
  have B1 := Bq.new w4 (.int .i64 kd) (.int .i64 tx) (.int .i64 v3) (.int .i64 v4) 23
  have HD5 : Hid (Dw S a k cap z (t + 4) w (w4.alloc (.cells #[.int .i64 kd, .int .i64 tx, .int .i64 v3, .int .i64 v4] 23))) := HD4.out.below (below_new _ _)
  replace B0 := B0.below (below_new w4 (.cells #[.int .i64 kd, .int .i64 tx, .int .i64 v3, .int .i64 v4] 23))
  obtain ⟨B, hB⟩ : ∃ B, B = w4.heap.size := ⟨_, rfl⟩
  have hBS : S < B := by omega
  have hBw : w.heap.size < B := by omega
  rw [← hB] at B1 ⊢
  generalize (w4.alloc (.cells #[.int .i64 kd, .int .i64 tx, .int .i64 v3, .int .i64 v4] 23)) = w5 at *
  clear hB
  refine (l1Next_any S a k cap z (t + 4) 30 _ (by omega) (by omega) HD5.out.src).mono ?_
  rintro e w6 ⟨v6, rfl, hv6, hn⟩
  have HD6 : Hid (Dw S a k cap z (t + 5) w w6) := HD5.out.trans hn.dw
  replace B0 := B0.dw (by omega) hn.dw
  replace B1 := B1.dw (by omega) hn.dw
  clear hn hv6
  by_cases hc0 : v6 = 0
  · subst hc0
    have hlit := lit_pk w6 2 [0, 8] (c := #[.int .i64 0, .int .i64 8]) rfl
    have HD7 : Hid (Dw S a k cap z (t + 5) w (w6.alloc (.cells #[.int .i64 0, .int .i64 8] 2))) := HD6.out.below (below_new _ _)
    replace B0 := B0.below (below_new w6 (.cells #[.int .i64 0, .int .i64 8] 2))
    replace B1 := B1.below (below_new w6 (.cells #[.int .i64 0, .int .i64 8] 2))
    have hszq : w6.heap.size < (w6.alloc (.cells #[.int .i64 0, .int .i64 8] 2)).heap.size := by simp
    have hS6 : S < w6.heap.size := HD6.out.src.lt
    go_wp2_with fail
    generalize (w6.alloc (.cells #[.int .i64 0, .int .i64 8] 2)) = w7 at *
    refine (l1Pick_any S a k cap z (t + 5) w6.heap.size 0 2 2 (pk [0, 8]) w7 (by omega) (by omega) (by omega) (by omega) hszq hlit HD7.out.src).mono ?_
    rintro e w8 ⟨i8, hi8, rfl, hn⟩
    have HD8 : Hid (Dw S a k cap z (t + 6) w w8) := HD7.out.trans hn.dw
    replace B0 := B0.dw (by omega) hn.dw
    replace B1 := B1.dw (by omega) hn.dw
    clear hn hlit hi8
    generalize pk [0, 8] i8 = nv at *
    obtain ⟨b0, b1, b2, b3, bf⟩ := B1
    obtain ⟨z0, z1, z2, z3, zf⟩ := B0
    have hne1 : ¬ B = w.heap.size := by omega
    have hne2 : ¬ w.heap.size = B := by omega
    go_wp2_with fail
    refine bodyPost_ret (v := .agg #[.int .i64 nv, .int .i64 tx, .int .i64 v3, .int .i64 v4]) (by simp [results, Tryd.results31, go_sem, z0, z1, z2, z3]) rfl ⟨_, _, _, _, t + 6, rfl, by omega, ?_⟩
    repeat (first | with_reducible exact HD8.out | with_reducible refine Dw.set ?_ hSl (by omega) _ _)
  by_cases hc1 : v6 = 1
  · subst hc1
    have hlit := lit_pk w6 2 [(-1), 32] (c := #[.int .i64 (-1), .int .i64 32]) rfl
    have HD7 : Hid (Dw S a k cap z (t + 5) w (w6.alloc (.cells #[.int .i64 (-1), .int .i64 32] 2))) := HD6.out.below (below_new _ _)
    replace B0 := B0.below (below_new w6 (.cells #[.int .i64 (-1), .int .i64 32] 2))
    replace B1 := B1.below (below_new w6 (.cells #[.int .i64 (-1), .int .i64 32] 2))
    have hszq : w6.heap.size < (w6.alloc (.cells #[.int .i64 (-1), .int .i64 32] 2)).heap.size := by simp
    have hS6 : S < w6.heap.size := HD6.out.src.lt
    go_wp2_with fail
    generalize (w6.alloc (.cells #[.int .i64 (-1), .int .i64 32] 2)) = w7 at *
    refine (l1Pick_any S a k cap z (t + 5) w6.heap.size 0 2 2 (pk [(-1), 32]) w7 (by omega) (by omega) (by omega) (by omega) hszq hlit HD7.out.src).mono ?_
    rintro e w8 ⟨i8, hi8, rfl, hn⟩
    have HD8 : Hid (Dw S a k cap z (t + 6) w w8) := HD7.out.trans hn.dw
    replace B0 := B0.dw (by omega) hn.dw
    replace B1 := B1.dw (by omega) hn.dw
    clear hn hlit hi8
    generalize pk [(-1), 32] i8 = nv at *
    obtain ⟨b0, b1, b2, b3, bf⟩ := B1
    obtain ⟨z0, z1, z2, z3, zf⟩ := B0
    have hne1 : ¬ B = w.heap.size := by omega
    have hne2 : ¬ w.heap.size = B := by omega
    go_wp2_with fail
    refine bodyPost_ret (v := .agg #[.int .i64 kd, .int .i64 tx, .int .i64 nv, .int .i64 v4]) (by simp [results, Tryd.results31, go_sem, z0, z1, z2, z3]) rfl ⟨_, _, _, _, t + 6, rfl, by omega, ?_⟩
    repeat (first | with_reducible exact HD8.out | with_reducible refine Dw.set ?_ hSl (by omega) _ _)
  by_cases hc2 : v6 = 2
  · subst hc2
    have hlit := lit_pk w6 2 [(-1), 10000] (c := #[.int .i64 (-1), .int .i64 10000]) rfl
    have HD7 : Hid (Dw S a k cap z (t + 5) w (w6.alloc (.cells #[.int .i64 (-1), .int .i64 10000] 2))) := HD6.out.below (below_new _ _)
    replace B0 := B0.below (below_new w6 (.cells #[.int .i64 (-1), .int .i64 10000] 2))
    replace B1 := B1.below (below_new w6 (.cells #[.int .i64 (-1), .int .i64 10000] 2))
    have hszq : w6.heap.size < (w6.alloc (.cells #[.int .i64 (-1), .int .i64 10000] 2)).heap.size := by simp
    have hS6 : S < w6.heap.size := HD6.out.src.lt
    go_wp2_with fail
    generalize (w6.alloc (.cells #[.int .i64 (-1), .int .i64 10000] 2)) = w7 at *
    refine (l1Pick_any S a k cap z (t + 5) w6.heap.size 0 2 2 (pk [(-1), 10000]) w7 (by omega) (by omega) (by omega) (by omega) hszq hlit HD7.out.src).mono ?_
    rintro e w8 ⟨i8, hi8, rfl, hn⟩
    have HD8 : Hid (Dw S a k cap z (t + 6) w w8) := HD7.out.trans hn.dw
    replace B0 := B0.dw (by omega) hn.dw
    replace B1 := B1.dw (by omega) hn.dw
    clear hn hlit hi8
    generalize pk [(-1), 10000] i8 = nv at *
    obtain ⟨b0, b1, b2, b3, bf⟩ := B1
    obtain ⟨z0, z1, z2, z3, zf⟩ := B0
    have hne1 : ¬ B = w.heap.size := by omega
    have hne2 : ¬ w.heap.size = B := by omega
    go_wp2_with fail
    refine bodyPost_ret (v := .agg #[.int .i64 kd, .int .i64 tx, .int .i64 v3, .int .i64 nv]) (by simp [results, Tryd.results31, go_sem, z0, z1, z2, z3]) rfl ⟨_, _, _, _, t + 6, rfl, by omega, ?_⟩
    repeat (first | with_reducible exact HD8.out | with_reducible refine Dw.set ?_ hSl (by omega) _ _)
  by_cases hc3 : v6 = 3
  · subst hc3
    have hlit := lit_pk w6 2 [0, 1, 99] (c := #[.int .i64 0, .int .i64 1, .int .i64 99]) rfl
    have HD7 : Hid (Dw S a k cap z (t + 5) w (w6.alloc (.cells #[.int .i64 0, .int .i64 1, .int .i64 99] 2))) := HD6.out.below (below_new _ _)
    replace B0 := B0.below (below_new w6 (.cells #[.int .i64 0, .int .i64 1, .int .i64 99] 2))
    replace B1 := B1.below (below_new w6 (.cells #[.int .i64 0, .int .i64 1, .int .i64 99] 2))
    have hszq : w6.heap.size < (w6.alloc (.cells #[.int .i64 0, .int .i64 1, .int .i64 99] 2)).heap.size := by simp
    have hS6 : S < w6.heap.size := HD6.out.src.lt
    go_wp2_with fail
    generalize (w6.alloc (.cells #[.int .i64 0, .int .i64 1, .int .i64 99] 2)) = w7 at *
    refine (l1Pick_any S a k cap z (t + 5) w6.heap.size 0 3 3 (pk [0, 1, 99]) w7 (by omega) (by omega) (by omega) (by omega) hszq hlit HD7.out.src).mono ?_
    rintro e w8 ⟨i8, hi8, rfl, hn⟩
    have HD8 : Hid (Dw S a k cap z (t + 6) w w8) := HD7.out.trans hn.dw
    replace B0 := B0.dw (by omega) hn.dw
    replace B1 := B1.dw (by omega) hn.dw
    clear hn hlit hi8
    generalize pk [0, 1, 99] i8 = nv at *
    obtain ⟨b0, b1, b2, b3, bf⟩ := B1
    obtain ⟨z0, z1, z2, z3, zf⟩ := B0
    have hne1 : ¬ B = w.heap.size := by omega
    have hne2 : ¬ w.heap.size = B := by omega
    go_wp2_with fail
    refine bodyPost_ret (v := .agg #[.int .i64 kd, .int .i64 nv, .int .i64 v3, .int .i64 v4]) (by simp [results, Tryd.results31, go_sem, z0, z1, z2, z3]) rfl ⟨_, _, _, _, t + 6, rfl, by omega, ?_⟩
    repeat (first | with_reducible exact HD8.out | with_reducible refine Dw.set ?_ hSl (by omega) _ _)
  have hd0 : (v6 == 0) = false := by simp [hc0]
  have hd1 : (v6 == 1) = false := by simp [hc1]
  have hd2 : (v6 == 2) = false := by simp [hc2]
  have hd3 : (v6 == 3) = false := by simp [hc3]
  obtain ⟨b0, b1, b2, b3, bf⟩ := B1
  obtain ⟨z0, z1, z2, z3, zf⟩ := B0
  have hne1 : ¬ B = w.heap.size := by omega
  have hne2 : ¬ w.heap.size = B := by omega
  go_wp2_with fail
  refine bodyPost_ret (v := .agg #[.int .i64 kd, .int .i64 tx, .int .i64 v3, .int .i64 v4]) (by simp [results, Tryd.results31, go_sem, z0, z1, z2, z3]) rfl ⟨_, _, _, _, t + 5, rfl, by omega, ?_⟩
  repeat (first | with_reducible exact HD6.out | with_reducible refine Dw.set ?_ hSl (by omega) _ _)
end Go.Proofs.YtiflheclfgloaaaDoor
