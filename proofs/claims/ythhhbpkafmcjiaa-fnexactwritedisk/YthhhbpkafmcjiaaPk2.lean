/- PackPage with what its answer has room for; pages in the laws over disks. -/
import Derived.Test.YthhhbpkafmcjiaaPk
import Derived.Test.YthhhbpkafmcjiaaSp
namespace Go.Proofs.Ythhhbpkafmcjiaa
open Go.RowKit Go.Deep
set_option linter.unusedVariables false
set_option maxRecDepth 20000

def BRes2 (c : Int) (zs : List Int) (w : World) (e : Ending) (w' : World) : Prop :=
  ∃ a cap, e = .returned (.agg #[.int .i64 c, .slice a (if c = 0 then zs else []).length cap]) ∧ Below w.heap.size w w' ∧ OwnB w' w.heap.size w'.heap.size a (if c = 0 then zs else []).length (zOf (if c = 0 then zs else [])) ∧ (if c = 0 then zs else []).length ≤ cap
theorem bres2_bad {c : Int} {zs : List Int} {w w' : World} (hb : Below w.heap.size w w') (hc : c ≠ 0) : BRes2 c zs w (.returned (.agg #[.int .i64 c, .slice none 0 0])) w' := by
  rw [BRes2]
  simp only [if_neg hc]
  exact ⟨none, 0, rfl, hb, ⟨Nat.le_refl _, .inl rfl⟩, Nat.le_refl _⟩
theorem bres2_ok {x : Int} {zs : List Int} {w wq w' : World} {a : Option Addr} {cap lo : Nat} (E : Hid (x = 0)) (hB : Below w.heap.size w wq) (hlo : w.heap.size + 2 ≤ lo)
    (ho : OwnB wq lo wq.heap.size a zs.length (zOf zs)) (hw : Writes (w.heap.size + 1) (w.heap.size + 2) wq w') (hs : w'.heap.size = wq.heap.size) (hcp : zs.length ≤ cap) :
    BRes2 x zs w (.returned (.agg #[.int .i64 0, .slice a zs.length cap])) w' := by
  rw [BRes2, E.out]
  simp only [if_true]
  have hb : Below w.heap.size w w' := Writes.below hB hw (by omega)
  refine ⟨a, cap, rfl, hb, ?_, hcp⟩
  rw [hs]
  exact OwnB.wide (OwnB.writes ho hw (.inr (by omega))) (by omega) (Nat.le_refl _) (by omega)
theorem own_cap {w : World} {base : Nat} {a : Option Addr} {n cap : Nat} {xs : List Value} (h : w.ownsRow base 5 1 (.slice a n cap) n xs) : n ≤ cap := by
  rcases h.2 with ⟨e, h0⟩ | ⟨_, _, _, e, _, _, h9, _⟩
  · omega
  · simp only [Value.slice.injEq] at e
    omega
set_option maxHeartbeats 2000000 in
theorem implPack2 (idn lsn : Int) (n : Nat) (K V : Nat → Int) (b : Nat) (w : World) (hn : n ≤ 140737488355328) (h : CellsAt w (some ⟨b, 0, none⟩) n K V) :
    Calls Try.prog 18 #[.agg #[.int .i64 idn, .int .i64 lsn, .slice (some ⟨b, 0, none⟩) n n]] w (BRes2 (pf idn lsn n K V) (pgb idn lsn n K V) w) := by
  have hb0 : ∀ o1 o2, Below w.heap.size w ((w.alloc o1).alloc o2) := fun o1 o2 => ((Below.refl _ _).alloc (Nat.le_refl _) _).alloc (by simp) _
  by_cases h0 : pf idn lsn n K V = 0
  · have HG : Hid (GoodP idn lsn n K V) := good_of h0
    have E : Hid (pf idn lsn n K V = 0) := h0
    have HBN : Hid (n = 0 ∨ b < w.heap.size) := by
      rcases h with h | ⟨b', o', e, hl, _⟩
      · exact .inl h
      · simp only [Option.some.injEq, Addr.mk.injEq, and_true] at e
        exact .inr (by omega)
    go_enter Try.func18, Try.ntmps18
    go_wp2_with fail
    refine (implFault_any idn lsn n K V _ n _ (by omega) (h.below (hb0 _ _))).mono ?_
    rintro e w1 ⟨rfl, hb1⟩
    rw [h0]
    have HA : Hid (CellsAt w1 (some ⟨b, 0, none⟩) n K V) := (h.below (hb0 _ _)).below hb1
    obtain ⟨hc, hf⟩ := bcell hb1
    have hz : w.heap.size + 1 < w1.heap.size := by have hq := hb1.size; simp at hq; omega
    have k0 : w1.cell? ⟨w.heap.size, 0, none⟩ = some (.int .i64 idn) := by rw [hc _ _ (by simp <;> omega)]; simp [go_sem]
    have k1 : w1.cell? ⟨w.heap.size, 1, none⟩ = some (.int .i64 lsn) := by rw [hc _ _ (by simp <;> omega)]; simp [go_sem]
    have k2 : w1.cell? ⟨w.heap.size, 2, none⟩ = some (.slice (some ⟨b, 0, none⟩) n n) := by rw [hc _ _ (by simp <;> omega)]; simp [go_sem]
    have r0 : w1.cell? ⟨w.heap.size + 1, 0, none⟩ = some (.int .i64 0) := by simp [hc]
    have r1 : w1.cell? ⟨w.heap.size + 1, 1, none⟩ = some (.slice none 0 0) := by simp [hc]
    have f0 : ∀ i, w1.frozen? ⟨w.heap.size + 1, i, none⟩ = false := fun i => by simp [hf, go_sem]
    have m0 := fun o : Obj => cell_alloc k0 o
    have m1 := fun o : Obj => cell_alloc k1 o
    have m2 := fun o : Obj => cell_alloc k2 o
    have HB : Hid (Below w.heap.size w w1) := below_then (hb0 _ _) hb1
    clear h0 hc hf hb1 hb0 h
    go_wp2_with fail
    have hrw := rows_at (HA.out.below (below_new w1 (.cells #[.slice none 0 0] 95)))
    refine (putPage_any w1.heap.size idn lsn n K V b (w1.alloc (.cells #[.slice none 0 0] 95)) HG.out (by simp) ?_ (fun i hi => by have := hrw.1 i hi; simpa using this) (fun i hi => by have := hrw.2 i hi; simpa using this) ⟨by simp, by simp, World.ownsRow_nil _ _ _ _⟩).mono ?_
    · rcases HBN.out with h | h
      · exact .inl h
      · exact .inr ⟨by simp; omega, by omega⟩
    rintro e w3 ⟨rfl, v3, hm3, hos, htape, hout, hsz3, hblk⟩
    obtain ⟨a3, cap3, rfl, ho3⟩ := ownB_of_row hm3.2.2
    have HCP : Hid ((pgb idn lsn n K V).length ≤ cap3) := own_cap hm3.2.2
    have hc3 := hm3.1
    have hs3 : w1.heap.size + 1 ≤ w3.heap.size := by rw [World.size_alloc] at hsz3; exact hsz3
    have hbk : ∀ k, k < w1.heap.size → w3.heap[k]? = w1.heap[k]? := fun k hk => (hblk k (by rw [World.size_alloc]; omega) (by omega)).trans (Below.heap_alloc _ _ _ hk)
    have t0 : w3.cell? ⟨w.heap.size + 1, 0, none⟩ = some (.int .i64 0) := (World.cell?_of_block (w := w1) (a := ⟨w.heap.size + 1, 0, none⟩) (hbk _ hz)).trans r0
    have t1 : w3.cell? ⟨w.heap.size + 1, 1, none⟩ = some (.slice none 0 0) := (World.cell?_of_block (w := w1) (a := ⟨w.heap.size + 1, 1, none⟩) (hbk _ hz)).trans r1
    have fz : ∀ i, w3.frozen? ⟨w.heap.size + 1, i, none⟩ = false := fun i => (World.frozen?_of_block (w := w1) (a := ⟨w.heap.size + 1, i, none⟩) (hbk _ hz)).trans (f0 i)
    have HB3 : Hid (Below w.heap.size w w3) := ⟨hos.trans HB.out.os, htape.trans HB.out.tape, hout.trans HB.out.output, by have := HB.out.size; omega, fun k hk => (hbk k (by omega)).trans (HB.out.block k hk)⟩
    have HO3 : Hid (OwnB w3 ((w1.alloc (.cells #[.slice none 0 0] 95)).heap.size + 1) w3.heap.size a3 (pgb idn lsn n K V).length (zOf (pgb idn lsn n K V))) := ho3
    generalize pgb idn lsn n K V = Z at *
    clear hm3 ho3 hblk hbk hos htape hout hsz3 r0 r1 f0 m0 m1 m2 k0 k1 k2 hrw HA
    go_wp2_with fail
    refine bodyPost_ret (v := .agg #[.int .i64 0, .slice a3 Z.length cap3]) (by simp [results, Try.results18, go_sem, *]) rfl ?_
    refine bres2_ok E HB3.out ?_ HO3.out ?_ (by simp [World.setCell]) HCP.out
    · rw [World.size_alloc]; omega
    · repeat (first | exact Writes.refl _ _ _ | apply Writes.drew | refine Writes.setCell ?_ (by first | omega | (simp <;> omega)) (by first | omega | (simp <;> omega)) _)
  · have hd : (pf idn lsn n K V != 0) = true := by simpa using h0
    have HNZ : Hid (pf idn lsn n K V ≠ 0) := h0
    go_enter Try.func18, Try.ntmps18
    go_wp2_with fail
    refine (implFault_any idn lsn n K V _ n _ (by omega) (h.below (hb0 _ _))).mono ?_
    rintro e w1 ⟨rfl, hb1⟩
    obtain ⟨hc, hf⟩ := bcell hb1
    generalize pf idn lsn n K V = c at *
    clear h0
    go_wp2_with fail
    refine bodyPost_ret (v := .agg #[.int .i64 c, .slice none 0 0]) (by simp [results, Try.results18, go_sem, hc]) rfl ?_
    refine bres2_bad ?_ HNZ.out
    repeat (first | exact below_then (hb0 _ _) hb1 | refine Below.setCell ?_ (by first | omega | (simp <;> omega)) _)
theorem pgb_48 {idn lsn : Int} {n : Nat} {K V : Nat → Int} (h : n ≤ 12) : (pgb idn lsn n K V).length = 48 := by
  simp only [pgb, fld, bdy, List.length_append, List.length_replicate, hd_len, cb_len, nb_len]; omega
theorem szPage_x (id lsn : Int) (n : Nat) (a : Option Addr) (cap : Nat) (x : Int) (w : World) (hn : n ≤ 9223372036854775807) (h0 : 0 ≤ x) (h1 : x ≤ 1048576) :
    Calls Try.prog 49 #[.agg #[.int .i64 id, .int .i64 lsn, .slice a n cap], .int .i64 x] w fun e w' => Below w.heap.size w w' ∧ ∃ r : Int, e = .returned (.int .i64 r) ∧ (r = -1 ∨ (0 ≤ r ∧ r = x - n)) := by
  by_cases h : x - (n : Int) < 0
  · go_enter Try.func49, Try.ntmps49
    go_wp2
    go_ret
    exact ⟨below_new _ _, _, rfl, .inl rfl⟩
  · go_enter Try.func49, Try.ntmps49
    go_wp2
    go_ret
    exact ⟨below_new _ _, _, rfl, .inr ⟨by omega, rfl⟩⟩
theorem markPage_x (id lsn : Int) (n : Nat) (K V : Nat → Int) (a : Option Addr) (cap lo hi : Nat) (m : Int) (w : World) (hn : n ≤ 8796093022208) (hm1 : 0 ≤ m) (hm2 : m ≤ 8796093022208) (h : Own w lo hi a n K V) :
    Calls Try.prog 53 #[.agg #[.int .i64 id, .int .i64 lsn, .slice a n cap], .int .i64 m] w fun e w' => e = .returned (.int .i64 (m + n * 2)) ∧ Writes lo hi w w' := by
  go_enter Try.func53, Try.ntmps53
  go_wp2_with fail
  refine (markCellS_any n K V a cap lo hi m _ hn hm1 hm2 (h.below ((Below.refl _ _).alloc (Nat.le_refl _) _))).mono ?_
  rintro e w1 ⟨rfl, hw, ho⟩
  go_wp2_with fail
  go_ret
  exact ⟨rfl, (Writes.of_below ((Below.refl _ _).alloc (Nat.le_refl _) _)).trans hw⟩
end Go.Proofs.Ythhhbpkafmcjiaa
