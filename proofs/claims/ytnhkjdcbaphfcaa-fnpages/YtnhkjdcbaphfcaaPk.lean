/- PackPage: an answer that is bytes; the walk of impl.PackPage. -/
import Derived.Test.YtnhkjdcbaphfcaaPp
import Derived.Test.YtnhkjdcbaphfcaaWi
namespace Go.Proofs.Ytnhkjdcbaphfcaa
open Go.RowKit Go.Deep
set_option linter.unusedVariables false
set_option maxRecDepth 20000

/-- Bytes in a block from lo on, below hi, that may be written. -/
def OwnB (w : World) (lo hi : Nat) (a : Option Addr) (n : Nat) (z : Nat → Int) : Prop :=
  hi ≤ w.heap.size ∧ (n = 0 ∨ ∃ g off, a = some ⟨g, off, none⟩ ∧ lo ≤ g ∧ g < hi ∧ (∀ i, i < n → w.cell? ⟨g, off + i, none⟩ = some (.int .u8 (z i))) ∧ (∀ i, i < n → w.frozen? ⟨g, off + i, none⟩ = false))
theorem OwnB.at {w : World} {lo hi : Nat} {a : Option Addr} {n : Nat} {z : Nat → Int} (h : OwnB w lo hi a n z) : BytesAt w a n z := by
  obtain ⟨h0, h1 | ⟨g, off, ha, _, hl, hc, _⟩⟩ := h
  · exact .inl h1
  · exact .inr ⟨g, off, ha, by omega, hc⟩
theorem OwnB.writes {w w' : World} {lo hi lo' hi' : Nat} {a : Option Addr} {n : Nat} {z : Nat → Int} (h : OwnB w lo hi a n z) (hw : Writes lo' hi' w w') (hd : hi ≤ lo' ∨ hi' ≤ lo) : OwnB w' lo hi a n z := by
  obtain ⟨h0, h1 | ⟨g, off, ha, h2, hl, hc, hf⟩⟩ := h
  · exact ⟨Nat.le_trans h0 hw.size, .inl h1⟩
  · have hb := hw.block g (by omega) (by omega)
    exact ⟨Nat.le_trans h0 hw.size, .inr ⟨g, off, ha, h2, hl, fun i hi => (World.cell?_of_block (w := w) (a := ⟨g, _, none⟩) hb).trans (hc i hi), fun i hi => (World.frozen?_of_block (w := w) (a := ⟨g, _, none⟩) hb).trans (hf i hi)⟩⟩
theorem OwnB.below {w w' : World} {lo hi : Nat} {a : Option Addr} {n : Nat} {z : Nat → Int} (h : OwnB w lo hi a n z) (hb : Below w.heap.size w w') : OwnB w' lo hi a n z :=
  h.writes (Writes.of_below (lo := hi) (hi := hi) hb) (.inl (Nat.le_refl _))
theorem OwnB.wide {w : World} {lo hi lo' hi' : Nat} {a : Option Addr} {n : Nat} {z : Nat → Int} (h : OwnB w lo hi a n z) (h1 : lo' ≤ lo) (h2 : hi ≤ hi') (h3 : hi' ≤ w.heap.size) : OwnB w lo' hi' a n z := by
  obtain ⟨h0, h4 | ⟨g, off, ha, h5, hl, r⟩⟩ := h
  · exact ⟨h3, .inl h4⟩
  · exact ⟨h3, .inr ⟨g, off, ha, by omega, by omega, r⟩⟩
def zOf (zs : List Int) (i : Nat) : Int := zs.getD i 0
theorem ownB_of_row {w : World} {base : Nat} {v : Value} {zs : List Int} (h : w.ownsRow base 5 1 v zs.length (bl zs)) : ∃ a cap, v = .slice a zs.length cap ∧ OwnB w base w.heap.size a zs.length (zOf zs) := by
  rcases h.2 with ⟨rfl, h0⟩ | ⟨g, cap, cur, rfl, hbg, hg, hnc, hcm, hcs, htake⟩
  · exact ⟨none, 0, by rw [h0], Nat.le_refl _, .inl h0⟩
  · have hlt : g < w.heap.size := by
      obtain ⟨hlt, _⟩ := Array.getElem?_eq_some_iff.1 hg
      exact hlt
    refine ⟨some ⟨g, 0, none⟩, cap, rfl, Nat.le_refl _, .inr ⟨g, 0, rfl, hbg, hlt, fun i hi => ?_, fun i hi => h.frozenAt _⟩⟩
    have := h.cellAt i (by omega)
    rw [Nat.zero_add, this]
    simp [bl, hi, zOf]
/-- An answer that is bytes (or a code). -/
def BRes (c : Int) (zs : List Int) (w : World) (e : Ending) (w' : World) : Prop :=
  ∃ a cap, e = .returned (.agg #[.int .i64 c, .slice a (if c = 0 then zs else []).length cap]) ∧ Below w.heap.size w w' ∧ OwnB w' w.heap.size w'.heap.size a (if c = 0 then zs else []).length (zOf (if c = 0 then zs else []))
theorem bres_bad {c : Int} {zs : List Int} {w w' : World} (hb : Below w.heap.size w w') (hc : c ≠ 0) : BRes c zs w (.returned (.agg #[.int .i64 c, .slice none 0 0])) w' := by
  rw [BRes]
  simp only [if_neg hc]
  exact ⟨none, 0, rfl, hb, Nat.le_refl _, .inl rfl⟩
theorem bres_ok {x : Int} {zs : List Int} {w wq w' : World} {a : Option Addr} {cap lo : Nat} (E : Hid (x = 0)) (hB : Below w.heap.size w wq) (hlo : w.heap.size + 2 ≤ lo)
    (ho : OwnB wq lo wq.heap.size a zs.length (zOf zs)) (hw : Writes (w.heap.size + 1) (w.heap.size + 2) wq w') (hs : w'.heap.size = wq.heap.size) :
    BRes x zs w (.returned (.agg #[.int .i64 0, .slice a zs.length cap])) w' := by
  rw [BRes, E.out]
  simp only [if_true]
  have hb : Below w.heap.size w w' := Writes.below hB hw (by omega)
  refine ⟨a, cap, rfl, hb, ?_⟩
  rw [hs]
  exact OwnB.wide (OwnB.writes ho hw (.inr (by omega))) (by omega) (Nat.le_refl _) (by omega)

def BRes2 (c : Int) (zs : List Int) (w : World) (e : Ending) (w' : World) : Prop :=
  ∃ a cap, e = .returned (.agg #[.int .i64 c, .slice a (if c = 0 then zs else []).length cap]) ∧ Below w.heap.size w w' ∧ OwnB w' w.heap.size w'.heap.size a (if c = 0 then zs else []).length (zOf (if c = 0 then zs else [])) ∧ (if c = 0 then zs else []).length ≤ cap
theorem bres2_bad {c : Int} {zs : List Int} {w w' : World} (hb : Below w.heap.size w w') (hc : c ≠ 0) : BRes2 c zs w (.returned (.agg #[.int .i64 c, .slice none 0 0])) w' := by
  rw [BRes2]
  simp only [if_neg hc]
  exact ⟨none, 0, rfl, hb, ⟨Nat.le_refl _, .inl rfl⟩, Nat.le_refl _⟩
theorem bres2_ok {x : Int} {zs : List Int} {w wq w' : World} {a : Option Addr} {cap lo : Nat} (E : Hid (x = 0)) (hB : Below w.heap.size w wq) (hlo : w.heap.size + 2 ≤ lo)
    (ho : OwnB wq lo wq.heap.size a zs.length (zOf zs)) (hw : Writes (w.heap.size + 1) (w.heap.size + 2) wq w') (hs : w'.heap.size = wq.heap.size) (hcp : zs.length ≤ cap) :
    BRes2 x zs w (.returned (.agg #[.int .i64 0, .slice a zs.length cap])) w' := by
  rw [BRes2, E.out]
  simp only [if_true]
  have hb : Below w.heap.size w w' := Writes.below hB hw (by omega)
  refine ⟨a, cap, rfl, hb, ?_, hcp⟩
  rw [hs]
  exact OwnB.wide (OwnB.writes ho hw (.inr (by omega))) (by omega) (Nat.le_refl _) (by omega)
theorem own_cap {w : World} {base : Nat} {a : Option Addr} {n cap : Nat} {xs : List Value} (h : w.ownsRow base 5 1 (.slice a n cap) n xs) : n ≤ cap := by
  rcases h.2 with ⟨e, h0⟩ | ⟨_, _, _, e, _, _, h9, _⟩
  · omega
  · simp only [Value.slice.injEq] at e
    omega
set_option maxHeartbeats 2000000 in
theorem implPack2 (idn lsn : Int) (n : Nat) (K V : Nat → Int) (a : Option Addr) (cap : Nat) (w : World) (hn : n ≤ 140737488355328) (h : CellsAt w a n K V) :
    Calls Try.prog 10 #[.agg #[.int .i64 idn, .int .i64 lsn, .slice a n cap]] w (BRes2 (pf idn lsn n K V) (pgb idn lsn n K V) w) := by
  have hb0 : ∀ o1 o2, Below w.heap.size w ((w.alloc o1).alloc o2) := fun o1 o2 => ((Below.refl _ _).alloc (Nat.le_refl _) _).alloc (by simp) _
  by_cases h0 : pf idn lsn n K V = 0
  · have HG : Hid (GoodP idn lsn n K V) := good_of h0
    have E : Hid (pf idn lsn n K V = 0) := h0
    have HBN : Hid (∀ b o, a = some ⟨b, o, none⟩ → n = 0 ∨ b < w.heap.size) := by
      intro b o e
      rcases h with h | ⟨b', o', e', hl, _⟩
      · exact .inl h
      · rw [e] at e'
        simp only [Option.some.injEq, Addr.mk.injEq, and_true] at e'
        exact .inr (by omega)
    go_enter Try.func10, Try.ntmps10
    go_wp2_with fail
    refine (implFault_any idn lsn n K V _ cap _ (by omega) (h.below (hb0 _ _))).mono ?_
    rintro e w1 ⟨rfl, hb1⟩
    rw [h0]
    have HA : Hid (CellsAt w1 a n K V) := (h.below (hb0 _ _)).below hb1
    obtain ⟨hc, hf⟩ := bcell hb1
    have hz : w.heap.size + 1 < w1.heap.size := by have hq := hb1.size; simp at hq; omega
    have k0 : w1.cell? ⟨w.heap.size, 0, none⟩ = some (.int .i64 idn) := by rw [hc _ _ (by simp <;> omega)]; simp [go_sem]
    have k1 : w1.cell? ⟨w.heap.size, 1, none⟩ = some (.int .i64 lsn) := by rw [hc _ _ (by simp <;> omega)]; simp [go_sem]
    have k2 : w1.cell? ⟨w.heap.size, 2, none⟩ = some (.slice a n cap) := by rw [hc _ _ (by simp <;> omega)]; simp [go_sem]
    have r0 : w1.cell? ⟨w.heap.size + 1, 0, none⟩ = some (.int .i64 0) := by simp [hc]
    have r1 : w1.cell? ⟨w.heap.size + 1, 1, none⟩ = some (.slice none 0 0) := by simp [hc]
    have f0 : ∀ i, w1.frozen? ⟨w.heap.size + 1, i, none⟩ = false := fun i => by simp [hf, go_sem]
    have m0 := fun o : Obj => cell_alloc k0 o
    have m1 := fun o : Obj => cell_alloc k1 o
    have m2 := fun o : Obj => cell_alloc k2 o
    have HB : Hid (Below w.heap.size w w1) := below_then (hb0 _ _) hb1
    clear h0 hc hf hb1 hb0 h
    go_wp2_with fail
    refine (putPage_any w1.heap.size idn lsn n K V a cap (w1.alloc (.cells #[.slice none 0 0] 64)) HG.out (by simp) (HA.out.below (below_new _ _)) ?_ ⟨by simp, by simp, World.ownsRow_nil _ _ _ _⟩).mono ?_
    · intro b o e
      rcases HBN.out b o e with h | h
      · exact .inl h
      · exact .inr (by omega)
    rintro e w3 ⟨rfl, v3, hm3, hos, htape, hout, hsz3, hblk⟩
    obtain ⟨a3, cap3, rfl, ho3⟩ := ownB_of_row hm3.2.2
    have HCP : Hid ((pgb idn lsn n K V).length ≤ cap3) := own_cap hm3.2.2
    have hc3 := hm3.1
    have hs3 : w1.heap.size + 1 ≤ w3.heap.size := by rw [World.size_alloc] at hsz3; exact hsz3
    have hbk : ∀ k, k < w1.heap.size → w3.heap[k]? = w1.heap[k]? := fun k hk => (hblk k (by rw [World.size_alloc]; omega) (by omega)).trans (Below.heap_alloc _ _ _ hk)
    have t0 : w3.cell? ⟨w.heap.size + 1, 0, none⟩ = some (.int .i64 0) := (World.cell?_of_block (w := w1) (a := ⟨w.heap.size + 1, 0, none⟩) (hbk _ hz)).trans r0
    have t1 : w3.cell? ⟨w.heap.size + 1, 1, none⟩ = some (.slice none 0 0) := (World.cell?_of_block (w := w1) (a := ⟨w.heap.size + 1, 1, none⟩) (hbk _ hz)).trans r1
    have fz : ∀ i, w3.frozen? ⟨w.heap.size + 1, i, none⟩ = false := fun i => (World.frozen?_of_block (w := w1) (a := ⟨w.heap.size + 1, i, none⟩) (hbk _ hz)).trans (f0 i)
    have HB3 : Hid (Below w.heap.size w w3) := ⟨hos.trans HB.out.os, htape.trans HB.out.tape, hout.trans HB.out.output, by have := HB.out.size; omega, fun k hk => (hbk k (by omega)).trans (HB.out.block k hk)⟩
    have HO3 : Hid (OwnB w3 ((w1.alloc (.cells #[.slice none 0 0] 64)).heap.size + 1) w3.heap.size a3 (pgb idn lsn n K V).length (zOf (pgb idn lsn n K V))) := ho3
    generalize pgb idn lsn n K V = Z at *
    clear hm3 ho3 hblk hbk hos htape hout hsz3 r0 r1 f0 m0 m1 m2 k0 k1 k2 HA
    go_wp2_with fail
    refine bodyPost_ret (v := .agg #[.int .i64 0, .slice a3 Z.length cap3]) (by simp [results, Try.results10, go_sem, *]) rfl ?_
    refine bres2_ok E HB3.out ?_ HO3.out ?_ (by simp [World.setCell]) HCP.out
    · rw [World.size_alloc]; omega
    · repeat (first | exact Writes.refl _ _ _ | apply Writes.drew | refine Writes.setCell ?_ (by first | omega | (simp <;> omega)) (by first | omega | (simp <;> omega)) _)
  · have hd : (pf idn lsn n K V != 0) = true := by simpa using h0
    have HNZ : Hid (pf idn lsn n K V ≠ 0) := h0
    go_enter Try.func10, Try.ntmps10
    go_wp2_with fail
    refine (implFault_any idn lsn n K V _ cap _ (by omega) (h.below (hb0 _ _))).mono ?_
    rintro e w1 ⟨rfl, hb1⟩
    obtain ⟨hc, hf⟩ := bcell hb1
    generalize pf idn lsn n K V = c at *
    clear h0
    go_wp2_with fail
    refine bodyPost_ret (v := .agg #[.int .i64 c, .slice none 0 0]) (by simp [results, Try.results10, go_sem, hc]) rfl ?_
    refine bres2_bad ?_ HNZ.out
    repeat (first | exact below_then (hb0 _ _) hb1 | refine Below.setCell ?_ (by first | omega | (simp <;> omega)) _)
theorem implPack_any (idn lsn : Int) (n : Nat) (K V : Nat → Int) (a : Option Addr) (cap : Nat) (w : World) (hn : n ≤ 140737488355328) (h : CellsAt w a n K V) :
    Calls Try.prog 10 #[.agg #[.int .i64 idn, .int .i64 lsn, .slice a n cap]] w (BRes (pf idn lsn n K V) (pgb idn lsn n K V) w) := by
  refine (implPack2 idn lsn n K V a cap w hn h).mono ?_
  rintro e w' ⟨a', cap', h1, h2, h3, h4⟩
  exact ⟨a', cap', h1, h2, h3⟩
end Go.Proofs.Ytnhkjdcbaphfcaa
